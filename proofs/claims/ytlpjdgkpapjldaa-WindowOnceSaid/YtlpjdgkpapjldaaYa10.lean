/- What the proofs of this seat stand on; it asks nothing. -/
import Derived.Test.YtlpjdgkpapjldaaYa09
set_option linter.unusedSimpArgs false
set_option linter.unusedVariables false
namespace Go.Proofs.Ytlpjdgkpapjldaa
open Ax
def ltW (Z L s M : Int) : Bool := decide (s + Z + L ≤ M)
def smlW (x : Int) : Prop := -1152921504606846976 ≤ x ∧ x ≤ 1152921504606846976
def lateWS : zay
 | [.agg [.w (.int .i64 Z),.w (.int .i64 L),.w (.int .i64 M),.w (.int .i64 D),.sg 6 xs f],.w (.int .i64 s),.w (.int .i64 m)],[] => ⟨smlW Z ∧ smlW L ∧ smlW s,.w (.bool (ltW Z L s m)),[]⟩
 | _,_ => zdj
def opW (Z L M : Int) (l : List WS) : List WS := l.filter fun r => !ltW Z L r.s M
def clW (Z L M : Int) (l : List WS) : List WS := l.filter fun r => ltW Z L r.s M
def partWS : zay
 | [.agg [.w (.int .i64 Z),.w (.int .i64 L),.w (.int .i64 M),.w (.int .i64 D),.sg 6 xs f]],[] => ⟨(xs.length ≤ 1000000 ∧ smlW Z ∧ smlW L) ∧ ∃ l : List WS,xs = l.map wsA ∧ ∀ r ∈ l,smlW r.s,.tup [.agg [.w (.int .i64 Z),.w (.int .i64 L),.w (.int .i64 M),.w (.int .i64 D),.sg 6 ((opW Z L M (xs.map uws)).map wsA) false],.sg 6 ((clW Z L M (xs.map uws)).map wsA) false],[]⟩
 | _,_ => zdj
theorem fg_ws (id s : Nat) (zs : List AV) : ∀ (l : List WS),fgL id s zs (l.map wsA) = l.map wsA
 | [] => rfl
 | x :: l => by
   show AV.fg id s zs (wsA x) :: fgL id s zs (l.map wsA) = wsA x :: l.map wsA
   rw [fg_ws id s zs l]
   rfl
section
set_option maxRecDepth 100000
set_option maxHeartbeats 8000000
theorem late35_sound : zbz Try.prog 27 lateWS := by
 refine zdu (S := noS) (T := ty) zdc ty_ok noS_ok Try.func27 (c := Try.f27.body.getD .skip) (by kernel_rfl) (by kernel_rfl) (fun xs pins hp _ => ?_)
 unfold lateWS at hp ⊢
 split at hp
 · rename_i Z L M D xs f s m _
   obtain ⟨⟨h1,h2⟩,⟨h3,h4⟩,h5,h6⟩ := hp
   have w1 : (s + Z + 9223372036854775808) % 18446744073709551616 - 9223372036854775808 = s + Z := by omega
   have w2 : (s + Z + L + 9223372036854775808) % 18446744073709551616 - 9223372036854775808 = s + Z + L := by omega
   refine ⟨by simp,?_⟩
   unfold Try.f27 ltW
   simp only [go_sem,zac,Nat.reduceAdd,Nat.reduceSub,Nat.reduceMul,Int.reduceToNat,reduceCtorEq,↓reduceIte,Int.reducePow,Nat.reducePow,Int.reduceMod,Nat.reduceLeDiff,Int.reduceLE,Int.reduceNe,Int.reduceEq,Nat.reduceEqDiff,Nat.reduceLT,Nat.reduceBEq,ty,noS,w1,w2]
 · exact hp.elim
def SpartW (f : FuncId) : Option zay :=
 match f with
 | 27 => some lateWS
 | _ => none
theorem SpartW_ok : Fns Try.prog SpartW := by
 intro f s h
 unfold SpartW at h
 split at h
 · injection h with h; subst h; exact ⟨⟨_,Try.func27,by kernel_rfl,by kernel_rfl⟩,late35_sound⟩
 · cases h
theorem part_sound : zbz Try.prog 29 partWS := by
 refine fn_soundW (S := SpartW) (T := ty) zdc ty_ok SpartW_ok Try.func29 (c := Try.f29.body.getD .skip) (by kernel_rfl) (by kernel_rfl) (fun xs pins hp _ => ?_)
 unfold partWS at hp ⊢
 split at hp
 · rename_i Z L M D xs f _
   obtain ⟨⟨hL,hZ,hLt⟩,l,rfl,hs⟩ := hp
   rw [List.length_map] at hL
   rw [zam]
   have hle : (l.map wsA).length = l.length := by simp
   have ht : top = 4294967296 := rfl
   refine ⟨by simp,?_⟩
   unfold Try.f29
   simp only [go_sem,zac,Nat.reduceAdd,Nat.reduceSub,Nat.reduceMul,Int.reduceToNat,reduceCtorEq,↓reduceIte,Int.reducePow,Nat.reducePow,Int.reduceMod,Nat.reduceLeDiff,Int.reduceLE,Int.reduceNe,Int.reduceEq,Nat.reduceEqDiff,Nat.reduceLT,Nat.reduceBEq,ty,SpartW,hle]
   refine awp_loopW ⟨fun m σ => ∃ (j a b : Nat),m = l.length - j ∧ j ≤ l.length ∧ a = (opW Z L M (l.take j)).length ∧ b = (clW Z L M (l.take j)).length ∧
     σ = ⟨[.agg [.w (.int .i64 Z),.w (.int .i64 L),.w (.int .i64 M),.w (.int .i64 D),.sg 6 (l.map wsA) f],.rf 4 5 0 0,.rf 5 5 0 0,.sg 1 [] true,.ms 6 6 0 a,.ms 7 6 0 b,.junk,.junk,.junk,.sg 6 (l.map wsA) f,.w (.int .i64 l.length),.w (.int .i64 j),.junk,.junk,.junk,.junk,.junk,.junk,.junk,.junk,.junk,.junk,.junk,.junk,.junk,.junk,.junk,.junk,.junk,.junk,.junk,.junk,.junk,.junk],
       [(4,.g 5 [.agg [.w (.int .i64 Z),.w (.int .i64 L),.w (.int .i64 M),.w (.int .i64 D),.sg 6 (l.map wsA) f]]),(5,.g 5 [.agg [.w (.int .i64 0),.w (.int .i64 0),.w (.int .i64 0),.w (.int .i64 0),.sg 6 [] true]]),(6,.g 6 ((opW Z L M (l.take j)).map wsA)),(7,.g 6 ((clW Z L M (l.take j)).map wsA))],8⟩,?_,?_⟩
   · refine ⟨_,_,(weak_nil 4 6 (.g 6 []) ⟨by decide,rfl⟩ (by exact trivial)).trans ((weak_nil 5 6 (.g 6 []) ⟨by decide,rfl⟩ (by exact trivial)).trans (zao [0,1,2,3,4,12,76,77] rfl rfl rfl ?_ ?_)),0,0,0,rfl,by omega,rfl,rfl,rfl⟩
     · simp only [ssT,zav,zaw,setSlot,gOf,AV.ren,renL,Blk.ren,Ax.look,Ax.put,reduceCtorEq,↓reduceIte,Nat.reduceEqDiff,Nat.reduceLT,Nat.reduceAdd,List.length_append,List.length_cons,List.length_nil,Option.some.injEq]; try simp
     · simp only [ssT,zav,zaw,setSlot,gOf,AV.ren,renL,Blk.ren,Ax.look,Ax.put,reduceCtorEq,↓reduceIte,Nat.reduceEqDiff,Nat.reduceLT,Nat.reduceAdd,List.length_append,List.length_cons,List.length_nil,Option.some.injEq]; try simp [renL,opW,clW]
       try rfl
   · rintro m σ ⟨j,a,b,rfl,hj,ha,hb,rfl⟩
     have hla : ((opW Z L M (l.take j)).map wsA).length = a := by rw [List.length_map]; exact ha.symm
     have hlb : ((clW Z L M (l.take j)).map wsA).length = b := by rw [List.length_map]; exact hb.symm
     have hab : a ≤ j ∧ b ≤ j := by
       have h1 : a ≤ (l.take j).length := by rw [ha]; exact List.length_filter_le _ _
       have h2 : b ≤ (l.take j).length := by rw [hb]; exact List.length_filter_le _ _
       rw [List.length_take] at h1 h2
       omega
     by_cases hjl : j < l.length
     · have e1 : ((j : Int) + 1 + 9223372036854775808) % 18446744073709551616 - 9223372036854775808 = ((j + 1 : Nat) : Int) := by omega
       have d1 : decide ((j : Int) < l.length) = true := decide_eq_true (by omega)
       have hs1 := zcb l j hjl
       have hsm := hs l[j] (List.getElem_mem hjl)
       have htk : l.take (j + 1) = l.take j ++ [l[j]] := List.take_succ_eq_append_getElem hjl
       obtain ⟨r,hr⟩ : ∃ r,l[j] = r := ⟨_,rfl⟩
       rw [hr] at hs1 hsm htk
       obtain ⟨s,k,c,t,x,y⟩ := r
       have hs1 : slot (l.map wsA) j = .agg [.w (.int .i64 s),.str k,.w (.int .i64 c),.w (.int .i64 t),.w (.int .i64 x),.w (.int .i64 y)] := hs1
       simp only at hsm
       cases hv : ltW Z L s M with
       | true =>
         have ho : opW Z L M (l.take (j + 1)) = opW Z L M (l.take j) := by unfold opW; rw [htk,List.filter_append]; simp [hv]
         have hc : clW Z L M (l.take (j + 1)) = clW Z L M (l.take j) ++ [⟨s,k,c,t,x,y⟩] := by unfold clW; rw [htk,List.filter_append]; simp [hv]
         have hat : (clW Z L M (l.take j)).map wsA ++ [.agg [.w (.int .i64 s),.str k,.w (.int .i64 c),.w (.int .i64 t),.w (.int .i64 x),.w (.int .i64 y)]] = (clW Z L M (l.take (j + 1))).map wsA := by rw [hc,List.map_append]; rfl
         simp only [go_sem,zac,Nat.reduceAdd,Nat.reduceSub,Nat.reduceMul,Int.reduceToNat,reduceCtorEq,↓reduceIte,Int.reducePow,Nat.reducePow,Int.reduceMod,Nat.reduceLeDiff,Int.reduceLE,Int.reduceNe,Int.reduceEq,Nat.reduceEqDiff,Nat.reduceLT,Nat.reduceBEq,ty,SpartW,lateWS,hle,hlb,d1,e1,hs1,hv,hsm,hZ,hLt,zdd,hat,Int.toNat_natCast,Bool.not_true,Bool.not_false]
         refine ⟨⟨by omega,by omega⟩,by omega,l.length - (j + 1),_,by omega,zao [0,1,2,3,4,5,6,120] rfl rfl rfl ?_ ?_,j + 1,a,b + 1,rfl,by omega,by rw [ho]; exact ha,by rw [hc,List.length_append,← hb]; rfl,rfl⟩
         · simp only [ssT,zav,zaw,setSlot,gOf,AV.ren,renL,Blk.ren,Ax.look,Ax.put,reduceCtorEq,↓reduceIte,Nat.reduceEqDiff,Nat.reduceLT,Nat.reduceAdd,List.length_append,List.length_cons,List.length_nil,Option.some.injEq]; try simp
         · simp only [ssT,zav,zaw,setSlot,gOf,AV.ren,renL,Blk.ren,Ax.look,Ax.put,reduceCtorEq,↓reduceIte,Nat.reduceEqDiff,Nat.reduceLT,Nat.reduceAdd,List.length_append,List.length_cons,List.length_nil,Option.some.injEq,zaz,ho]; try simp
       | false =>
         have ho : opW Z L M (l.take (j + 1)) = opW Z L M (l.take j) ++ [⟨s,k,c,t,x,y⟩] := by unfold opW; rw [htk,List.filter_append]; simp [hv]
         have hc : clW Z L M (l.take (j + 1)) = clW Z L M (l.take j) := by unfold clW; rw [htk,List.filter_append]; simp [hv]
         have hat : (opW Z L M (l.take j)).map wsA ++ [.agg [.w (.int .i64 s),.str k,.w (.int .i64 c),.w (.int .i64 t),.w (.int .i64 x),.w (.int .i64 y)]] = (opW Z L M (l.take (j + 1))).map wsA := by rw [ho,List.map_append]; rfl
         simp only [go_sem,zac,Nat.reduceAdd,Nat.reduceSub,Nat.reduceMul,Int.reduceToNat,reduceCtorEq,↓reduceIte,Int.reducePow,Nat.reducePow,Int.reduceMod,Nat.reduceLeDiff,Int.reduceLE,Int.reduceNe,Int.reduceEq,Nat.reduceEqDiff,Nat.reduceLT,Nat.reduceBEq,ty,SpartW,lateWS,hle,hla,d1,e1,hs1,hv,hsm,hZ,hLt,zdd,hat,Int.toNat_natCast,Bool.not_true,Bool.not_false]
         refine ⟨⟨by omega,by omega⟩,by omega,l.length - (j + 1),_,by omega,zao [0,1,2,3,4,5,120,7] rfl rfl rfl ?_ ?_,j + 1,a + 1,b,rfl,by omega,by rw [ho,List.length_append,← ha]; rfl,by rw [hc]; exact hb,rfl⟩
         · simp only [ssT,zav,zaw,setSlot,gOf,AV.ren,renL,Blk.ren,Ax.look,Ax.put,reduceCtorEq,↓reduceIte,Nat.reduceEqDiff,Nat.reduceLT,Nat.reduceAdd,List.length_append,List.length_cons,List.length_nil,Option.some.injEq]; try simp
         · simp only [ssT,zav,zaw,setSlot,gOf,AV.ren,renL,Blk.ren,Ax.look,Ax.put,reduceCtorEq,↓reduceIte,Nat.reduceEqDiff,Nat.reduceLT,Nat.reduceAdd,List.length_append,List.length_cons,List.length_nil,Option.some.injEq,zaz,hc]; try simp
     · have d1 : decide ((j : Int) < l.length) = false := decide_eq_false (by omega)
       have hii : l.take j = l := List.take_of_length_le (by omega)
       rw [hii] at hla hlb ha hb ⊢
       simp only [go_sem,zac,Nat.reduceAdd,Nat.reduceSub,Nat.reduceMul,Int.reduceToNat,reduceCtorEq,↓reduceIte,Int.reducePow,Nat.reducePow,Int.reduceMod,Nat.reduceLeDiff,Int.reduceLE,Int.reduceNe,Int.reduceEq,Nat.reduceEqDiff,Nat.reduceLT,Nat.reduceBEq,ty,SpartW,hle,d1]
       have dla : decide (0 + a ≤ ((opW Z L M l).map wsA).length) = true := decide_eq_true (by omega)
       have dlb : decide (0 + b ≤ ((clW Z L M l).map wsA).length) = true := decide_eq_true (by omega)
       have tka : ((opW Z L M l).map wsA).take a = (opW Z L M l).map wsA := List.take_of_length_le (by omega)
       have tkb : ((clW Z L M l).map wsA).take b = (clW Z L M l).map wsA := List.take_of_length_le (by omega)
       refine ⟨_,(weak_fg 6 6 4 ((opW Z L M l).map wsA) rfl (zal _) (by simp [slot,AV.ids])).trans (weak_fg 7 6 5 ((clW Z L M l).map wsA) ?_ (zal _) ?_),?_⟩
       · simp [fgH,Ax.look,Blk.fg,fg_ws]
       · simp [fgL,AV.fg,slot,AV.ids]
       simp only [fgL,fgH,AV.fg,Blk.fg,Nat.reduceBEq,cond_true,cond_false,beq_self_eq_true,Bool.true_and,List.drop_zero,fg_ws,dla,dlb,tka,tkb]
       simp only [go_sem,zac,Nat.reduceAdd,Nat.reduceSub,Nat.reduceMul,Int.reduceToNat,reduceCtorEq,↓reduceIte,Int.reducePow,Nat.reducePow,Int.reduceMod,Nat.reduceLeDiff,Int.reduceLE,Int.reduceNe,Int.reduceEq,Nat.reduceEqDiff,Nat.reduceLT,Nat.reduceBEq,ty,SpartW]
       refine ⟨_,Weak.refl _,?_⟩
       simp only [go_sem,zac,Nat.reduceAdd,Nat.reduceSub,Nat.reduceMul,Int.reduceToNat,reduceCtorEq,↓reduceIte,Int.reducePow,Nat.reducePow,Int.reduceMod,Nat.reduceLeDiff,Int.reduceLE,Int.reduceNe,Int.reduceEq,Nat.reduceEqDiff,Nat.reduceLT,Nat.reduceBEq,ty,SpartW,zal,zaz,cond_true]
 · exact hp.elim
end
end Go.Proofs.Ytlpjdgkpapjldaa
namespace Go.Proofs.Ytlpjdgkpapjldaa
open Ax
def wthW (r : WS) (n : Int) : WS := ⟨r.s,r.k,r.c + 1,r.t + n,if n < r.a then n else r.a,if r.b < n then n else r.b⟩
def rowW (s : Int) (k : List UInt8) (l : List WS) : WS := (l[plW s k l]?).getD ⟨0,[],0,0,0,0⟩
def insW (s : Int) (k : List UInt8) (n : Int) (l : List WS) : List WS := l.take (plW s k l) ++ ⟨s,k,1,n,n,n⟩ :: l.drop (plW s k l)
def zW : AV := .agg [.w (.int .i64 0),.w (.int .i64 0),.w (.int .i64 0),.w (.int .i64 0),.sg 6 [] true]
def cntR (Z L M D s : Int) (k : List UInt8) (N : Int) (l : List WS) : Bool → Bool → Bool → AV × List Blk
 | true,true,_ => (.tup [zW,.w (.int .i64 9)],[.g 6 (l.map wsA)])
 | true,false,_ => (.tup [.agg [.w (.int .i64 Z),.w (.int .i64 L),.w (.int .i64 M),.w (.int .i64 D),.ms 0 6 0 l.length],.w (.int .i64 0)],[.g 6 ((l.set (plW s k l) (wthW (rowW s k l) N)).map wsA)])
 | false,_,true => (.tup [zW,.w (.int .i64 9)],[.g 6 (l.map wsA)])
 | false,_,false => (.tup [.agg [.w (.int .i64 Z),.w (.int .i64 L),.w (.int .i64 M),.w (.int .i64 D),.ms 1 6 0 (l.length + 1)],.w (.int .i64 0)],[gone,.g 6 ((insW s k N l).map wsA)])
def cntV (Z L M D s : Int) (k : List UInt8) (N : Int) (l : List WS) : AV × List Blk := cntR Z L M D s k N l (thW s k l) (decide (1048576 ≤ (rowW s k l).c)) (decide (256 ≤ l.length))
def cntWS : zay
 | [.agg [.w (.int .i64 Z),.w (.int .i64 L),.w (.int .i64 M),.w (.int .i64 D),.sg 6 [] true],.agg [.w (.int .i64 s),.str k],.w (.int .i64 N)],[] => ⟨True,.tup [.agg [.w (.int .i64 Z),.w (.int .i64 L),.w (.int .i64 M),.w (.int .i64 D),.ms 0 6 0 1],.w (.int .i64 0)],[.g 6 [.agg [.w (.int .i64 s),.str k,.w (.int .i64 1),.w (.int .i64 N),.w (.int .i64 N),.w (.int .i64 N)]]]⟩
 | [.agg [.w (.int .i64 Z),.w (.int .i64 L),.w (.int .i64 M),.w (.int .i64 D),.ms 0 6 0 n],.agg [.w (.int .i64 s),.str k],.w (.int .i64 N)],[.g 6 xs] => ⟨(n = xs.length ∧ 0 < n ∧ n ≤ 999999) ∧ smlW N ∧ ∃ l : List WS,xs = l.map wsA ∧ risW l = true ∧ ∀ r ∈ l,smlW r.c ∧ smlW r.t,
     (cntV Z L M D s k N (xs.map uws)).1,(cntV Z L M D s k N (xs.map uws)).2⟩
 | _,_ => zdj
theorem row_eq {s : Int} {k : List UInt8} {l : List WS} (h : plW s k l < l.length) : rowW s k l = l[plW s k l] := by
 unfold rowW; rw [List.getElem?_eq_getElem h]; rfl
theorem th_lt {s : Int} {k : List UInt8} {l : List WS} (hr : risW l = true) (h : thW s k l = true) : plW s k l < l.length := by
 rw [← eq_pl s k l hr h]
 have := thW_idx s k l
 rw [h] at this
 exact of_decide_eq_true this.symm
theorem insW_map (s : Int) (k : List UInt8) (N : Int) (l : List WS) : insL (l.map wsA) l.length (plW s k l) (.agg [.w (.int .i64 s),.str k,.w (.int .i64 1),.w (.int .i64 N),.w (.int .i64 N),.w (.int .i64 N)]) = (insW s k N l).map wsA := by
 unfold insL insW
 rw [show (l.map wsA).take l.length = l.map wsA from List.take_of_length_le (by simp)]
 simp only [List.map_append,List.map_take,List.map_drop,List.map_cons]
 rfl
theorem mem_ws {l : List WS} : ∀ y,y ∈ l.map wsA → y.closed = true := by
 intro y hy
 obtain ⟨c,_,rfl⟩ := List.mem_map.1 hy
 rfl
theorem coeNW : coe ty 29 (.sg 6 [] true) = .sg 6 [] true := rfl
theorem zeq (r : WS) : ∀ (cs : List WS) (w : Nat),w < cs.length → setSlot (cs.map wsA) w (wsA r) = (cs.set w r).map wsA
 | x :: cs,0,_ => rfl
 | x :: cs,w + 1,h => by
   show wsA x :: setSlot (cs.map wsA) w (wsA r) = wsA x :: (cs.set w r).map wsA
   rw [zeq r cs w (by simpa using h)]
def SctW (f : FuncId) : Option zay :=
 match f with
 | 50 => some zft
 | 51 => some insNWS
 | _ => none
theorem SctW_ok : Fns Try.prog SctW := by
 intro f s h
 unfold SctW at h
 split at h
 · injection h with h; subst h; exact ⟨⟨_,Try.func50,by kernel_rfl,by kernel_rfl⟩,place35_sound⟩
 · injection h with h; subst h; exact ⟨⟨_,Try.func51,by kernel_rfl,by kernel_rfl⟩,insNW_sound⟩
 · cases h
def SOctW (f : FuncId) : Option zay :=
 match f with
 | 51 => some (insS 6)
 | _ => none
theorem SOctW_ok : FnsO Try.prog SOctW := by
 intro f s h
 unfold SOctW at h
 split at h
 · injection h with h; subst h; exact ⟨⟨_,Try.func51,by kernel_rfl,by kernel_rfl⟩,insGIW_sound⟩
 · cases h
def cntPl0 : XPlan := fun _ => .std
def cntPl : XPlan := fun id => match id with
 | 5 => .opn [] 12
 | 12 => .prs []
 | _ => .std
theorem pl_nil (s : Int) (k : List UInt8) : plW s k [] = 0 := rfl
theorem th_nil (s : Int) (k : List UInt8) : thW s k [] = false := rfl
section
set_option maxRecDepth 100000
set_option maxHeartbeats 8000000
theorem cntW_sound : SoundO Try.prog 28 cntWS := by
 refine fn_soundO (S := SctW) (SO := SOctW) (T := ty) zdc ty_ok SctW_ok SOctW_ok Try.func28 (c := Try.f28.body.getD .skip) (by kernel_rfl) (fun xs pins hp => ?_)
 unfold cntWS at hp ⊢
 split at hp
 · rename_i Z L M D s k N
   have hex : ∃ l : List WS,([] : List AV) = l.map wsA ∧ risW l = true := ⟨[],rfl,rfl⟩
   have l0 : ([] : List AV).length = 0 := rfl
   have cst : ((0 : Nat) : Int) = 0 := rfl
   have dl : decide ((256 : Int) ≤ 0) = false := rfl
   refine ⟨by simp,cntPl0,by kernel_rfl,?_⟩
   unfold Try.f28
   simp only [go_sem,zaa,Nat.reduceAdd,Nat.reduceSub,Nat.reduceMul,Int.reduceToNat,reduceCtorEq,↓reduceIte,Int.reducePow,Nat.reducePow,Int.reduceMod,Nat.reduceLeDiff,Int.reduceLE,Int.reduceNe,Int.reduceEq,Nat.reduceEqDiff,Nat.reduceLT,Nat.reduceBEq,List.map_cons,List.map_nil,List.toList_toArray,Array.toList_append,Option.toArray_some,Option.toArray_none,Bool.and_self,ty,SctW,SOctW,cntPl0,zft,insNWS,coeNW,l0,cst,dl,hex,List.map_nil,pl_nil,th_nil,Bool.not_true,Bool.not_false]
   refine ⟨fun y e => by rw [e]; rfl,?_⟩
   refine ⟨_,Weak.refl _,?_⟩
   simp only [go_sem,zaa,Nat.reduceAdd,Nat.reduceSub,Nat.reduceMul,Int.reduceToNat,reduceCtorEq,↓reduceIte,Int.reducePow,Nat.reducePow,Int.reduceMod,Nat.reduceLeDiff,Int.reduceLE,Int.reduceNe,Int.reduceEq,Nat.reduceEqDiff,Nat.reduceLT,Nat.reduceBEq,List.map_cons,List.map_nil,List.toList_toArray,Array.toList_append,Option.toArray_some,Option.toArray_none,Bool.and_self,ty,SctW]
 · rename_i Z L M D n s k N xs
   obtain ⟨⟨rfl,h0,h6⟩,hN,l,rfl,hris,hsm⟩ := hp
   rw [List.length_map] at h0 h6
   rw [zam]
   have hle : (l.map wsA).length = l.length := by simp
   have hcl := zal l
   have hex : ∃ p : List WS,l.map wsA = p.map wsA ∧ risW p = true := ⟨l,rfl,hris⟩
   have hL : l.length ≤ 1000000 := by omega
   have hpos : decide (0 < l.length) = true := decide_eq_true h0
   have hpl := plW_le s k l
   have htk : (l.map wsA).take l.length = l.map wsA := List.take_of_length_le (by simp)
   unfold cntV
   refine ⟨by simp,cntPl,by kernel_rfl,?_⟩
   unfold Try.f28
   cases hth : thW s k l with
   | true =>
     have hlt := th_lt hris hth
     have hrow := row_eq hlt
     have hs1 := zcb l _ hlt
     have hmem := hsm _ (List.getElem_mem hlt)
     rw [← hrow] at hs1 hmem
     obtain ⟨r,hr⟩ : ∃ r,rowW s k l = r := ⟨_,rfl⟩
     have hset := zeq (wthW r N) l _ hlt
     rw [hr] at hs1 hmem ⊢
     obtain ⟨PL,hPL⟩ : ∃ n,plW s k l = n := ⟨_,rfl⟩
     rw [hPL] at hs1 hset hlt hpl
     obtain ⟨rs,rk,rc,rt,ra,rb⟩ := r
     have hs1 : slot (l.map wsA) PL = .agg [.w (.int .i64 rs),.str rk,.w (.int .i64 rc),.w (.int .i64 rt),.w (.int .i64 ra),.w (.int .i64 rb)] := hs1
     obtain ⟨⟨m1,m2⟩,m3,m4⟩ := hmem
     obtain ⟨n1,n2⟩ := hN
     simp only at m1 m2 m3 m4
     have t1 : setSlot (l.map wsA) PL (.agg [.w (.int .i64 rs),.str rk,.w (.int .i64 (rc + 1)),.w (.int .i64 rt),.w (.int .i64 ra),.w (.int .i64 rb)]) = (l.set PL ⟨rs,rk,rc + 1,rt,ra,rb⟩).map wsA := zeq ⟨rs,rk,rc + 1,rt,ra,rb⟩ l PL hlt
     have t2 : setSlot ((l.set PL ⟨rs,rk,rc + 1,rt,ra,rb⟩).map wsA) PL (.agg [.w (.int .i64 rs),.str rk,.w (.int .i64 (rc + 1)),.w (.int .i64 (rt + N)),.w (.int .i64 ra),.w (.int .i64 rb)]) = (l.set PL ⟨rs,rk,rc + 1,rt + N,ra,rb⟩).map wsA := by
       have := zeq ⟨rs,rk,rc + 1,rt + N,ra,rb⟩ (l.set PL ⟨rs,rk,rc + 1,rt,ra,rb⟩) PL (by rw [List.length_set]; exact hlt)
       rw [List.set_set] at this; exact this
     have t3 : setSlot ((l.set PL ⟨rs,rk,rc + 1,rt + N,ra,rb⟩).map wsA) PL (.agg [.w (.int .i64 rs),.str rk,.w (.int .i64 (rc + 1)),.w (.int .i64 (rt + N)),.w (.int .i64 ((if N < ra then N else ra))),.w (.int .i64 rb)]) = (l.set PL ⟨rs,rk,rc + 1,rt + N,(if N < ra then N else ra),rb⟩).map wsA := by
       have := zeq ⟨rs,rk,rc + 1,rt + N,(if N < ra then N else ra),rb⟩ (l.set PL ⟨rs,rk,rc + 1,rt + N,ra,rb⟩) PL (by rw [List.length_set]; exact hlt)
       rw [List.set_set] at this; exact this
     have t4 : setSlot ((l.set PL ⟨rs,rk,rc + 1,rt + N,(if N < ra then N else ra),rb⟩).map wsA) PL (.agg [.w (.int .i64 rs),.str rk,.w (.int .i64 (rc + 1)),.w (.int .i64 (rt + N)),.w (.int .i64 ((if N < ra then N else ra))),.w (.int .i64 (if rb < N then N else rb))]) = (l.set PL (wthW ⟨rs,rk,rc,rt,ra,rb⟩ N)).map wsA := by
       have := zeq (wthW ⟨rs,rk,rc,rt,ra,rb⟩ N) (l.set PL ⟨rs,rk,rc + 1,rt + N,(if N < ra then N else ra),rb⟩) PL (by rw [List.length_set]; exact hlt)
       rw [List.set_set] at this; exact this
     have u1 : ∀ x : WS,slot ((l.set PL x).map wsA) PL = .agg [.w (.int .i64 x.s),.str x.k,.w (.int .i64 x.c),.w (.int .i64 x.t),.w (.int .i64 x.a),.w (.int .i64 x.b)] := fun x => by
       have := zcb (l.set PL x) PL (by rw [List.length_set]; exact hlt)
       rw [List.getElem_set_self] at this; exact this
     have u2 : ∀ x : WS,((l.set PL x).map wsA).length = l.length := fun x => by simp
     have w1 : (rc + 1 + 9223372036854775808) % 18446744073709551616 - 9223372036854775808 = rc + 1 := by omega
     have w2 : (rt + N + 9223372036854775808) % 18446744073709551616 - 9223372036854775808 = rt + N := by omega
     cases hf : decide (1048576 ≤ rc) with
     | true =>
       simp only [cntR,hr,hf,hPL,hle]
       simp only [go_sem,zaa,Nat.reduceAdd,Nat.reduceSub,Nat.reduceMul,Int.reduceToNat,reduceCtorEq,↓reduceIte,Int.reducePow,Nat.reducePow,Int.reduceMod,Nat.reduceLeDiff,Int.reduceLE,Int.reduceNe,Int.reduceEq,Nat.reduceEqDiff,Nat.reduceLT,Nat.reduceBEq,List.map_cons,List.map_nil,List.toList_toArray,Array.toList_append,Option.toArray_some,Option.toArray_none,Bool.and_self,ty,SctW,SOctW,cntPl,zft,hle,hL,hpos,htk,hcl,hex,hth,hPL,hs1,hf,zam,Int.toNat_natCast,Bool.not_true,Bool.not_false]
       refine ⟨mem_ws,⟨by omega,by omega⟩,by omega,?_⟩
       refine ⟨_,Weak.refl _,?_⟩
       simp only [go_sem,zaa,Nat.reduceAdd,Nat.reduceSub,Nat.reduceMul,Int.reduceToNat,reduceCtorEq,↓reduceIte,Int.reducePow,Nat.reducePow,Int.reduceMod,Nat.reduceLeDiff,Int.reduceLE,Int.reduceNe,Int.reduceEq,Nat.reduceEqDiff,Nat.reduceLT,Nat.reduceBEq,List.map_cons,List.map_nil,List.toList_toArray,Array.toList_append,Option.toArray_some,Option.toArray_none,Bool.and_self,ty,SctW,zW,hcl]
     | false =>
       simp only [cntR,hr,hf,hPL,hle]
       simp only [go_sem,zaa,Nat.reduceAdd,Nat.reduceSub,Nat.reduceMul,Int.reduceToNat,reduceCtorEq,↓reduceIte,Int.reducePow,Nat.reducePow,Int.reduceMod,Nat.reduceLeDiff,Int.reduceLE,Int.reduceNe,Int.reduceEq,Nat.reduceEqDiff,Nat.reduceLT,Nat.reduceBEq,List.map_cons,List.map_nil,List.toList_toArray,Array.toList_append,Option.toArray_some,Option.toArray_none,Bool.and_self,ty,SctW,SOctW,cntPl,zft,hle,hL,hpos,htk,hcl,hex,hth,hPL,hs1,hf,w1,w2,t1,t2,t3,t4,u1,u2,zdd,zal,zam,Int.toNat_natCast,Bool.not_true,Bool.not_false]
       refine ⟨mem_ws,?_⟩
       repeat (refine And.intro (by omega) ?_)
       refine ⟨_,Weak.refl _,?_⟩
       simp only [go_sem,zaa,Nat.reduceAdd,Nat.reduceSub,Nat.reduceMul,Int.reduceToNat,reduceCtorEq,↓reduceIte,Int.reducePow,Nat.reducePow,Int.reduceMod,Nat.reduceLeDiff,Int.reduceLE,Int.reduceNe,Int.reduceEq,Nat.reduceEqDiff,Nat.reduceLT,Nat.reduceBEq,List.map_cons,List.map_nil,List.toList_toArray,Array.toList_append,Option.toArray_some,Option.toArray_none,Bool.and_self,ty,SctW,zal,zaz,cond_true]
   | false =>
     cases hf : decide (256 ≤ l.length) with
     | true =>
       have d1 : decide ((256 : Int) ≤ (l.length : Int)) = true := decide_eq_true (by have := of_decide_eq_true hf; omega)
       simp only [cntR,hf,hle]
       simp only [go_sem,zaa,Nat.reduceAdd,Nat.reduceSub,Nat.reduceMul,Int.reduceToNat,reduceCtorEq,↓reduceIte,Int.reducePow,Nat.reducePow,Int.reduceMod,Nat.reduceLeDiff,Int.reduceLE,Int.reduceNe,Int.reduceEq,Nat.reduceEqDiff,Nat.reduceLT,Nat.reduceBEq,List.map_cons,List.map_nil,List.toList_toArray,Array.toList_append,Option.toArray_some,Option.toArray_none,Bool.and_self,ty,SctW,SOctW,cntPl,zft,hle,hL,hpos,htk,hcl,hex,hth,d1,zam,Int.toNat_natCast,Bool.not_true,Bool.not_false]
       refine ⟨mem_ws,?_⟩
       refine ⟨_,Weak.refl _,?_⟩
       simp only [go_sem,zaa,Nat.reduceAdd,Nat.reduceSub,Nat.reduceMul,Int.reduceToNat,reduceCtorEq,↓reduceIte,Int.reducePow,Nat.reducePow,Int.reduceMod,Nat.reduceLeDiff,Int.reduceLE,Int.reduceNe,Int.reduceEq,Nat.reduceEqDiff,Nat.reduceLT,Nat.reduceBEq,List.map_cons,List.map_nil,List.toList_toArray,Array.toList_append,Option.toArray_some,Option.toArray_none,Bool.and_self,ty,SctW,zW,hcl]
     | false =>
       have d1 : decide ((256 : Int) ≤ (l.length : Int)) = false := decide_eq_false (by have := of_decide_eq_false hf; omega)
       have hins := insW_map s k N l
       obtain ⟨PL,hPL⟩ : ∃ n,plW s k l = n := ⟨_,rfl⟩
       rw [hPL] at hins hpl
       simp only [cntR,hf,hle]
       simp only [go_sem,zaa,Nat.reduceAdd,Nat.reduceSub,Nat.reduceMul,Int.reduceToNat,reduceCtorEq,↓reduceIte,Int.reducePow,Nat.reducePow,Int.reduceMod,Nat.reduceLeDiff,Int.reduceLE,Int.reduceNe,Int.reduceEq,Nat.reduceEqDiff,Nat.reduceLT,Nat.reduceBEq,List.map_cons,List.map_nil,List.toList_toArray,Array.toList_append,Option.toArray_some,Option.toArray_none,Bool.and_self,ty,SctW,SOctW,cntPl,zft,hle,hL,hpos,htk,hcl,hex,hth,hPL,d1,insS,hins,zdd,hpl,List.length_map,zam,Int.toNat_natCast,Bool.not_true,Bool.not_false]
       refine ⟨mem_ws,⟨by omega,by omega⟩,?_⟩
       refine ⟨_,Weak.refl _,?_⟩
       simp only [go_sem,zaa,Nat.reduceAdd,Nat.reduceSub,Nat.reduceMul,Int.reduceToNat,reduceCtorEq,↓reduceIte,Int.reducePow,Nat.reducePow,Int.reduceMod,Nat.reduceLeDiff,Int.reduceLE,Int.reduceNe,Int.reduceEq,Nat.reduceEqDiff,Nat.reduceLT,Nat.reduceBEq,List.map_cons,List.map_nil,List.toList_toArray,Array.toList_append,Option.toArray_some,Option.toArray_none,Bool.and_self,ty,SctW,zal,zaz,cond_true]
 · exact hp.elim
end
end Go.Proofs.Ytlpjdgkpapjldaa
namespace Go.Proofs.Ytlpjdgkpapjldaa
namespace Ax
theorem getElem_slot (ys : List AV) (j : Nat) (h : j < ys.length) : ys[j] = slot ys j := by
 rw [zcc]; simp [h]
theorem weak_nilB {sl : List AV} {H : Heap} {nx : Nat} (id0 k j s : Nat) (ys : List AV) (hl0 : look H id0 = some (.g k [.agg ys])) (hj : j < ys.length) (hn : nilV (slot ys j)) (hs : 0 < s) : Weak ⟨sl,H,nx⟩ ⟨sl,put (put H id0 (.g k [.agg (setSlot ys j (.ms nx s 0 0))])) nx (.g s []),nx + 1⟩ := by
 rintro w0 E B a w ⟨loc,hB,hr⟩
 have hf : loc.m nx = .free := hr.fresh nx (Nat.le_refl _)
 have hlow : id0 < nx := hr.low id0 _ hl0
 have hM : ∀ c,Mut (loc.set nx .nil) c → Mut loc c := by
   rintro c (h | ⟨k,h⟩)
   · exact .inl h
   · by_cases hk : k = nx
     · subst hk; rw [Loc.set_same] at h; cases h
     · rw [Loc.set_other _ _ hk] at h; exact .inr ⟨k,h⟩
 have hE : Ext (fun _ => False) w loc w (loc.set nx .nil) :=
   ⟨Nat.le_refl _,fun id h _ => Loc.set_other _ _ (fun e => h (e ▸ hf)),fun _ _ h => h.elim,fun c _ hm => ⟨rfl,fun h => hm (hM c h)⟩,fun _ _ _ _ => rfl,fun _ cur _ fz h => ⟨cur,fz,h,rfl⟩⟩
 have hset : ∀ {k c},(loc.set nx .nil).m k = .here c → loc.m k = .here c := by
   intro k c h
   by_cases hk : k = nx
   · subst hk; rw [Loc.set_same] at h; cases h
   · rwa [Loc.set_other _ _ hk] at h
 refine ⟨loc.set nx .nil,⟨hB.1,hB.2.1,fun k hk => ?_⟩,⟨hr.size,fun t => (hr.slots t).ext hE,?_,⟨hr.env.os,hr.env.tape,hr.env.output,hr.env.size,hr.env.same,fun i j b h1 h2 => hr.env.inj i j b (hset h1) (hset h2),fun i b h1 => hr.env.lies i b (hset h1),hr.env.bad⟩,?_,hr.defers,?_⟩⟩
 · have hne : k ≠ nx := by
     rintro rfl
     rcases hB.2.2 k hk with h | ⟨h,_⟩ <;> rw [hf] at h <;> cases h
   rw [Loc.set_other _ _ hne]; exact hB.2.2 k hk
 · intro id c hl
   simp only at hl
   rw [zan] at hl
   split at hl
   · rename_i e; subst e
     injection hl with hl; subst hl
     unfold BlkR
     rw [Loc.set_same]; exact ⟨⟨hs,by simp⟩,rfl⟩
   · rename_i e
     rw [zan] at hl
     split at hl
     · rename_i e0; subst e0
       injection hl with hl; subst hl
       have h0 := hr.heap _ _ hl0
       unfold BlkR at h0 ⊢
       rw [Loc.set_other _ _ (Ne.symm e)]
       split at h0
       · trivial
       · exact h0.elim
       · exact absurd h0.2 (by simp [Blk.len])
       · obtain ⟨⟨hk0,hok⟩,hL⟩ := h0
         obtain ⟨cur,e1,fz,hc,hfz,hone,hfl,hcells⟩ := hL.lies rfl
         have e3 : (Blk.g k [AV.agg ys]).flat = ys := by simp [Blk.flat,AV.leaves]
         have e4 : (Blk.g k [AV.agg (setSlot ys j (.ms nx s 0 0))]).flat = setSlot ys j (.ms nx s 0 0) := by simp [Blk.flat,AV.leaves]
         rw [e3] at hfl
         have hcell : ∀ (t : Nat) (h : t < ys.length) (h' : t < cur.size),(slot ys t).leaf = true ∧ R w loc (slot ys t) cur[t] := by
           intro t h h'
           have := hcells t (by rw [e3]; exact h) h'
           have e5 : (Blk.g k [AV.agg ys]).flat[t]'(by rw [e3]; exact h) = slot ys t := by
             rw [← getElem_slot ys t h]; simp [e3]
           rw [e5] at this; exact this
         refine ⟨⟨hk0,?_⟩,Lies.mkC ⟨cur,e1,fz,hc,hfz,hone,by rw [e4,zaq]; exact hfl,?_⟩⟩
         · intro x hx
           obtain rfl := List.mem_singleton.1 hx
           have := hok (.agg ys) (List.mem_singleton.2 rfl)
           simpa [AV.leaves,zaq] using this
         · intro t h h'
           have ht : t < ys.length := by rw [e4,zaq] at h; exact h
           have e5 : (Blk.g k [AV.agg (setSlot ys j (.ms nx s 0 0))]).flat[t] = slot (setSlot ys j (.ms nx s 0 0)) t := by
             rw [← getElem_slot _ t (by rw [zaq]; exact ht)]; simp [e4]
           rw [e5]
           by_cases htj : j = t
           · subst htj
             rw [zci hj]
             obtain ⟨a',he⟩ := nilV_R hn (hcell j hj h').2
             refine ⟨rfl,?_⟩
             rw [he]
             refine .ms _ _ _ _ _ ?_
             unfold Owns
             rw [Loc.set_same]
             exact ⟨rfl,a',rfl⟩
           · rw [zbt htj]
             exact ⟨(hcell t ht h').1,(hcell t ht h').2.ext hE⟩
     · rename_i e2
       by_cases hfr : loc.m id = .free
       · exact BlkR.free (by rw [Loc.set_other _ _ (Ne.symm e)]; exact hfr)
       · exact (hr.heap id c hl).ext hE (fun h => h) hfr
 · intro id hid
   simp only at hid
   rw [Loc.set_other _ _ (by omega)]; exact hr.fresh id (by simp only; omega)
 · intro id c hl
   simp only at hl
   rw [zan] at hl
   split at hl
   · simp only; omega
   · rw [zan] at hl
     split at hl
     · simp only; omega
     · have := hr.low id c hl
       simp only at this ⊢; omega
theorem weak_fgC {sl : List AV} {H : Heap} {nx : Nat} (id s i id0 : Nat) (zs : List AV) (b0 : Blk) (hl : look H id = some (.g s zs)) (hcl : closedL zs = true) (h0 : look H id0 = some b0) (hi0 : id0 ∈ (slot sl i).ids) (hin : id ∈ b0.idsB) : Weak ⟨sl,H,nx⟩ ⟨fgL id s zs sl,fgH id s zs H,nx⟩ := by
 rintro w0 E B a w ⟨loc,hB,hr⟩
 have h1 := zdt _ _ (hr.slots i) hi0
 have h2 : loc.m id ≠ .free := by
   obtain ⟨hok,⟨_,e⟩ | ⟨c,hc,hlies⟩⟩ := hr.heap.get h0 h1
   · rw [idsB_nil e] at hin; simp at hin
   · exact lies_live hlies id hin
 obtain ⟨h3,h4⟩ := rel_fg hB hr h2 (hr.heap id _ hl) hcl
 exact ⟨_,h3,h4⟩
end Ax
end Go.Proofs.Ytlpjdgkpapjldaa
namespace Go.Proofs.Ytlpjdgkpapjldaa
open Ax
structure FR where
 Z : Int
 L : Int
 M : Int
 D : Int
 o : List WS
 f : Bool
 c : List WS
 e : Int
def frA (r : FR) : AV := .tup [.agg [.w (.int .i64 r.Z),.w (.int .i64 r.L),.w (.int .i64 r.M),.w (.int .i64 r.D),.sg 6 (r.o.map wsA) r.f],.sg 6 (r.c.map wsA) false,.w (.int .i64 r.e)]
def errF (e : Int) : FR := ⟨0,0,0,0,[],true,[],e⟩
def mxW (M t : Int) : Int := if M < t then t else M
def stW (Z t : Int) : Int := t - t.tmod Z
def finF (Z L mk D : Int) (l : List WS) : FR := ⟨Z,L,mk,D,opW Z L mk l,false,clW Z L mk l,0⟩
def fedF (Z L M D : Int) (l : List WS) (k : List UInt8) (t n : Int) : FR :=
 if thW (stW Z t) k l = true then
   if 1048576 ≤ (rowW (stW Z t) k l).c then errF 9
   else finF Z L (mxW M t) D (l.set (plW (stW Z t) k l) (wthW (rowW (stW Z t) k l) n))
 else if 256 ≤ l.length then errF 9
 else finF Z L (mxW M t) D (insW (stW Z t) k n l)
def empL : List WS → Bool
 | [] => true
 | _ => false
def fdW (Z L M D : Int) (l : List WS) (k : List UInt8) (t n : Int) : FR :=
 if chW Z L M D l = 0 then
   if 64 < k.length then errF 5
   else if (outB t 0 1099511627776 || outB n (-1073741824) 1073741824) = true then errF 11
   else if ltW Z L (stW Z t) (mxW M t) = true then ⟨Z,L,M,if 1099511627776 < D + 1 then 1099511627776 else D + 1,l,empL l,[],0⟩
   else fedF Z L M D l k t n
 else errF (chW Z L M D l)
def feedS35 : zay
 | [.agg [.w (.int .i64 Z),.w (.int .i64 L),.w (.int .i64 M),.w (.int .i64 D),.sg 6 xs f],.str k,.w (.int .i64 t),.w (.int .i64 n)],[] => ⟨xs.length ≤ 1000000 ∧ ∃ l : List WS,xs = l.map wsA,frA (fdW Z L M D (xs.map uws) k t n),[]⟩
 | _,_ => zdj
theorem ch_ok {Z L M D : Int} {l : List WS} (h : chW Z L M D l = 0) :
   (1 ≤ Z ∧ Z ≤ 1048576) ∧ (0 ≤ L ∧ L ≤ 1048576) ∧ (-1 ≤ M ∧ M ≤ 1099511627776) ∧ (0 ≤ D ∧ D ≤ 1099511627776) ∧ l.length ≤ 256 ∧ risW l = true ∧
   ∀ r ∈ l,(0 ≤ r.s ∧ r.s ≤ 1099511627776) ∧ (1 ≤ r.c ∧ r.c ≤ 1048576) ∧ (-1073741824 ≤ r.a ∧ r.a ≤ 1073741824) ∧ (-1073741824 ≤ r.b ∧ r.b ≤ 1073741824) ∧ -1125899906842624 ≤ r.t ∧ r.t ≤ 1125899906842624 := by
 unfold chW at h
 split at h
 · cases h
 · rename_i hh
   split at h
   · rename_i ha
     split at h
     · rename_i hr
       rcases hd_cases Z L M D l.length with Q | Q | Q | Q | Q | Q
       · exact absurd Q.2 hh
       · exact absurd Q.2.2 hh
       · exact absurd Q.2.2.2 hh
       · exact absurd Q.2.2.2.2 hh
       · exact absurd Q.2.2.2.2.2 hh
       obtain ⟨q1,q2,q3,q4,q5,q6⟩ := Q
       have q5 := of_decide_eq_false q5
       refine ⟨zar q1,zar q2,zar q3,zar q4,by omega,hr,fun r hm => ?_⟩
       have hok := List.all_eq_true.1 ha r hm
       unfold okr okWB at hok
       simp only [Bool.and_eq_true,Bool.not_eq_true'] at hok
       obtain ⟨h1,h2,h3,h4,h5,h6,h7,h8⟩ := hok
       have b1 := mul_bound (zar h4) (zar h5)
       have b2 := mul_bound (zar h4) (zar h6)
       have b3 := zar h8
       exact ⟨zar h1,zar h4,zar h5,zar h6,by omega,by omega⟩
     · cases h
   · cases h
theorem st_bound {Z t : Int} (hZ : 1 ≤ Z) (ht : 0 ≤ t) : 0 ≤ stW Z t ∧ stW Z t ≤ t := by
 unfold stW
 have h1 := Int.tmod_nonneg Z ht
 have h2 : t.tmod Z ≤ t := by
   rw [Int.tmod_eq_emod_of_nonneg ht]
   have h3 := Int.mul_ediv_add_emod t Z
   have h4 : 0 ≤ Z * (t / Z) := Int.mul_nonneg (by omega) (Int.ediv_nonneg ht (by omega))
   omega
 omega
def SfdW (f : FuncId) : Option zay :=
 match f with
 | 19 => some zdf
 | 25 => some outS
 | 26 => some cloWS
 | 27 => some lateWS
 | 29 => some partWS
 | _ => none
theorem SfdW_ok : Fns Try.prog SfdW := by
 intro f s h
 unfold SfdW at h
 split at h
 · injection h with h; subst h; exact ⟨⟨_,Try.func19,by kernel_rfl,by kernel_rfl⟩,chkW_sound⟩
 · injection h with h; subst h; exact ⟨⟨_,Try.func25,by kernel_rfl,by kernel_rfl⟩,out_sound⟩
 · injection h with h; subst h; exact ⟨⟨_,Try.func26,by kernel_rfl,by kernel_rfl⟩,cloW_sound⟩
 · injection h with h; subst h; exact ⟨⟨_,Try.func27,by kernel_rfl,by kernel_rfl⟩,late35_sound⟩
 · injection h with h; subst h; exact ⟨⟨_,Try.func29,by kernel_rfl,by kernel_rfl⟩,part_sound⟩
 · cases h
def SOfdW (f : FuncId) : Option zay :=
 match f with
 | 28 => some cntWS
 | _ => none
theorem SOfdW_ok : FnsO Try.prog SOfdW := by
 intro f s h
 unfold SOfdW at h
 split at h
 · injection h with h; subst h; exact ⟨⟨_,Try.func28,by kernel_rfl,by kernel_rfl⟩,cntW_sound⟩
 · cases h
def fdPl : XPlan := fun id => match id with
 | 9 => .prs []
 | 13 => .opn [] 5
 | _ => .std
section
set_option maxRecDepth 100000
set_option maxHeartbeats 16000000
theorem feed35_sound : zbz Try.prog 9 feedS35 := by
 refine zdq (S := SfdW) (SO := SOfdW) (T := ty) zdc ty_ok SfdW_ok SOfdW_ok Try.func9 (c := Try.f9.body.getD .skip) (by kernel_rfl) (fun xs pins hp _ => ?_)
 unfold feedS35 at hp ⊢
 split at hp
 · rename_i Z L M D xs f k t n _
   obtain ⟨hL,l,rfl⟩ := hp
   rw [List.length_map] at hL
   rw [zam]
   have hle : (l.map wsA).length = l.length := by simp
   have hcl := zal l
   have hex : ∃ p : List WS,l.map wsA = p.map wsA := ⟨l,rfl⟩
   have hL6 : l.length ≤ 9223372036854775807 := by omega
   have hc : ∀ f,coe ty 29 (.sg 6 (l.map wsA) f) = .sg 6 (l.map wsA) f := fun f => by cases l <;> rfl
   refine ⟨by simp,fdPl,by kernel_rfl,?_⟩
   unfold Try.f9
   by_cases hch : chW Z L M D l = 0
   · obtain ⟨oZ,oL,oM,oD,ol,hris,hrow⟩ := ch_ok hch
     have d0 : decide (chW Z L M D l = 0) = true := decide_eq_true hch
     by_cases hk : 64 < k.length
     · have hv : fdW Z L M D l k t n = errF 5 := by unfold fdW; rw [if_pos hch,if_pos hk]
       have d1 : decide ((64 : Int) < (k.length : Int)) = true := decide_eq_true (by omega)
       rw [hv]
       simp only [go_sem,zaa,Nat.reduceAdd,Nat.reduceSub,Nat.reduceMul,Int.reduceToNat,reduceCtorEq,↓reduceIte,Int.reducePow,Nat.reducePow,Int.reduceMod,Nat.reduceLeDiff,Int.reduceLE,Int.reduceNe,Int.reduceEq,Nat.reduceEqDiff,Nat.reduceLT,Nat.reduceBEq,List.map_cons,List.map_nil,List.toList_toArray,Array.toList_append,Option.toArray_some,Option.toArray_none,Bool.and_self,ty,SfdW,SOfdW,fdPl,zdf,hle,hL6,hc,hex,zam,hch,d0,d1,decide_true,Bool.not_true,Bool.not_false]
       refine ⟨_,zbg 9 (.sg 6 [] false) (fun w loc v h => zcd 6 h),?_⟩
       simp only [go_sem,zaa,Nat.reduceAdd,Nat.reduceSub,Nat.reduceMul,Int.reduceToNat,reduceCtorEq,↓reduceIte,Int.reducePow,Nat.reducePow,Int.reduceMod,Nat.reduceLeDiff,Int.reduceLE,Int.reduceNe,Int.reduceEq,Nat.reduceEqDiff,Nat.reduceLT,Nat.reduceBEq,List.map_cons,List.map_nil,List.toList_toArray,Array.toList_append,Option.toArray_some,Option.toArray_none,Bool.and_self,ty,frA,errF,zW,List.map_nil,setSlot]
     · have d1 : decide ((64 : Int) < (k.length : Int)) = false := decide_eq_false (by omega)
       cases hot : outB t 0 1099511627776 with
       | true =>
         have hv : fdW Z L M D l k t n = errF 11 := by unfold fdW; rw [if_pos hch,if_neg hk,if_pos (by rw [hot]; rfl)]
         rw [hv]
         simp only [go_sem,zaa,Nat.reduceAdd,Nat.reduceSub,Nat.reduceMul,Int.reduceToNat,reduceCtorEq,↓reduceIte,Int.reducePow,Nat.reducePow,Int.reduceMod,Nat.reduceLeDiff,Int.reduceLE,Int.reduceNe,Int.reduceEq,Nat.reduceEqDiff,Nat.reduceLT,Nat.reduceBEq,List.map_cons,List.map_nil,List.toList_toArray,Array.toList_append,Option.toArray_some,Option.toArray_none,Bool.and_self,ty,SfdW,SOfdW,fdPl,zdf,outS,hle,hL6,hc,hex,zam,hch,d0,d1,hot,decide_true,Bool.not_true,Bool.not_false]
         refine ⟨_,zbg 9 (.sg 6 [] false) (fun w loc v h => zcd 6 h),?_⟩
         simp only [go_sem,zaa,Nat.reduceAdd,Nat.reduceSub,Nat.reduceMul,Int.reduceToNat,reduceCtorEq,↓reduceIte,Int.reducePow,Nat.reducePow,Int.reduceMod,Nat.reduceLeDiff,Int.reduceLE,Int.reduceNe,Int.reduceEq,Nat.reduceEqDiff,Nat.reduceLT,Nat.reduceBEq,List.map_cons,List.map_nil,List.toList_toArray,Array.toList_append,Option.toArray_some,Option.toArray_none,Bool.and_self,ty,frA,errF,zW,List.map_nil,setSlot]
       | false =>
         cases hon : outB n (-1073741824) 1073741824 with
         | true =>
           have hv : fdW Z L M D l k t n = errF 11 := by unfold fdW; rw [if_pos hch,if_neg hk,if_pos (by rw [hot,hon]; rfl)]
           rw [hv]
           simp only [go_sem,zaa,Nat.reduceAdd,Nat.reduceSub,Nat.reduceMul,Int.reduceToNat,reduceCtorEq,↓reduceIte,Int.reducePow,Nat.reducePow,Int.reduceMod,Nat.reduceLeDiff,Int.reduceLE,Int.reduceNe,Int.reduceEq,Nat.reduceEqDiff,Nat.reduceLT,Nat.reduceBEq,List.map_cons,List.map_nil,List.toList_toArray,Array.toList_append,Option.toArray_some,Option.toArray_none,Bool.and_self,ty,SfdW,SOfdW,fdPl,zdf,outS,hle,hL6,hc,hex,zam,hch,d0,d1,hot,hon,decide_true,Bool.not_true,Bool.not_false]
           refine ⟨_,zbg 9 (.sg 6 [] false) (fun w loc v h => zcd 6 h),?_⟩
           simp only [go_sem,zaa,Nat.reduceAdd,Nat.reduceSub,Nat.reduceMul,Int.reduceToNat,reduceCtorEq,↓reduceIte,Int.reducePow,Nat.reducePow,Int.reduceMod,Nat.reduceLeDiff,Int.reduceLE,Int.reduceNe,Int.reduceEq,Nat.reduceEqDiff,Nat.reduceLT,Nat.reduceBEq,List.map_cons,List.map_nil,List.toList_toArray,Array.toList_append,Option.toArray_some,Option.toArray_none,Bool.and_self,ty,frA,errF,zW,List.map_nil,setSlot]
         | false =>
           have ot := zar hot
           have on := zar hon
           have hz : ¬ Z = 0 := by omega
           have hsb := st_bound oZ.1 ot.1
           have w1 : (t - t.tmod Z + 9223372036854775808) % 18446744073709551616 - 9223372036854775808 = stW Z t := by unfold stW at *; omega
           have wD : (D + 1 + 9223372036854775808) % 18446744073709551616 - 9223372036854775808 = D + 1 := by omega
           have sZ : smlW Z := ⟨by omega,by omega⟩
           have sL : smlW L := ⟨by omega,by omega⟩
           have sS : smlW (stW Z t) := ⟨by omega,by omega⟩
           have hmx : (if M < t then t else M) = mxW M t := rfl
           have sN : smlW n := ⟨by omega,by omega⟩
           obtain ⟨ST,hST⟩ : ∃ x,stW Z t = x := ⟨_,rfl⟩
           obtain ⟨MK,hMK⟩ : ∃ x,mxW M t = x := ⟨_,rfl⟩
           rw [hST] at w1 sS
           rw [hMK] at hmx
           cases hlt : ltW Z L ST MK with
           | true =>
             have hv : fdW Z L M D l k t n = ⟨Z,L,M,if 1099511627776 < D + 1 then 1099511627776 else D + 1,l,empL l,[],0⟩ := by
               unfold fdW; rw [if_pos hch,if_neg hk,if_neg (by rw [hot,hon]; simp),if_pos (by rw [hST,hMK]; exact hlt)]
             rw [hv]
             cases l with
             | nil =>
               simp only [go_sem,zaa,Nat.reduceAdd,Nat.reduceSub,Nat.reduceMul,Int.reduceToNat,reduceCtorEq,↓reduceIte,Int.reducePow,Nat.reducePow,Int.reduceMod,Nat.reduceLeDiff,Int.reduceLE,Int.reduceNe,Int.reduceEq,Nat.reduceEqDiff,Nat.reduceLT,Nat.reduceBEq,List.map_cons,List.map_nil,List.toList_toArray,Array.toList_append,Option.toArray_some,Option.toArray_none,Bool.and_self,ty,SfdW,SOfdW,fdPl,zdf,outS,cloWS,lateWS,empW,hle,hL,hL6,hc,hex,hz,w1,wD,hmx,hlt,sZ,sL,sS,zam,hch,d0,d1,hot,hon,decide_true,Bool.not_true,Bool.not_false,cond_true,List.map_nil,List.length_nil]
               refine ⟨⟨[],rfl⟩,⟨[],rfl⟩,?_⟩
               refine ⟨_,zbg 9 (.sg 6 [] false) (fun w loc v h => zcd 6 h),?_⟩
               simp only [go_sem,zaa,Nat.reduceAdd,Nat.reduceSub,Nat.reduceMul,Int.reduceToNat,reduceCtorEq,↓reduceIte,Int.reducePow,Nat.reducePow,Int.reduceMod,Nat.reduceLeDiff,Int.reduceLE,Int.reduceNe,Int.reduceEq,Nat.reduceEqDiff,Nat.reduceLT,Nat.reduceBEq,List.map_cons,List.map_nil,List.toList_toArray,Array.toList_append,Option.toArray_some,Option.toArray_none,Bool.and_self,ty,frA,errF,zW,List.map_nil,setSlot,empL]
             | cons x l0 =>
               have hem : empW ((x :: l0).map wsA) = false := rfl
               have hel : empL (x :: l0) = false := rfl
               generalize hll : x :: l0 = l at *
               have htk : (l.map wsA).take l.length = l.map wsA := List.take_of_length_le (by simp)
               simp only [go_sem,zaa,Nat.reduceAdd,Nat.reduceSub,Nat.reduceMul,Int.reduceToNat,reduceCtorEq,↓reduceIte,Int.reducePow,Nat.reducePow,Int.reduceMod,Nat.reduceLeDiff,Int.reduceLE,Int.reduceNe,Int.reduceEq,Nat.reduceEqDiff,Nat.reduceLT,Nat.reduceBEq,List.map_cons,List.map_nil,List.toList_toArray,Array.toList_append,Option.toArray_some,Option.toArray_none,Bool.and_self,ty,SfdW,SOfdW,fdPl,zdf,outS,cloWS,lateWS,hem,hle,hL,hL6,hc,hex,hz,hcl,htk,zdd,zaz,w1,wD,hmx,hlt,sZ,sL,sS,zam,hch,d0,d1,hot,hon,decide_true,Bool.not_true,Bool.not_false,cond_false]
               refine ⟨mem_ws,?_⟩
               refine ⟨_,(weak_fgC 156 6 8 12 (l.map wsA) _ rfl hcl rfl (by simp [slot,AV.ids]) (by simp [Blk.idsB,Blk.closed,closedL,AV.closed,idsL,AV.ids])).trans (zbg 9 (.sg 6 [] false) (fun w loc v h => by exact zcd 6 h)),?_⟩
               have dle : decide (0 + l.length ≤ (l.map wsA).length) = true := decide_eq_true (by simp)
               simp only [fgL,fgH,AV.fg,Blk.fg,Nat.reduceBEq,cond_true,cond_false,beq_self_eq_true,Bool.true_and,List.drop_zero,fg_ws,dle,htk,hle,hel]
               simp only [go_sem,zaa,Nat.reduceAdd,Nat.reduceSub,Nat.reduceMul,Int.reduceToNat,reduceCtorEq,↓reduceIte,Int.reducePow,Nat.reducePow,Int.reduceMod,Nat.reduceLeDiff,Int.reduceLE,Int.reduceNe,Int.reduceEq,Nat.reduceEqDiff,Nat.reduceLT,Nat.reduceBEq,List.map_cons,List.map_nil,List.toList_toArray,Array.toList_append,Option.toArray_some,Option.toArray_none,Bool.and_self,ty,frA,List.map_nil,setSlot,hel]
           | false =>
             have hv : fdW Z L M D l k t n = fedF Z L M D l k t n := by
               unfold fdW; rw [if_pos hch,if_neg hk,if_neg (by rw [hot,hon]; simp),if_neg (by rw [hST,hMK,hlt]; simp)]
             rw [hv]
             unfold fedF
             rw [hST,hMK]
             cases l with
             | nil =>
               have hth : thW ST k [] = false := rfl
               have hmu : ([.agg [.w (.int .i64 ST),.str k,.w (.int .i64 1),.w (.int .i64 n),.w (.int .i64 n),.w (.int .i64 n)]] : List AV).map uws = insW ST k n [] := rfl
               have hexP : ∃ p : List WS,([.agg [.w (.int .i64 ST),.str k,.w (.int .i64 1),.w (.int .i64 n),.w (.int .i64 n),.w (.int .i64 n)]] : List AV) = p.map wsA ∧ ∀ r ∈ p,smlW r.s := ⟨[⟨ST,k,1,n,n,n⟩],rfl,fun r hr => by obtain rfl := List.mem_singleton.1 hr; exact sS⟩
               have hl1 : ([.agg [.w (.int .i64 ST),.str k,.w (.int .i64 1),.w (.int .i64 n),.w (.int .i64 n),.w (.int .i64 n)]] : List AV).length = 1 := rfl
               rw [hth,if_neg (by simp),if_neg (by simp)]
               simp only [go_sem,zaa,Nat.reduceAdd,Nat.reduceSub,Nat.reduceMul,Int.reduceToNat,reduceCtorEq,↓reduceIte,Int.reducePow,Nat.reducePow,Int.reduceMod,Nat.reduceLeDiff,Int.reduceLE,Int.reduceNe,Int.reduceEq,Nat.reduceEqDiff,Nat.reduceLT,Nat.reduceBEq,List.map_cons,List.map_nil,List.toList_toArray,Array.toList_append,Option.toArray_some,Option.toArray_none,Bool.and_self,ty,SfdW,SOfdW,fdPl,zdf,outS,cloWS,lateWS,cntWS,partWS,empW,coeNW,hmu,hexP,hl1,hle,hL,hL6,hc,hex,hz,w1,wD,hmx,hlt,sZ,sL,sS,zam,hch,d0,d1,hot,hon,decide_true,Bool.not_true,Bool.not_false,cond_true,List.map_nil,List.length_nil]
               refine ⟨⟨[],rfl⟩,⟨[],rfl⟩,fun y e => by rw [e]; rfl,?_⟩
               refine ⟨_,Weak.refl _,?_⟩
               simp only [go_sem,zaa,Nat.reduceAdd,Nat.reduceSub,Nat.reduceMul,Int.reduceToNat,reduceCtorEq,↓reduceIte,Int.reducePow,Nat.reducePow,Int.reduceMod,Nat.reduceLeDiff,Int.reduceLE,Int.reduceNe,Int.reduceEq,Nat.reduceEqDiff,Nat.reduceLT,Nat.reduceBEq,List.map_cons,List.map_nil,List.toList_toArray,Array.toList_append,Option.toArray_some,Option.toArray_none,Bool.and_self,ty,frA,finF]
             | cons x l0 =>
               have hem : empW ((x :: l0).map wsA) = false := rfl
               have hlp : 0 < (x :: l0).length := by simp
               generalize hll : x :: l0 = l at *
               have htk : (l.map wsA).take l.length = l.map wsA := List.take_of_length_le (by simp)
               have hpos : decide (0 < l.length) = true := decide_eq_true hlp
               have h6 : l.length ≤ 999999 := by omega
               have hexc : ∃ p : List WS,l.map wsA = p.map wsA ∧ risW p = true ∧ ∀ r ∈ p,smlW r.c ∧ smlW r.t := ⟨l,rfl,hris,fun r hr => by
                 have := hrow r hr
                 exact ⟨⟨by omega,by omega⟩,by omega,by omega⟩⟩
               cases hth : thW ST k l with
               | true =>
                 cases hf : decide (1048576 ≤ (rowW ST k l).c) with
                 | true =>
                   have hcv : cntV Z L M D ST k n l = (.tup [zW,.w (.int .i64 9)],[.g 6 (l.map wsA)]) := by unfold cntV; rw [hth,hf]; rfl
                   rw [if_pos rfl,if_pos (of_decide_eq_true hf)]
                   simp only [go_sem,zaa,Nat.reduceAdd,Nat.reduceSub,Nat.reduceMul,Int.reduceToNat,reduceCtorEq,↓reduceIte,Int.reducePow,Nat.reducePow,Int.reduceMod,Nat.reduceLeDiff,Int.reduceLE,Int.reduceNe,Int.reduceEq,Nat.reduceEqDiff,Nat.reduceLT,Nat.reduceBEq,List.map_cons,List.map_nil,List.toList_toArray,Array.toList_append,Option.toArray_some,Option.toArray_none,Bool.and_self,ty,SfdW,SOfdW,fdPl,zdf,outS,cloWS,lateWS,cntWS,hcv,zW,hem,hpos,hlp,h6,sN,hexc,hle,hL,hL6,hc,hex,hz,hcl,htk,zdd,zaz,w1,wD,hmx,hlt,sZ,sL,sS,zam,hch,d0,d1,hot,hon,decide_true,Bool.not_true,Bool.not_false,cond_false]
                   refine ⟨mem_ws,?_⟩
                   refine ⟨_,zbg 9 (.sg 6 [] false) (fun w loc v h => zcd 6 h),?_⟩
                   simp only [go_sem,zaa,Nat.reduceAdd,Nat.reduceSub,Nat.reduceMul,Int.reduceToNat,reduceCtorEq,↓reduceIte,Int.reducePow,Nat.reducePow,Int.reduceMod,Nat.reduceLeDiff,Int.reduceLE,Int.reduceNe,Int.reduceEq,Nat.reduceEqDiff,Nat.reduceLT,Nat.reduceBEq,List.map_cons,List.map_nil,List.toList_toArray,Array.toList_append,Option.toArray_some,Option.toArray_none,Bool.and_self,ty,frA,errF,zW,List.map_nil,setSlot]
                 | false =>
                   have hcv : cntV Z L M D ST k n l = (.tup [.agg [.w (.int .i64 Z),.w (.int .i64 L),.w (.int .i64 M),.w (.int .i64 D),.ms 0 6 0 l.length],.w (.int .i64 0)],[.g 6 ((l.set (plW ST k l) (wthW (rowW ST k l) n)).map wsA)]) := by unfold cntV; rw [hth,hf]; rfl
                   rw [if_pos rfl,if_neg (of_decide_eq_false hf)]
                   have hpl := th_lt hris hth
                   have hexP0 : ∀ r ∈ l.set (plW ST k l) (wthW (rowW ST k l) n),smlW r.s := fun r hr => by
                     rcases List.mem_or_eq_of_mem_set hr with h | rfl
                     · have := hrow r h
                       exact ⟨by omega,by omega⟩
                     · rw [row_eq hpl]
                       have := hrow _ (List.getElem_mem hpl)
                       exact ⟨by show _ ≤ (l[plW ST k l]).s; omega,by show (l[plW ST k l]).s ≤ _; omega⟩
                   have hln : (l.set (plW ST k l) (wthW (rowW ST k l) n)).length = l.length := List.length_set
                   generalize l.set (plW ST k l) (wthW (rowW ST k l) n) = l1 at *
                   have hexP : ∃ p : List WS,l1.map wsA = p.map wsA ∧ ∀ r ∈ p,smlW r.s := ⟨l1,rfl,hexP0⟩
                   have htk1 : (l1.map wsA).take l.length = l1.map wsA := List.take_of_length_le (by simp; omega)
                   have hL1 : (l1).length ≤ 1000000 := by rw [hln]; omega
                   have hle1 : ((l1).map wsA).length = (l1).length := by simp
                   simp only [go_sem,zaa,Nat.reduceAdd,Nat.reduceSub,Nat.reduceMul,Int.reduceToNat,reduceCtorEq,↓reduceIte,Int.reducePow,Nat.reducePow,Int.reduceMod,Nat.reduceLeDiff,Int.reduceLE,Int.reduceNe,Int.reduceEq,Nat.reduceEqDiff,Nat.reduceLT,Nat.reduceBEq,List.map_cons,List.map_nil,List.toList_toArray,Array.toList_append,Option.toArray_some,Option.toArray_none,Bool.and_self,ty,SfdW,SOfdW,fdPl,zdf,outS,cloWS,lateWS,cntWS,partWS,hcv,hem,hpos,hlp,h6,sN,hexc,hexP,hL1,hle1,hln,htk1,hle,hL,hL6,hc,hex,hz,hcl,htk,zal,zdd,zaz,w1,wD,hmx,hlt,sZ,sL,sS,zam,hch,d0,d1,hot,hon,decide_true,Bool.not_true,Bool.not_false,cond_false,cond_true]
                   refine ⟨mem_ws,mem_ws,?_⟩
                   refine ⟨_,Weak.refl _,?_⟩
                   simp only [go_sem,zaa,Nat.reduceAdd,Nat.reduceSub,Nat.reduceMul,Int.reduceToNat,reduceCtorEq,↓reduceIte,Int.reducePow,Nat.reducePow,Int.reduceMod,Nat.reduceLeDiff,Int.reduceLE,Int.reduceNe,Int.reduceEq,Nat.reduceEqDiff,Nat.reduceLT,Nat.reduceBEq,List.map_cons,List.map_nil,List.toList_toArray,Array.toList_append,Option.toArray_some,Option.toArray_none,Bool.and_self,ty,frA,finF]
               | false =>
                 rw [if_neg (by simp)]
                 cases hf : decide (256 ≤ l.length) with
                 | true =>
                   have hcv : cntV Z L M D ST k n l = (.tup [zW,.w (.int .i64 9)],[.g 6 (l.map wsA)]) := by unfold cntV; rw [hth,hf]; rfl
                   rw [if_pos (of_decide_eq_true hf)]
                   simp only [go_sem,zaa,Nat.reduceAdd,Nat.reduceSub,Nat.reduceMul,Int.reduceToNat,reduceCtorEq,↓reduceIte,Int.reducePow,Nat.reducePow,Int.reduceMod,Nat.reduceLeDiff,Int.reduceLE,Int.reduceNe,Int.reduceEq,Nat.reduceEqDiff,Nat.reduceLT,Nat.reduceBEq,List.map_cons,List.map_nil,List.toList_toArray,Array.toList_append,Option.toArray_some,Option.toArray_none,Bool.and_self,ty,SfdW,SOfdW,fdPl,zdf,outS,cloWS,lateWS,cntWS,hcv,zW,hem,hpos,hlp,h6,sN,hexc,hle,hL,hL6,hc,hex,hz,hcl,htk,zdd,zaz,w1,wD,hmx,hlt,sZ,sL,sS,zam,hch,d0,d1,hot,hon,decide_true,Bool.not_true,Bool.not_false,cond_false]
                   refine ⟨mem_ws,?_⟩
                   refine ⟨_,zbg 9 (.sg 6 [] false) (fun w loc v h => zcd 6 h),?_⟩
                   simp only [go_sem,zaa,Nat.reduceAdd,Nat.reduceSub,Nat.reduceMul,Int.reduceToNat,reduceCtorEq,↓reduceIte,Int.reducePow,Nat.reducePow,Int.reduceMod,Nat.reduceLeDiff,Int.reduceLE,Int.reduceNe,Int.reduceEq,Nat.reduceEqDiff,Nat.reduceLT,Nat.reduceBEq,List.map_cons,List.map_nil,List.toList_toArray,Array.toList_append,Option.toArray_some,Option.toArray_none,Bool.and_self,ty,frA,errF,zW,List.map_nil,setSlot]
                 | false =>
                   have hcv : cntV Z L M D ST k n l = (.tup [.agg [.w (.int .i64 Z),.w (.int .i64 L),.w (.int .i64 M),.w (.int .i64 D),.ms 1 6 0 (l.length + 1)],.w (.int .i64 0)],[gone,.g 6 ((insW ST k n l).map wsA)]) := by unfold cntV; rw [hth,hf]; rfl
                   rw [if_neg (of_decide_eq_false hf)]
                   have hexP0 : ∀ r ∈ insW ST k n l,smlW r.s := fun r hr => by
                     unfold insW at hr
                     rcases List.mem_append.1 hr with h | h
                     · have := hrow r (List.mem_of_mem_take h)
                       exact ⟨by omega,by omega⟩
                     · rcases List.mem_cons.1 h with rfl | h
                       · exact sS
                       · have := hrow r (List.mem_of_mem_drop h)
                         exact ⟨by omega,by omega⟩
                   have hln : (insW ST k n l).length = l.length + 1 := by
                     have := plW_le ST k l
                     unfold insW
                     simp only [List.length_append,List.length_take,List.length_cons,List.length_drop]
                     omega
                   generalize insW ST k n l = l1 at *
                   have hexP : ∃ p : List WS,l1.map wsA = p.map wsA ∧ ∀ r ∈ p,smlW r.s := ⟨l1,rfl,hexP0⟩
                   have htk1 : (l1.map wsA).take (l.length + 1) = l1.map wsA := List.take_of_length_le (by simp; omega)
                   have hL1 : (l1).length ≤ 1000000 := by rw [hln]; omega
                   have hle1 : ((l1).map wsA).length = (l1).length := by simp
                   simp only [go_sem,zaa,Nat.reduceAdd,Nat.reduceSub,Nat.reduceMul,Int.reduceToNat,reduceCtorEq,↓reduceIte,Int.reducePow,Nat.reducePow,Int.reduceMod,Nat.reduceLeDiff,Int.reduceLE,Int.reduceNe,Int.reduceEq,Nat.reduceEqDiff,Nat.reduceLT,Nat.reduceBEq,List.map_cons,List.map_nil,List.toList_toArray,Array.toList_append,Option.toArray_some,Option.toArray_none,Bool.and_self,ty,SfdW,SOfdW,fdPl,zdf,outS,cloWS,lateWS,cntWS,partWS,hcv,hem,hpos,hlp,h6,sN,hexc,hexP,hL1,hle1,hln,htk1,hle,hL,hL6,hc,hex,hz,hcl,htk,zal,zdd,zaz,w1,wD,hmx,hlt,sZ,sL,sS,zam,hch,d0,d1,hot,hon,decide_true,Bool.not_true,Bool.not_false,cond_false,cond_true]
                   refine ⟨mem_ws,mem_ws,?_⟩
                   refine ⟨_,Weak.refl _,?_⟩
                   simp only [go_sem,zaa,Nat.reduceAdd,Nat.reduceSub,Nat.reduceMul,Int.reduceToNat,reduceCtorEq,↓reduceIte,Int.reducePow,Nat.reducePow,Int.reduceMod,Nat.reduceLeDiff,Int.reduceLE,Int.reduceNe,Int.reduceEq,Nat.reduceEqDiff,Nat.reduceLT,Nat.reduceBEq,List.map_cons,List.map_nil,List.toList_toArray,Array.toList_append,Option.toArray_some,Option.toArray_none,Bool.and_self,ty,frA,finF]
   · have hv : fdW Z L M D l k t n = errF (chW Z L M D l) := by unfold fdW; rw [if_neg hch]
     have d0 : decide (chW Z L M D l = 0) = false := decide_eq_false hch
     rw [hv]
     simp only [go_sem,zaa,Nat.reduceAdd,Nat.reduceSub,Nat.reduceMul,Int.reduceToNat,reduceCtorEq,↓reduceIte,Int.reducePow,Nat.reducePow,Int.reduceMod,Nat.reduceLeDiff,Int.reduceLE,Int.reduceNe,Int.reduceEq,Nat.reduceEqDiff,Nat.reduceLT,Nat.reduceBEq,List.map_cons,List.map_nil,List.toList_toArray,Array.toList_append,Option.toArray_some,Option.toArray_none,Bool.and_self,ty,SfdW,SOfdW,fdPl,zdf,hle,hL6,hc,hex,zam,d0,Bool.not_true,Bool.not_false]
     refine ⟨_,zbg 9 (.sg 6 [] false) (fun w loc v h => zcd 6 h),?_⟩
     simp only [go_sem,zaa,Nat.reduceAdd,Nat.reduceSub,Nat.reduceMul,Int.reduceToNat,reduceCtorEq,↓reduceIte,Int.reducePow,Nat.reducePow,Int.reduceMod,Nat.reduceLeDiff,Int.reduceLE,Int.reduceNe,Int.reduceEq,Nat.reduceEqDiff,Nat.reduceLT,Nat.reduceBEq,List.map_cons,List.map_nil,List.toList_toArray,Array.toList_append,Option.toArray_some,Option.toArray_none,Bool.and_self,ty,frA,errF,zW,List.map_nil,setSlot]
 · exact hp.elim
end
end Go.Proofs.Ytlpjdgkpapjldaa
namespace Go.Proofs.Ytlpjdgkpapjldaa
open Ax
def ahW (a b : WS) : Prop := ahB a.s a.k b.s b.k = true
theorem ris_pw : ∀ (l : List WS),risW l = true ↔ l.Pairwise ahW
 | [] => by simp [risW]
 | [x] => by simp [risW]
 | x :: y :: l => by
   have ih := ris_pw (y :: l)
   rw [List.pairwise_cons,← ih]
   constructor
   · intro h
     exact ⟨fun z hz => ris_all h z hz,ris_tail h⟩
   · intro ⟨h1,h2⟩
     show (ahB x.s x.k y.s y.k && risW (y :: l)) = true
     rw [h2,show ahB x.s x.k y.s y.k = true from h1 y (by simp)]
     rfl
theorem ris_filter {l : List WS} (p : WS → Bool) (h : risW l = true) : risW (l.filter p) = true :=
 (ris_pw _).2 (List.Pairwise.filter p ((ris_pw _).1 h))
theorem ris_set {l : List WS} {i : Nat} (x : WS) (hi : i < l.length) (h : risW l = true) (h1 : x.s = l[i].s) (h2 : x.k = l[i].k) : risW (l.set i x) = true := by
 have hl : l = l.take i ++ l[i] :: l.drop (i + 1) := by
   rw [← List.drop_eq_getElem_cons hi,List.take_append_drop]
 have hp := (ris_pw _).1 h
 rw [hl,List.pairwise_append,List.pairwise_cons] at hp
 obtain ⟨p1,⟨p2,p3⟩,p4⟩ := hp
 refine (ris_pw _).2 ?_
 rw [List.set_eq_take_append_cons_drop,if_pos hi,List.pairwise_append,List.pairwise_cons]
 refine ⟨p1,⟨fun b hb => ?_,p3⟩,fun a ha b hb => ?_⟩
 · have := p2 b hb
   unfold ahW at this ⊢
   rw [h1,h2]; exact this
 · rcases List.mem_cons.1 hb with rfl | hb
   · have := p4 a ha l[i] List.mem_cons_self
     unfold ahW at this ⊢
     rw [h1,h2]; exact this
   · exact p4 a ha b (List.mem_cons_of_mem _ hb)
theorem ris_ins {s : Int} {k : List UInt8} {l : List WS} (x : WS) (hx1 : x.s = s) (hx2 : x.k = k) (h : risW l = true) (hth : thW s k l = false) : risW (l.take (plW s k l) ++ x :: l.drop (plW s k l)) = true := by
 have hp := (ris_pw _).1 h
 have hl : l = l.take (plW s k l) ++ l.drop (plW s k l) := (List.take_append_drop _ _).symm
 rw [hl,List.pairwise_append] at hp
 have hbefore : ∀ a ∈ l.take (plW s k l),ahB a.s a.k s k = true := by
   intro a ha
   obtain ⟨i,hi,rfl⟩ := List.mem_take_iff_getElem.1 ha
   have hi2 : i < plW s k l := by omega
   have := List.not_of_lt_findIdx hi2
   unfold naW at this
   simpa using this
 have hafter : ∀ b ∈ l.drop (plW s k l),ahB s k b.s b.k = true := by
   intro b hb
   by_cases hlt : plW s k l < l.length
   · have hna : naW s k l[plW s k l] = true := List.findIdx_getElem (w := hlt)
     have hne : ¬ (l[plW s k l].s = s ∧ l[plW s k l].k = k) := fun e => by
       have : thW s k l = true := List.any_eq_true.2 ⟨_,List.getElem_mem hlt,decide_eq_true e⟩
       rw [hth] at this; cases this
     have h0 : ahB s k l[plW s k l].s l[plW s k l].k = true := ah_tot hne (by unfold naW at hna; simpa using hna)
     rw [List.drop_eq_getElem_cons hlt] at hb hp
     rcases List.mem_cons.1 hb with rfl | hb
     · exact h0
     · exact ah_trans h0 ((List.pairwise_cons.1 hp.2.1).1 b hb)
   · rw [List.drop_eq_nil_of_le (by omega)] at hb
     simp at hb
 refine (ris_pw _).2 ?_
 rw [List.pairwise_append,List.pairwise_cons]
 refine ⟨hp.1,⟨fun b hb => ?_,hp.2.1⟩,fun a ha b hb => ?_⟩
 · unfold ahW; rw [hx1,hx2]; exact hafter b hb
 · rcases List.mem_cons.1 hb with rfl | hb
   · unfold ahW; rw [hx1,hx2]; exact hbefore a ha
   · exact hp.2.2 a ha b hb
def okP (Z : Int) (r : WS) : Prop := (0 ≤ r.s ∧ r.s ≤ 1099511627776) ∧ r.s.tmod Z = 0 ∧ r.k.length ≤ 64 ∧ (1 ≤ r.c ∧ r.c ≤ 1048576) ∧ (-1073741824 ≤ r.a ∧ r.a ≤ 1073741824) ∧ (-1073741824 ≤ r.b ∧ r.b ≤ 1073741824) ∧ r.a ≤ r.b ∧ r.c * r.a ≤ r.t ∧ r.t ≤ r.c * r.b
theorem outB_iff {n lo hi : Int} : outB n lo hi = false ↔ lo ≤ n ∧ n ≤ hi := by
 unfold outB
 rw [Bool.or_eq_false_iff,decide_eq_false_iff_not,decide_eq_false_iff_not]
 omega
theorem okr_iff {Z : Int} {r : WS} : okr Z r = true ↔ okP Z r := by
 unfold okr okWB okP
 simp only [Bool.and_eq_true,Bool.not_eq_true',outB_iff,decide_eq_true_eq,decide_eq_false_iff_not]
 constructor
 · rintro ⟨h1,h2,h3,h4,h5,h6,h7,h8⟩
   exact ⟨h1,h2,by omega,h4,h5,h6,by omega,h8⟩
 · rintro ⟨h1,h2,h3,h4,h5,h6,h7,h8⟩
   exact ⟨h1,h2,by omega,h4,h5,h6,by omega,h8⟩
theorem ch_iff {Z L M D : Int} {l : List WS} : chW Z L M D l = 0 ↔ ((1 ≤ Z ∧ Z ≤ 1048576) ∧ (0 ≤ L ∧ L ≤ 1048576) ∧ (-1 ≤ M ∧ M ≤ 1099511627776) ∧ (0 ≤ D ∧ D ≤ 1099511627776) ∧ l.length ≤ 256) ∧ (∀ r ∈ l,okP Z r) ∧ risW l = true := by
 have hh : hdB Z L M D l.length = true ↔ ¬ ((1 ≤ Z ∧ Z ≤ 1048576) ∧ (0 ≤ L ∧ L ≤ 1048576) ∧ (-1 ≤ M ∧ M ≤ 1099511627776) ∧ (0 ≤ D ∧ D ≤ 1099511627776) ∧ l.length ≤ 256) := by
   unfold hdB
   simp only [Bool.or_eq_true,decide_eq_true_eq,outB]
   omega
 have ha : l.all (okr Z) = true ↔ ∀ r ∈ l,okP Z r := by
   rw [List.all_eq_true]
   exact ⟨fun h r hr => okr_iff.1 (h r hr),fun h r hr => okr_iff.2 (h r hr)⟩
 unfold chW
 constructor
 · intro h
   split at h
   · cases h
   · rename_i h1
     split at h
     · rename_i h2
       split at h
       · rename_i h3
         exact ⟨Classical.byContradiction fun hc => h1 (hh.2 hc),ha.1 h2,h3⟩
       · cases h
     · cases h
 · rintro ⟨h1,h2,h3⟩
   rw [if_neg (fun hc => (hh.1 hc) h1),if_pos (ha.2 h2),if_pos h3]
theorem st_mod {Z t : Int} (hZ : 1 ≤ Z) (ht : 0 ≤ t) : (stW Z t).tmod Z = 0 := by
 have h0 := (st_bound hZ ht).1
 unfold stW at h0 ⊢
 rw [Int.tmod_eq_emod_of_nonneg h0,Int.tmod_eq_emod_of_nonneg ht]
 have h3 := Int.mul_ediv_add_emod t Z
 rw [show t - t % Z = Z * (t / Z) by omega]
 exact Int.mul_emod_right Z (t / Z)
theorem okP_new {Z t n : Int} {k : List UInt8} (hZ : 1 ≤ Z) (ht : 0 ≤ t ∧ t ≤ 1099511627776) (hn : -1073741824 ≤ n ∧ n ≤ 1073741824) (hk : k.length ≤ 64) : okP Z ⟨stW Z t,k,1,n,n,n⟩ := by
 have h0 := st_bound hZ ht.1
 exact ⟨⟨h0.1,by show stW Z t ≤ _; omega⟩,st_mod hZ ht.1,hk,⟨(by decide : (1 : Int) ≤ 1),(by decide : (1 : Int) ≤ 1048576)⟩,hn,hn,Int.le_refl _,by show 1 * n ≤ n; omega,by show n ≤ 1 * n; omega⟩
theorem okP_with {Z n : Int} {r : WS} (h : okP Z r) (hc : ¬ 1048576 ≤ r.c) (hn : -1073741824 ≤ n ∧ n ≤ 1073741824) : okP Z (wthW r n) := by
 obtain ⟨h1,h2,h3,h4,h5,h6,h7,h8,h9⟩ := h
 have m1 : ∀ a' : Int,a' ≤ r.a → r.c * a' ≤ r.c * r.a := fun a' h => Int.mul_le_mul_of_nonneg_left h (by omega)
 have m2 : ∀ b' : Int,r.b ≤ b' → r.c * r.b ≤ r.c * b' := fun b' h => Int.mul_le_mul_of_nonneg_left h (by omega)
 unfold wthW
 refine ⟨h1,h2,h3,⟨?_,?_⟩,⟨?_,?_⟩,⟨?_,?_⟩,?_,?_,?_⟩
 · show 1 ≤ r.c + 1; omega
 · show r.c + 1 ≤ _; omega
 · show _ ≤ if n < r.a then n else r.a; split <;> omega
 · show (if n < r.a then n else r.a) ≤ _; split <;> omega
 · show _ ≤ if r.b < n then n else r.b; split <;> omega
 · show (if r.b < n then n else r.b) ≤ _; split <;> omega
 · show (if n < r.a then n else r.a) ≤ (if r.b < n then n else r.b); split <;> split <;> omega
 · show (r.c + 1) * (if n < r.a then n else r.a) ≤ r.t + n
   rw [Int.add_mul,Int.one_mul]
   split
   · have := m1 n (by omega); omega
   · have := m1 r.a (Int.le_refl _); omega
 · show r.t + n ≤ (r.c + 1) * (if r.b < n then n else r.b)
   rw [Int.add_mul,Int.one_mul]
   split
   · have := m2 n (by omega); omega
   · have := m2 r.b (Int.le_refl _); omega
theorem fed_ok {Z L M D : Int} {l : List WS} {k : List UInt8} {t n : Int} (h : chW Z L M D l = 0) (he : (fdW Z L M D l k t n).e = 0) :
   chW (fdW Z L M D l k t n).Z (fdW Z L M D l k t n).L (fdW Z L M D l k t n).M (fdW Z L M D l k t n).D (fdW Z L M D l k t n).o = 0 := by
 obtain ⟨⟨oZ,oL,oM,oD,ol⟩,hrow,hris⟩ := ch_iff.1 h
 unfold fdW at he ⊢
 rw [if_pos h] at he ⊢
 by_cases hk : 64 < k.length
 · rw [if_pos hk] at he; cases he
 rw [if_neg hk] at he ⊢
 by_cases ho : (outB t 0 1099511627776 || outB n (-1073741824) 1073741824) = true
 · rw [if_pos ho] at he; cases he
 rw [if_neg ho] at he ⊢
 have ho2 : outB t 0 1099511627776 = false ∧ outB n (-1073741824) 1073741824 = false := by
   rw [← Bool.or_eq_false_iff]; simpa using ho
 have ot := outB_iff.1 ho2.1
 have on := outB_iff.1 ho2.2
 have oK : -1 ≤ mxW M t ∧ mxW M t ≤ 1099511627776 := by unfold mxW; split <;> omega
 by_cases hlt : ltW Z L (stW Z t) (mxW M t) = true
 · rw [if_pos hlt]
   refine ch_iff.2 ⟨⟨oZ,oL,oM,?_,ol⟩,hrow,hris⟩
   show 0 ≤ (if 1099511627776 < D + 1 then 1099511627776 else D + 1) ∧ (if 1099511627776 < D + 1 then 1099511627776 else D + 1) ≤ 1099511627776
   split <;> omega
 rw [if_neg hlt] at he ⊢
 unfold fedF at he ⊢
 have fin : ∀ l1 : List WS,l1.length ≤ 256 → (∀ r ∈ l1,okP Z r) → risW l1 = true → chW Z L (mxW M t) D (opW Z L (mxW M t) l1) = 0 := by
   intro l1 h1 h2 h3
   refine ch_iff.2 ⟨⟨oZ,oL,oK,oD,?_⟩,fun r hr => h2 r (List.mem_filter.1 hr).1,ris_filter _ h3⟩
   exact Nat.le_trans (List.length_filter_le _ _) h1
 by_cases hth : thW (stW Z t) k l = true
 · rw [if_pos hth] at he ⊢
   have hpl := th_lt hris hth
   have hre := row_eq hpl
   by_cases hc : 1048576 ≤ (rowW (stW Z t) k l).c
   · rw [if_pos hc] at he; cases he
   rw [if_neg hc]
   refine fin _ (by rw [List.length_set]; exact ol) (fun r hr => ?_) (ris_set _ hpl hris ?_ ?_)
   · rcases List.mem_or_eq_of_mem_set hr with h1 | rfl
     · exact hrow r h1
     · refine okP_with ?_ hc on
       rw [hre]; exact hrow _ (List.getElem_mem hpl)
   · show (rowW (stW Z t) k l).s = _; rw [hre]
   · show (rowW (stW Z t) k l).k = _; rw [hre]
 · rw [if_neg hth] at he ⊢
   have hth : thW (stW Z t) k l = false := by simpa using hth
   by_cases hc : 256 ≤ l.length
   · rw [if_pos hc] at he; cases he
   rw [if_neg hc]
   refine fin _ ?_ (fun r hr => ?_) (ris_ins _ rfl rfl hris hth)
   · have := plW_le (stW Z t) k l
     unfold insW
     simp only [List.length_append,List.length_take,List.length_cons,List.length_drop]
     omega
   · unfold insW at hr
     rcases List.mem_append.1 hr with h1 | h1
     · exact hrow r (List.mem_of_mem_take h1)
     · rcases List.mem_cons.1 h1 with rfl | h1
       · exact okP_new oZ.1 ot on (by omega)
       · exact hrow r (List.mem_of_mem_drop h1)
end Go.Proofs.Ytlpjdgkpapjldaa
namespace Go.Proofs.Ytlpjdgkpapjldaa
open Ax
def sm (f : WS → Int) : List WS → Int
 | [] => 0
 | x :: l => f x + sm f l
theorem sm_app (f : WS → Int) : ∀ (a b : List WS),sm f (a ++ b) = sm f a + sm f b
 | [],b => by simp [sm]
 | x :: a,b => by simp only [List.cons_append,sm,sm_app f a b]; omega
theorem sm_part (f : WS → Int) (Z L M : Int) : ∀ (l : List WS),sm f (clW Z L M l) + sm f (opW Z L M l) = sm f l
 | [] => rfl
 | x :: l => by
   have ih := sm_part f Z L M l
   unfold clW opW at ih ⊢
   simp only [List.filter_cons,sm]
   cases ltW Z L x.s M <;> simp [sm] <;> omega
theorem sm_mid (f : WS → Int) (l : List WS) (i : Nat) (h : i < l.length) : sm f l = sm f (l.take i) + (f l[i] + sm f (l.drop (i + 1))) := by
 have hl : l = l.take i ++ l[i] :: l.drop (i + 1) := by
   rw [← List.drop_eq_getElem_cons h,List.take_append_drop]
 conv => lhs; rw [hl]
 rw [sm_app]; rfl
theorem sm_set (f : WS → Int) (l : List WS) (i : Nat) (x : WS) (h : i < l.length) : sm f (l.set i x) = sm f l - f l[i] + f x := by
 rw [sm_mid f l i h,List.set_eq_take_append_cons_drop,if_pos h,sm_app]
 simp only [sm]
 omega
theorem sm_ins (f : WS → Int) (l : List WS) (i : Nat) (x : WS) : sm f (l.take i ++ x :: l.drop i) = sm f l + f x := by
 have hl : sm f l = sm f (l.take i) + sm f (l.drop i) := by rw [← sm_app,List.take_append_drop]
 rw [sm_app,hl]
 simp only [sm]
 omega
def apart (a b : WS) : Prop := ¬ (a.s = b.s ∧ a.k = b.k)
theorem ris_apart {l : List WS} (h : risW l = true) : l.Pairwise apart := by
 refine List.Pairwise.imp ?_ ((ris_pw _).1 h)
 intro a b hab he
 unfold ahW at hab
 rw [he.1,he.2,ah_irr] at hab
 cases hab
theorem lt_mono {Z L s M M' : Int} (h : M ≤ M') (hl : ltW Z L s M = true) : ltW Z L s M' = true := by
 unfold ltW at *
 have := of_decide_eq_true hl
 exact decide_eq_true (by omega)
theorem feed_once {Z L M D : Int} {o : List WS} {k : List UInt8} {t n : Int} (hch : chW Z L M D o = 0) (he : (fdW Z L M D o k t n).e = 0) (hD : D < 1099511627776)
   (hop : ∀ r ∈ o,ltW Z L r.s M = false) :
   ((fdW Z L M D o k t n).Z = Z ∧ (fdW Z L M D o k t n).L = L ∧ M ≤ (fdW Z L M D o k t n).M) ∧
   (∀ r ∈ (fdW Z L M D o k t n).o,ltW Z L r.s (fdW Z L M D o k t n).M = false) ∧
   (∀ r ∈ (fdW Z L M D o k t n).c,ltW Z L r.s (fdW Z L M D o k t n).M = true ∧ ltW Z L r.s M = false ∧ okP Z r) ∧
   (fdW Z L M D o k t n).c.Pairwise apart ∧
   (((fdW Z L M D o k t n).D = D + 1 ∧ sm WS.c (fdW Z L M D o k t n).c + sm WS.c (fdW Z L M D o k t n).o = sm WS.c o ∧ sm WS.t (fdW Z L M D o k t n).c + sm WS.t (fdW Z L M D o k t n).o = sm WS.t o) ∨
    ((fdW Z L M D o k t n).D = D ∧ sm WS.c (fdW Z L M D o k t n).c + sm WS.c (fdW Z L M D o k t n).o = sm WS.c o + 1 ∧ sm WS.t (fdW Z L M D o k t n).c + sm WS.t (fdW Z L M D o k t n).o = sm WS.t o + n)) := by
 obtain ⟨⟨oZ,oL,oM,oD,ol⟩,hrow,hris⟩ := ch_iff.1 hch
 unfold fdW at he ⊢
 rw [if_pos hch] at he ⊢
 by_cases hk : 64 < k.length
 · rw [if_pos hk] at he; cases he
 rw [if_neg hk] at he ⊢
 by_cases ho : (outB t 0 1099511627776 || outB n (-1073741824) 1073741824) = true
 · rw [if_pos ho] at he; cases he
 rw [if_neg ho] at he ⊢
 have ho2 : outB t 0 1099511627776 = false ∧ outB n (-1073741824) 1073741824 = false := by
   rw [← Bool.or_eq_false_iff]; simpa using ho
 have ot := outB_iff.1 ho2.1
 have on := outB_iff.1 ho2.2
 by_cases hlt : ltW Z L (stW Z t) (mxW M t) = true
 · rw [if_pos hlt]
   refine ⟨⟨rfl,rfl,Int.le_refl _⟩,hop,fun r hr => by simp at hr,List.Pairwise.nil,.inl ⟨?_,?_,?_⟩⟩
   · show (if 1099511627776 < D + 1 then 1099511627776 else D + 1) = D + 1
     rw [if_neg (by omega)]
   · show sm WS.c [] + sm WS.c o = sm WS.c o; simp [sm]
   · show sm WS.t [] + sm WS.t o = sm WS.t o; simp [sm]
 have hlt : ltW Z L (stW Z t) (mxW M t) = false := by simpa using hlt
 have hM : M ≤ mxW M t := by unfold mxW; split <;> omega
 have hnew : ltW Z L (stW Z t) M = false := by
   cases h : ltW Z L (stW Z t) M with
   | false => rfl
   | true => rw [lt_mono hM h] at hlt; cases hlt
 rw [if_neg (by rw [hlt]; simp)] at he ⊢
 unfold fedF at he ⊢
 have fin : ∀ l1 : List WS,(∀ r ∈ l1,okP Z r) → risW l1 = true → (∀ r ∈ l1,ltW Z L r.s M = false) → sm WS.c l1 = sm WS.c o + 1 → sm WS.t l1 = sm WS.t o + n →
     (Z = Z ∧ L = L ∧ M ≤ mxW M t) ∧ (∀ r ∈ opW Z L (mxW M t) l1,ltW Z L r.s (mxW M t) = false) ∧
     (∀ r ∈ clW Z L (mxW M t) l1,ltW Z L r.s (mxW M t) = true ∧ ltW Z L r.s M = false ∧ okP Z r) ∧ (clW Z L (mxW M t) l1).Pairwise apart ∧
     ((D = D + 1 ∧ sm WS.c (clW Z L (mxW M t) l1) + sm WS.c (opW Z L (mxW M t) l1) = sm WS.c o ∧ sm WS.t (clW Z L (mxW M t) l1) + sm WS.t (opW Z L (mxW M t) l1) = sm WS.t o) ∨
      (D = D ∧ sm WS.c (clW Z L (mxW M t) l1) + sm WS.c (opW Z L (mxW M t) l1) = sm WS.c o + 1 ∧ sm WS.t (clW Z L (mxW M t) l1) + sm WS.t (opW Z L (mxW M t) l1) = sm WS.t o + n)) := by
   intro l1 h1 h2 h3 h4 h5
   refine ⟨⟨rfl,rfl,hM⟩,fun r hr => ?_,fun r hr => ?_,ris_apart (ris_filter _ h2),.inr ⟨rfl,by rw [sm_part,h4],by rw [sm_part,h5]⟩⟩
   · have := (List.mem_filter.1 hr).2
     simpa using this
   · obtain ⟨h6,h7⟩ := List.mem_filter.1 hr
     exact ⟨h7,h3 r h6,h1 r h6⟩
 by_cases hth : thW (stW Z t) k o = true
 · rw [if_pos hth] at he ⊢
   have hpl := th_lt hris hth
   have hre := row_eq hpl
   by_cases hc : 1048576 ≤ (rowW (stW Z t) k o).c
   · rw [if_pos hc] at he; cases he
   rw [if_neg hc]
   have hw1 : (wthW (rowW (stW Z t) k o) n).s = o[plW (stW Z t) k o].s := by show (rowW (stW Z t) k o).s = _; rw [hre]
   have hw2 : (wthW (rowW (stW Z t) k o) n).k = o[plW (stW Z t) k o].k := by show (rowW (stW Z t) k o).k = _; rw [hre]
   refine fin _ (fun r hr => ?_) (ris_set _ hpl hris hw1 hw2) (fun r hr => ?_) ?_ ?_
   · rcases List.mem_or_eq_of_mem_set hr with h1 | rfl
     · exact hrow r h1
     · refine okP_with ?_ hc on
       rw [hre]; exact hrow _ (List.getElem_mem hpl)
   · rcases List.mem_or_eq_of_mem_set hr with h1 | rfl
     · exact hop r h1
     · rw [hw1]; exact hop _ (List.getElem_mem hpl)
   · rw [sm_set _ _ _ _ hpl]
     have : (wthW (rowW (stW Z t) k o) n).c = o[plW (stW Z t) k o].c + 1 := by show (rowW (stW Z t) k o).c + 1 = _; rw [hre]
     rw [this]; omega
   · rw [sm_set _ _ _ _ hpl]
     have : (wthW (rowW (stW Z t) k o) n).t = o[plW (stW Z t) k o].t + n := by show (rowW (stW Z t) k o).t + n = _; rw [hre]
     rw [this]; omega
 · rw [if_neg hth] at he ⊢
   have hth : thW (stW Z t) k o = false := by simpa using hth
   by_cases hc : 256 ≤ o.length
   · rw [if_pos hc] at he; cases he
   rw [if_neg hc]
   refine fin _ (fun r hr => ?_) (ris_ins _ rfl rfl hris hth) (fun r hr => ?_) (sm_ins _ _ _ _) (sm_ins _ _ _ _)
   · unfold insW at hr
     rcases List.mem_append.1 hr with h1 | h1
     · exact hrow r (List.mem_of_mem_take h1)
     · rcases List.mem_cons.1 h1 with rfl | h1
       · exact okP_new oZ.1 ot on (by omega)
       · exact hrow r (List.mem_of_mem_drop h1)
   · unfold insW at hr
     rcases List.mem_append.1 hr with h1 | h1
     · exact hop r (List.mem_of_mem_take h1)
     · rcases List.mem_cons.1 h1 with rfl | h1
       · exact hnew
       · exact hop r (List.mem_of_mem_drop h1)
end Go.Proofs.Ytlpjdgkpapjldaa
namespace Go.Proofs.Ytlpjdgkpapjldaa
open Ax
def totS35 : zay
 | [.sg 6 xs f],[] => ⟨xs.length ≤ 9223372036854775807 ∧ ∃ l : List WS,xs = l.map wsA ∧ ∀ j,j ≤ l.length → smlW (sm WS.c (l.take j)) ∧ smlW (sm WS.t (l.take j)),.tup [.w (.int .i64 (sm WS.c (xs.map uws))),.w (.int .i64 (sm WS.t (xs.map uws)))],[]⟩
 | _,_ => zdj
theorem sm_snoc (f : WS → Int) (l : List WS) (j : Nat) (h : j < l.length) : sm f (l.take (j + 1)) = sm f (l.take j) + f l[j] := by
 rw [List.take_succ_eq_append_getElem h,sm_app]; simp [sm]
section
set_option maxRecDepth 100000
set_option maxHeartbeats 8000000 in
theorem tot35_sound : zbz Try.prog 21 totS35 := by
 refine fn_soundW (S := noS) (T := ty) zdc ty_ok noS_ok Try.func21 (c := Try.f21.body.getD .skip) (by kernel_rfl) (by kernel_rfl) (fun xs pins hp _ => ?_)
 unfold totS35 at hp ⊢
 split at hp
 · rename_i xs f _
   obtain ⟨hL,l,rfl,hb⟩ := hp
   rw [List.length_map] at hL
   rw [zam]
   have hle : (l.map wsA).length = l.length := by simp
   refine ⟨by simp,?_⟩
   unfold Try.f21
   simp only [go_sem,zac,Nat.reduceAdd,Nat.reduceSub,Nat.reduceMul,Int.reduceToNat,reduceCtorEq,↓reduceIte,Int.reducePow,Nat.reducePow,Int.reduceMod,Nat.reduceLeDiff,Int.reduceLE,Int.reduceNe,Int.reduceEq,Nat.reduceEqDiff,Nat.reduceLT,Nat.reduceBEq,ty,noS,hle]
   refine awp_loopW ⟨fun m σ => ∃ j : Nat,m = l.length - j ∧ j ≤ l.length ∧
     σ = ⟨[.sg 6 (l.map wsA) f,.junk,.w (.int .i64 0),.w (.int .i64 0),.w (.int .i64 (sm WS.c (l.take j))),.w (.int .i64 (sm WS.t (l.take j))),.junk,.junk,.sg 6 (l.map wsA) f,.w (.int .i64 l.length),.w (.int .i64 j),.junk,.junk,.junk,.junk,.junk,.junk,.junk,.junk,.junk,.junk,.junk,.junk,.junk,.junk],[],4⟩,?_,?_⟩
   · refine ⟨_,_,zao [0,1,2,3] rfl rfl rfl ?_ ?_,0,rfl,by omega,rfl⟩
     · simp only [ssT,zav,zaw,setSlot,gOf,AV.ren,renL,Blk.ren,Ax.look,Ax.put,reduceCtorEq,↓reduceIte,Nat.reduceEqDiff,Nat.reduceLT,Nat.reduceAdd,List.length_append,List.length_cons,List.length_nil,Option.some.injEq]; try simp [sm]
     · simp only [ssT,zav,zaw,setSlot,gOf,AV.ren,renL,Blk.ren,Ax.look,Ax.put,reduceCtorEq,↓reduceIte,Nat.reduceEqDiff,Nat.reduceLT,Nat.reduceAdd,List.length_append,List.length_cons,List.length_nil,Option.some.injEq]; try simp
   · rintro m σ ⟨j,rfl,hj,rfl⟩
     by_cases hjl : j < l.length
     · have e1 : ((j : Int) + 1 + 9223372036854775808) % 18446744073709551616 - 9223372036854775808 = ((j + 1 : Nat) : Int) := by omega
       have d1 : decide ((j : Int) < l.length) = true := decide_eq_true (by omega)
       have hs1 := zcb l j hjl
       have q1 := sm_snoc WS.c l j hjl
       have q2 := sm_snoc WS.t l j hjl
       obtain ⟨⟨b1,b2⟩,b3,b4⟩ := hb (j + 1) (by omega)
       obtain ⟨r,hr⟩ : ∃ r,l[j] = r := ⟨_,rfl⟩
       rw [hr] at hs1 q1 q2
       obtain ⟨s,k,c,t,x,y⟩ := r
       have hs1 : slot (l.map wsA) j = .agg [.w (.int .i64 s),.str k,.w (.int .i64 c),.w (.int .i64 t),.w (.int .i64 x),.w (.int .i64 y)] := hs1
       simp only at q1 q2
       have w1 : (sm WS.c (l.take j) + c + 9223372036854775808) % 18446744073709551616 - 9223372036854775808 = sm WS.c (l.take (j + 1)) := by omega
       have w2 : (sm WS.t (l.take j) + t + 9223372036854775808) % 18446744073709551616 - 9223372036854775808 = sm WS.t (l.take (j + 1)) := by omega
       simp only [go_sem,zac,Nat.reduceAdd,Nat.reduceSub,Nat.reduceMul,Int.reduceToNat,reduceCtorEq,↓reduceIte,Int.reducePow,Nat.reducePow,Int.reduceMod,Nat.reduceLeDiff,Int.reduceLE,Int.reduceNe,Int.reduceEq,Nat.reduceEqDiff,Nat.reduceLT,Nat.reduceBEq,ty,noS,hle,d1,e1,hs1,w1,w2,Int.toNat_natCast]
       repeat (refine And.intro (by omega) ?_)
       refine ⟨l.length - (j + 1),_,by omega,zao [0,1,2,3] rfl rfl rfl ?_ ?_,j + 1,rfl,by omega,rfl⟩
       · simp only [ssT,zav,zaw,setSlot,gOf,AV.ren,renL,Blk.ren,Ax.look,Ax.put,reduceCtorEq,↓reduceIte,Nat.reduceEqDiff,Nat.reduceLT,Nat.reduceAdd,List.length_append,List.length_cons,List.length_nil,Option.some.injEq]; try simp
       · simp only [ssT,zav,zaw,setSlot,gOf,AV.ren,renL,Blk.ren,Ax.look,Ax.put,reduceCtorEq,↓reduceIte,Nat.reduceEqDiff,Nat.reduceLT,Nat.reduceAdd,List.length_append,List.length_cons,List.length_nil,Option.some.injEq]; try simp
     · have d1 : decide ((j : Int) < l.length) = false := decide_eq_false (by omega)
       have hii : l.take j = l := List.take_of_length_le (by omega)
       rw [hii]
       simp only [go_sem,zac,Nat.reduceAdd,Nat.reduceSub,Nat.reduceMul,Int.reduceToNat,reduceCtorEq,↓reduceIte,Int.reducePow,Nat.reducePow,Int.reduceMod,Nat.reduceLeDiff,Int.reduceLE,Int.reduceNe,Int.reduceEq,Nat.reduceEqDiff,Nat.reduceLT,Nat.reduceBEq,ty,noS,hle,d1]
       refine ⟨_,Weak.refl _,?_⟩
       simp only [go_sem,zac,Nat.reduceAdd,Nat.reduceSub,Nat.reduceMul,Int.reduceToNat,reduceCtorEq,↓reduceIte,Int.reducePow,Nat.reducePow,Int.reduceMod,Nat.reduceLeDiff,Int.reduceLE,Int.reduceNe,Int.reduceEq,Nat.reduceEqDiff,Nat.reduceLT,Nat.reduceBEq,ty,noS]
       try (refine ⟨_,Weak.refl _,?_⟩)
       try simp only [go_sem,zac,Nat.reduceAdd,Nat.reduceSub,Nat.reduceMul,Int.reduceToNat,reduceCtorEq,↓reduceIte,Int.reducePow,Nat.reducePow,Int.reduceMod,Nat.reduceLeDiff,Int.reduceLE,Int.reduceNe,Int.reduceEq,Nat.reduceEqDiff,Nat.reduceLT,Nat.reduceBEq,ty,noS]
 · exact hp.elim
end
end Go.Proofs.Ytlpjdgkpapjldaa
namespace Go.Proofs.Ytlpjdgkpapjldaa
open Ax
def closeV (Z L M D : Int) (l : List WS) (f : Bool) : AV :=
 if chW Z L M D l = 0 then .tup [.agg [.w (.int .i64 Z),.w (.int .i64 L),.w (.int .i64 M),.w (.int .i64 D),.sg 6 [] false],.sg 6 (l.map wsA) false]
 else .tup [.agg [.w (.int .i64 Z),.w (.int .i64 L),.w (.int .i64 M),.w (.int .i64 D),.sg 6 (l.map wsA) f],.sg 6 [] false]
def closeS35 : zay
 | [.agg [.w (.int .i64 Z),.w (.int .i64 L),.w (.int .i64 M),.w (.int .i64 D),.sg 6 xs f]],[] => ⟨xs.length ≤ 1000000 ∧ ∃ l : List WS,xs = l.map wsA,closeV Z L M D (xs.map uws) (empL (xs.map uws)),[]⟩
 | _,_ => zdj
def newV (Z L : Int) : AV := if chW Z L (-1) 0 [] = 0 then .tup [.agg [.w (.int .i64 Z),.w (.int .i64 L),.w (.int .i64 (-1)),.w (.int .i64 0),.sg 6 [] true],.w (.int .i64 0)] else .tup [zW,.w (.int .i64 (chW Z L (-1) 0 []))]
def newS35 : zay
 | [.w (.int .i64 Z),.w (.int .i64 L)],[] => ⟨True,newV Z L,[]⟩
 | _,_ => zdj
def Scl35 (f : FuncId) : Option zay :=
 match f with
 | 19 => some zdf
 | 20 => some zdf
 | 26 => some cloWS
 | _ => none
theorem Scl35_ok : Fns Try.prog Scl35 := by
 intro f s h
 unfold Scl35 at h
 split at h
 · injection h with h; subst h; exact ⟨⟨_,Try.func19,by kernel_rfl,by kernel_rfl⟩,chkW_sound⟩
 · injection h with h; subst h; exact ⟨⟨_,Try.func20,by kernel_rfl,by kernel_rfl⟩,rchkW_sound⟩
 · injection h with h; subst h; exact ⟨⟨_,Try.func26,by kernel_rfl,by kernel_rfl⟩,cloW_sound⟩
 · cases h
section
set_option maxRecDepth 100000
set_option maxHeartbeats 8000000
theorem close35_sound : zbz Try.prog 11 closeS35 := by
 refine zdq (S := Scl35) (SO := noO) (T := ty) zdc ty_ok Scl35_ok noO_ok Try.func11 (c := Try.f11.body.getD .skip) (by kernel_rfl) (fun xs pins hp _ => ?_)
 unfold closeS35 at hp ⊢
 split at hp
 · rename_i Z L M D xs f _
   obtain ⟨hL,l,rfl⟩ := hp
   rw [List.length_map] at hL
   rw [zam]
   have hle : (l.map wsA).length = l.length := by simp
   have hcl := zal l
   have hex : ∃ p : List WS,l.map wsA = p.map wsA := ⟨l,rfl⟩
   have hL6 : l.length ≤ 9223372036854775807 := by omega
   have hc : ∀ f,coe ty 29 (.sg 6 (l.map wsA) f) = .sg 6 (l.map wsA) f := fun f => by cases l <;> rfl
   refine ⟨by simp,zec,by kernel_rfl,?_⟩
   unfold Try.f11 closeV
   cases l with
   | nil =>
     have hex0 : ∃ p : List WS,([] : List AV) = p.map wsA := ⟨[],rfl⟩
     by_cases hch : chW Z L M D [] = 0
     · have d0 : decide (chW Z L M D [] = 0) = true := decide_eq_true hch
       rw [if_pos hch]
       simp only [go_sem,zaa,Nat.reduceAdd,Nat.reduceSub,Nat.reduceMul,Int.reduceToNat,reduceCtorEq,↓reduceIte,Int.reducePow,Nat.reducePow,Int.reduceMod,Nat.reduceLeDiff,Int.reduceLE,Int.reduceNe,Int.reduceEq,Nat.reduceEqDiff,Nat.reduceLT,Nat.reduceBEq,List.map_cons,List.map_nil,List.toList_toArray,Array.toList_append,Option.toArray_some,Option.toArray_none,Bool.and_self,ty,Scl35,zec,cloWS,zdf,empW,coeNW,hex0,hch,d0,decide_true,List.map_nil,List.length_nil,cond_true,Bool.not_true,Bool.not_false]
       refine ⟨_,(weak_nilB 12 5 4 6 [.w (.int .i64 Z),.w (.int .i64 L),.w (.int .i64 M),.w (.int .i64 D),.sg 1 [] true] rfl (by simp) (by exact trivial) (by decide)).trans ((weak_fgC 148 6 2 12 [] _ rfl rfl rfl (by simp [slot,fgL,AV.fg,AV.ids]) (by simp [Blk.idsB,Blk.closed,closedL,AV.closed,idsL,AV.ids,setSlot])).trans (zbg 3 (.sg 6 [] false) (fun w loc v h => by exact zcd 6 h))),?_⟩
       simp only [go_sem,zaa,Nat.reduceAdd,Nat.reduceSub,Nat.reduceMul,Int.reduceToNat,reduceCtorEq,↓reduceIte,Int.reducePow,Nat.reducePow,Int.reduceMod,Nat.reduceLeDiff,Int.reduceLE,Int.reduceNe,Int.reduceEq,Nat.reduceEqDiff,Nat.reduceLT,Nat.reduceBEq,List.map_cons,List.map_nil,List.toList_toArray,Array.toList_append,Option.toArray_some,Option.toArray_none,Bool.and_self,ty,fgL,fgH,AV.fg,Blk.fg,Nat.reduceBEq,cond_true,cond_false,beq_self_eq_true,Bool.true_and,List.drop_zero,List.take_zero,fg_ws,setSlot]
     · have d0 : decide (chW Z L M D [] = 0) = false := decide_eq_false hch
       rw [if_neg hch]
       simp only [go_sem,zaa,Nat.reduceAdd,Nat.reduceSub,Nat.reduceMul,Int.reduceToNat,reduceCtorEq,↓reduceIte,Int.reducePow,Nat.reducePow,Int.reduceMod,Nat.reduceLeDiff,Int.reduceLE,Int.reduceNe,Int.reduceEq,Nat.reduceEqDiff,Nat.reduceLT,Nat.reduceBEq,List.map_cons,List.map_nil,List.toList_toArray,Array.toList_append,Option.toArray_some,Option.toArray_none,Bool.and_self,ty,Scl35,zec,cloWS,zdf,empW,empL,coeNW,hex0,d0,List.map_nil,List.length_nil,cond_true,Bool.not_true,Bool.not_false]
       refine ⟨_,zbg 3 (.sg 6 [] false) (fun w loc v h => zcd 6 h),?_⟩
       simp only [go_sem,zaa,Nat.reduceAdd,Nat.reduceSub,Nat.reduceMul,Int.reduceToNat,reduceCtorEq,↓reduceIte,Int.reducePow,Nat.reducePow,Int.reduceMod,Nat.reduceLeDiff,Int.reduceLE,Int.reduceNe,Int.reduceEq,Nat.reduceEqDiff,Nat.reduceLT,Nat.reduceBEq,List.map_cons,List.map_nil,List.toList_toArray,Array.toList_append,Option.toArray_some,Option.toArray_none,Bool.and_self,ty,setSlot]
   | cons x l0 =>
     have hem : empW ((x :: l0).map wsA) = false := rfl
     have hel : empL (x :: l0) = false := rfl
     generalize hll : x :: l0 = l at *
     have htk : (l.map wsA).take l.length = l.map wsA := List.take_of_length_le (by simp)
     by_cases hch : chW Z L M D l = 0
     · have d0 : decide (chW Z L M D l = 0) = true := decide_eq_true hch
       rw [if_pos hch]
       simp only [go_sem,zaa,Nat.reduceAdd,Nat.reduceSub,Nat.reduceMul,Int.reduceToNat,reduceCtorEq,↓reduceIte,Int.reducePow,Nat.reducePow,Int.reduceMod,Nat.reduceLeDiff,Int.reduceLE,Int.reduceNe,Int.reduceEq,Nat.reduceEqDiff,Nat.reduceLT,Nat.reduceBEq,List.map_cons,List.map_nil,List.toList_toArray,Array.toList_append,Option.toArray_some,Option.toArray_none,Bool.and_self,ty,Scl35,zec,cloWS,zdf,hem,hle,hL,hL6,hex,hc,hcl,htk,zdd,zaz,zam,hch,d0,decide_true,cond_false,Bool.not_true,Bool.not_false]
       have dle : decide (l.length ≤ (l.map wsA).length) = true := decide_eq_true (by simp)
       refine ⟨mem_ws,?_⟩
       refine ⟨_,(weak_fg 36 6 3 (l.map wsA) rfl hcl (by simp [slot,AV.ids])).trans ((weak_nilB 12 5 4 6 [.w (.int .i64 Z),.w (.int .i64 L),.w (.int .i64 M),.w (.int .i64 D),.sg 1 [] true] rfl (by simp) (by exact trivial) (by decide)).trans ((weak_fgC 148 6 2 12 [] _ rfl rfl rfl (by simp [slot,fgL,AV.fg,AV.ids]) (by simp [Blk.idsB,Blk.closed,closedL,AV.closed,idsL,AV.ids,setSlot])).trans (Weak.refl _))),?_⟩
       simp only [go_sem,zaa,Nat.reduceAdd,Nat.reduceSub,Nat.reduceMul,Int.reduceToNat,reduceCtorEq,↓reduceIte,Int.reducePow,Nat.reducePow,Int.reduceMod,Nat.reduceLeDiff,Int.reduceLE,Int.reduceNe,Int.reduceEq,Nat.reduceEqDiff,Nat.reduceLT,Nat.reduceBEq,List.map_cons,List.map_nil,List.toList_toArray,Array.toList_append,Option.toArray_some,Option.toArray_none,Bool.and_self,ty,fgL,fgH,AV.fg,Blk.fg,Nat.reduceBEq,cond_true,cond_false,beq_self_eq_true,Bool.true_and,List.drop_zero,List.take_zero,fg_ws,setSlot,dle,htk,Nat.zero_add]
     · have d0 : decide (chW Z L M D l = 0) = false := decide_eq_false hch
       rw [if_neg hch]
       simp only [go_sem,zaa,Nat.reduceAdd,Nat.reduceSub,Nat.reduceMul,Int.reduceToNat,reduceCtorEq,↓reduceIte,Int.reducePow,Nat.reducePow,Int.reduceMod,Nat.reduceLeDiff,Int.reduceLE,Int.reduceNe,Int.reduceEq,Nat.reduceEqDiff,Nat.reduceLT,Nat.reduceBEq,List.map_cons,List.map_nil,List.toList_toArray,Array.toList_append,Option.toArray_some,Option.toArray_none,Bool.and_self,ty,Scl35,zec,cloWS,zdf,hem,hel,hle,hL,hL6,hex,hc,hcl,htk,zdd,zaz,zam,d0,cond_false,Bool.not_true,Bool.not_false]
       have dle : decide (l.length ≤ (l.map wsA).length) = true := decide_eq_true (by simp)
       refine ⟨mem_ws,?_⟩
       refine ⟨_,(weak_fgC 36 6 2 12 (l.map wsA) _ rfl hcl rfl (by simp [slot,fgL,AV.fg,AV.ids]) (by simp [Blk.idsB,Blk.closed,closedL,AV.closed,idsL,AV.ids,setSlot])).trans (zbg 3 (.sg 6 [] false) (fun w loc v h => by exact zcd 6 h)),?_⟩
       simp only [go_sem,zaa,Nat.reduceAdd,Nat.reduceSub,Nat.reduceMul,Int.reduceToNat,reduceCtorEq,↓reduceIte,Int.reducePow,Nat.reducePow,Int.reduceMod,Nat.reduceLeDiff,Int.reduceLE,Int.reduceNe,Int.reduceEq,Nat.reduceEqDiff,Nat.reduceLT,Nat.reduceBEq,List.map_cons,List.map_nil,List.toList_toArray,Array.toList_append,Option.toArray_some,Option.toArray_none,Bool.and_self,ty,fgL,fgH,AV.fg,Blk.fg,Nat.reduceBEq,cond_true,cond_false,beq_self_eq_true,Bool.true_and,List.drop_zero,List.take_zero,fg_ws,setSlot,dle,htk,Nat.zero_add]
 · exact hp.elim
theorem new35_sound : zbz Try.prog 13 newS35 := by
 refine fn_soundW (S := Scl35) (T := ty) zdc ty_ok Scl35_ok Try.func13 (c := Try.f13.body.getD .skip) (by kernel_rfl) (by kernel_rfl) (fun xs pins hp _ => ?_)
 unfold newS35 at hp ⊢
 split at hp
 · rename_i Z L _
   have hex0 : ∃ p : List WS,([] : List AV) = p.map wsA := ⟨[],rfl⟩
   refine ⟨by simp,?_⟩
   unfold Try.f13 newV
   by_cases hch : chW Z L (-1) 0 [] = 0
   · have d0 : decide (chW Z L (-1) 0 [] = 0) = true := decide_eq_true hch
     rw [if_pos hch]
     simp only [go_sem,zac,Nat.reduceAdd,Nat.reduceSub,Nat.reduceMul,Int.reduceToNat,reduceCtorEq,↓reduceIte,Int.reducePow,Nat.reducePow,Int.reduceMod,Nat.reduceLeDiff,Int.reduceLE,Int.reduceNe,Int.reduceEq,Nat.reduceEqDiff,Nat.reduceLT,Nat.reduceBEq,ty,Scl35,zdf,coeNW,hex0,hch,d0,decide_true,List.map_nil,List.length_nil,Bool.not_true,Bool.not_false]
     try (refine ⟨_,Weak.refl _,?_⟩)
     try simp only [go_sem,zac,Nat.reduceAdd,Nat.reduceSub,Nat.reduceMul,Int.reduceToNat,reduceCtorEq,↓reduceIte,Int.reducePow,Nat.reducePow,Int.reduceMod,Nat.reduceLeDiff,Int.reduceLE,Int.reduceNe,Int.reduceEq,Nat.reduceEqDiff,Nat.reduceLT,Nat.reduceBEq,ty]
   · have d0 : decide (chW Z L (-1) 0 [] = 0) = false := decide_eq_false hch
     rw [if_neg hch]
     simp only [go_sem,zac,Nat.reduceAdd,Nat.reduceSub,Nat.reduceMul,Int.reduceToNat,reduceCtorEq,↓reduceIte,Int.reducePow,Nat.reducePow,Int.reduceMod,Nat.reduceLeDiff,Int.reduceLE,Int.reduceNe,Int.reduceEq,Nat.reduceEqDiff,Nat.reduceLT,Nat.reduceBEq,ty,Scl35,zdf,coeNW,hex0,d0,List.map_nil,List.length_nil,Bool.not_true,Bool.not_false]
     try (refine ⟨_,Weak.refl _,?_⟩)
     try simp only [go_sem,zac,Nat.reduceAdd,Nat.reduceSub,Nat.reduceMul,Int.reduceToNat,reduceCtorEq,↓reduceIte,Int.reducePow,Nat.reducePow,Int.reduceMod,Nat.reduceLeDiff,Int.reduceLE,Int.reduceNe,Int.reduceEq,Nat.reduceEqDiff,Nat.reduceLT,Nat.reduceBEq,ty,zW]
 · exact hp.elim
end
end Go.Proofs.Ytlpjdgkpapjldaa
