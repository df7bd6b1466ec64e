/- What the proofs of this seat stand on; it asks nothing. -/
import Derived.Test.YtlpjdgkpapjldaaZa09
set_option linter.unusedSimpArgs false
set_option linter.unusedVariables false
namespace Go.Proofs.Ytlpjdgkpapjldaa
open Ax
def ltW (Z L s M : Int) : Bool := decide (s + Z + L ≤ M)
def smlW (x : Int) : Prop := -1152921504606846976 ≤ x ∧ x ≤ 1152921504606846976
def lateWS : zan
 | [.agg [.w (.int .i64 Z),.w (.int .i64 L),.w (.int .i64 M),.w (.int .i64 D),.sg 6 xs f],.w (.int .i64 s),.w (.int .i64 m)],[] => ⟨smlW Z ∧ smlW L ∧ smlW s,.w (.bool (ltW Z L s m)),[]⟩
 | _,_ => zbv
def opW (Z L M : Int) (l : List WS) : List WS := l.filter fun r => !ltW Z L r.s M
def clW (Z L M : Int) (l : List WS) : List WS := l.filter fun r => ltW Z L r.s M
def partWS : zan
 | [.agg [.w (.int .i64 Z),.w (.int .i64 L),.w (.int .i64 M),.w (.int .i64 D),.sg 6 xs f]],[] => ⟨(xs.length ≤ 1000000 ∧ smlW Z ∧ smlW L) ∧ ∃ l : List WS,xs = l.map wsA ∧ ∀ r ∈ l,smlW r.s,.tup [.agg [.w (.int .i64 Z),.w (.int .i64 L),.w (.int .i64 M),.w (.int .i64 D),.sg 6 ((opW Z L M (xs.map uws)).map wsA) false],.sg 6 ((clW Z L M (xs.map uws)).map wsA) false],[]⟩
 | _,_ => zbv
theorem fg_ws (id s : Nat) (zs : List AV) : ∀ (l : List WS),fgL id s zs (l.map wsA) = l.map wsA
 | [] => rfl
 | x :: l => by
   show AV.fg id s zs (wsA x) :: fgL id s zs (l.map wsA) = wsA x :: l.map wsA
   rw [fg_ws id s zs l]
   rfl
section
set_option maxRecDepth 100000
set_option maxHeartbeats 8000000
theorem late35_sound : zbf Try.prog 27 lateWS := by
 refine zbd (S := noS) (T := ty) zbo ty_ok zcv Try.func27 (c := Try.f27.body.getD .skip) (by kernel_rfl) (by kernel_rfl) (fun xs pins hp _ => ?_)
 unfold lateWS at hp ⊢
 split at hp
 · rename_i Z L M D xs f s m _
   obtain ⟨⟨h1,h2⟩,⟨h3,h4⟩,h5,h6⟩ := hp
   have w1 : (s + Z + 9223372036854775808) % 18446744073709551616 - 9223372036854775808 = s + Z := by omega
   have w2 : (s + Z + L + 9223372036854775808) % 18446744073709551616 - 9223372036854775808 = s + Z + L := by omega
   refine ⟨by simp,?_⟩
   unfold Try.f27 ltW
   simp only [go_sem,zab,Nat.reduceAdd,Nat.reduceSub,Nat.reduceMul,Int.reduceToNat,reduceCtorEq,↓reduceIte,Int.reducePow,Nat.reducePow,Int.reduceMod,Nat.reduceLeDiff,Int.reduceLE,Int.reduceNe,Int.reduceEq,Nat.reduceEqDiff,Nat.reduceLT,Nat.reduceBEq,ty,noS,w1,w2]
 · exact hp.elim
def SpartW (f : FuncId) : Option zan :=
 match f with
 | 27 => some lateWS
 | _ => none
theorem SpartW_ok : Fns Try.prog SpartW := by
 intro f s h
 unfold SpartW at h
 split at h
 · injection h with h; subst h; exact ⟨⟨_,Try.func27,by kernel_rfl,by kernel_rfl⟩,late35_sound⟩
 · cases h
theorem part_sound : zbf Try.prog 29 partWS := by
 refine zfp (S := SpartW) (T := ty) zbo ty_ok SpartW_ok Try.func29 (c := Try.f29.body.getD .skip) (by kernel_rfl) (by kernel_rfl) (fun xs pins hp _ => ?_)
 unfold partWS at hp ⊢
 split at hp
 · rename_i Z L M D xs f _
   obtain ⟨⟨hL,hZ,hLt⟩,l,rfl,hs⟩ := hp
   rw [List.length_map] at hL
   rw [zak]
   have hle : (l.map wsA).length = l.length := by simp
   have ht : top = 4294967296 := rfl
   refine ⟨by simp,?_⟩
   unfold Try.f29
   simp only [go_sem,zab,Nat.reduceAdd,Nat.reduceSub,Nat.reduceMul,Int.reduceToNat,reduceCtorEq,↓reduceIte,Int.reducePow,Nat.reducePow,Int.reduceMod,Nat.reduceLeDiff,Int.reduceLE,Int.reduceNe,Int.reduceEq,Nat.reduceEqDiff,Nat.reduceLT,Nat.reduceBEq,ty,SpartW,hle]
   refine awp_loopW ⟨fun m σ => ∃ (j a b : Nat),m = l.length - j ∧ j ≤ l.length ∧ a = (opW Z L M (l.take j)).length ∧ b = (clW Z L M (l.take j)).length ∧
     σ = ⟨[.agg [.w (.int .i64 Z),.w (.int .i64 L),.w (.int .i64 M),.w (.int .i64 D),.sg 6 (l.map wsA) f],.rf 4 5 0 0,.rf 5 5 0 0,.sg 1 [] true,.ms 6 6 0 a,.ms 7 6 0 b,.junk,.junk,.junk,.sg 6 (l.map wsA) f,.w (.int .i64 l.length),.w (.int .i64 j),.junk,.junk,.junk,.junk,.junk,.junk,.junk,.junk,.junk,.junk,.junk,.junk,.junk,.junk,.junk,.junk,.junk,.junk,.junk,.junk,.junk,.junk],
       [(4,.g 5 [.agg [.w (.int .i64 Z),.w (.int .i64 L),.w (.int .i64 M),.w (.int .i64 D),.sg 6 (l.map wsA) f]]),(5,.g 5 [.agg [.w (.int .i64 0),.w (.int .i64 0),.w (.int .i64 0),.w (.int .i64 0),.sg 6 [] true]]),(6,.g 6 ((opW Z L M (l.take j)).map wsA)),(7,.g 6 ((clW Z L M (l.take j)).map wsA))],8⟩,?_,?_⟩
   · refine ⟨_,_,(weak_nil 4 6 (.g 6 []) ⟨by decide,rfl⟩ (by exact trivial)).trans ((weak_nil 5 6 (.g 6 []) ⟨by decide,rfl⟩ (by exact trivial)).trans (zao [0,1,2,3,4,12,76,77] rfl rfl rfl ?_ ?_)),0,0,0,rfl,by omega,rfl,rfl,rfl⟩
     · simp only [ssT,zav,zaw,setSlot,gOf,AV.ren,renL,Blk.ren,Ax.look,Ax.put,reduceCtorEq,↓reduceIte,Nat.reduceEqDiff,Nat.reduceLT,Nat.reduceAdd,List.length_append,List.length_cons,List.length_nil,Option.some.injEq]; try simp
     · simp only [ssT,zav,zaw,setSlot,gOf,AV.ren,renL,Blk.ren,Ax.look,Ax.put,reduceCtorEq,↓reduceIte,Nat.reduceEqDiff,Nat.reduceLT,Nat.reduceAdd,List.length_append,List.length_cons,List.length_nil,Option.some.injEq]; try simp [renL,opW,clW]
       try rfl
   · rintro m σ ⟨j,a,b,rfl,hj,ha,hb,rfl⟩
     have hla : ((opW Z L M (l.take j)).map wsA).length = a := by rw [List.length_map]; exact ha.symm
     have hlb : ((clW Z L M (l.take j)).map wsA).length = b := by rw [List.length_map]; exact hb.symm
     have hab : a ≤ j ∧ b ≤ j := by
       have h1 : a ≤ (l.take j).length := by rw [ha]; exact List.length_filter_le _ _
       have h2 : b ≤ (l.take j).length := by rw [hb]; exact List.length_filter_le _ _
       rw [List.length_take] at h1 h2
       omega
     by_cases hjl : j < l.length
     · have e1 : ((j : Int) + 1 + 9223372036854775808) % 18446744073709551616 - 9223372036854775808 = ((j + 1 : Nat) : Int) := by omega
       have d1 : decide ((j : Int) < l.length) = true := decide_eq_true (by omega)
       have hs1 := zch l j hjl
       have hsm := hs l[j] (List.getElem_mem hjl)
       have htk : l.take (j + 1) = l.take j ++ [l[j]] := List.take_succ_eq_append_getElem hjl
       obtain ⟨r,hr⟩ : ∃ r,l[j] = r := ⟨_,rfl⟩
       rw [hr] at hs1 hsm htk
       obtain ⟨s,k,c,t,x,y⟩ := r
       have hs1 : slot (l.map wsA) j = .agg [.w (.int .i64 s),.str k,.w (.int .i64 c),.w (.int .i64 t),.w (.int .i64 x),.w (.int .i64 y)] := hs1
       simp only at hsm
       cases hv : ltW Z L s M with
       | true =>
         have ho : opW Z L M (l.take (j + 1)) = opW Z L M (l.take j) := by unfold opW; rw [htk,List.filter_append]; simp [hv]
         have hc : clW Z L M (l.take (j + 1)) = clW Z L M (l.take j) ++ [⟨s,k,c,t,x,y⟩] := by unfold clW; rw [htk,List.filter_append]; simp [hv]
         have hat : (clW Z L M (l.take j)).map wsA ++ [.agg [.w (.int .i64 s),.str k,.w (.int .i64 c),.w (.int .i64 t),.w (.int .i64 x),.w (.int .i64 y)]] = (clW Z L M (l.take (j + 1))).map wsA := by rw [hc,List.map_append]; rfl
         simp only [go_sem,zab,Nat.reduceAdd,Nat.reduceSub,Nat.reduceMul,Int.reduceToNat,reduceCtorEq,↓reduceIte,Int.reducePow,Nat.reducePow,Int.reduceMod,Nat.reduceLeDiff,Int.reduceLE,Int.reduceNe,Int.reduceEq,Nat.reduceEqDiff,Nat.reduceLT,Nat.reduceBEq,ty,SpartW,lateWS,hle,hlb,d1,e1,hs1,hv,hsm,hZ,hLt,ids_ws,hat,Int.toNat_natCast,Bool.not_true,Bool.not_false]
         refine ⟨⟨by omega,by omega⟩,by omega,l.length - (j + 1),_,by omega,zao [0,1,2,3,4,5,6,120] rfl rfl rfl ?_ ?_,j + 1,a,b + 1,rfl,by omega,by rw [ho]; exact ha,by rw [hc,List.length_append,← hb]; rfl,rfl⟩
         · simp only [ssT,zav,zaw,setSlot,gOf,AV.ren,renL,Blk.ren,Ax.look,Ax.put,reduceCtorEq,↓reduceIte,Nat.reduceEqDiff,Nat.reduceLT,Nat.reduceAdd,List.length_append,List.length_cons,List.length_nil,Option.some.injEq]; try simp
         · simp only [ssT,zav,zaw,setSlot,gOf,AV.ren,renL,Blk.ren,Ax.look,Ax.put,reduceCtorEq,↓reduceIte,Nat.reduceEqDiff,Nat.reduceLT,Nat.reduceAdd,List.length_append,List.length_cons,List.length_nil,Option.some.injEq,zcp,ho]; try simp
       | false =>
         have ho : opW Z L M (l.take (j + 1)) = opW Z L M (l.take j) ++ [⟨s,k,c,t,x,y⟩] := by unfold opW; rw [htk,List.filter_append]; simp [hv]
         have hc : clW Z L M (l.take (j + 1)) = clW Z L M (l.take j) := by unfold clW; rw [htk,List.filter_append]; simp [hv]
         have hat : (opW Z L M (l.take j)).map wsA ++ [.agg [.w (.int .i64 s),.str k,.w (.int .i64 c),.w (.int .i64 t),.w (.int .i64 x),.w (.int .i64 y)]] = (opW Z L M (l.take (j + 1))).map wsA := by rw [ho,List.map_append]; rfl
         simp only [go_sem,zab,Nat.reduceAdd,Nat.reduceSub,Nat.reduceMul,Int.reduceToNat,reduceCtorEq,↓reduceIte,Int.reducePow,Nat.reducePow,Int.reduceMod,Nat.reduceLeDiff,Int.reduceLE,Int.reduceNe,Int.reduceEq,Nat.reduceEqDiff,Nat.reduceLT,Nat.reduceBEq,ty,SpartW,lateWS,hle,hla,d1,e1,hs1,hv,hsm,hZ,hLt,ids_ws,hat,Int.toNat_natCast,Bool.not_true,Bool.not_false]
         refine ⟨⟨by omega,by omega⟩,by omega,l.length - (j + 1),_,by omega,zao [0,1,2,3,4,5,120,7] rfl rfl rfl ?_ ?_,j + 1,a + 1,b,rfl,by omega,by rw [ho,List.length_append,← ha]; rfl,by rw [hc]; exact hb,rfl⟩
         · simp only [ssT,zav,zaw,setSlot,gOf,AV.ren,renL,Blk.ren,Ax.look,Ax.put,reduceCtorEq,↓reduceIte,Nat.reduceEqDiff,Nat.reduceLT,Nat.reduceAdd,List.length_append,List.length_cons,List.length_nil,Option.some.injEq]; try simp
         · simp only [ssT,zav,zaw,setSlot,gOf,AV.ren,renL,Blk.ren,Ax.look,Ax.put,reduceCtorEq,↓reduceIte,Nat.reduceEqDiff,Nat.reduceLT,Nat.reduceAdd,List.length_append,List.length_cons,List.length_nil,Option.some.injEq,zcp,hc]; try simp
     · have d1 : decide ((j : Int) < l.length) = false := decide_eq_false (by omega)
       have hii : l.take j = l := List.take_of_length_le (by omega)
       rw [hii] at hla hlb ha hb ⊢
       simp only [go_sem,zab,Nat.reduceAdd,Nat.reduceSub,Nat.reduceMul,Int.reduceToNat,reduceCtorEq,↓reduceIte,Int.reducePow,Nat.reducePow,Int.reduceMod,Nat.reduceLeDiff,Int.reduceLE,Int.reduceNe,Int.reduceEq,Nat.reduceEqDiff,Nat.reduceLT,Nat.reduceBEq,ty,SpartW,hle,d1]
       have dla : decide (0 + a ≤ ((opW Z L M l).map wsA).length) = true := decide_eq_true (by omega)
       have dlb : decide (0 + b ≤ ((clW Z L M l).map wsA).length) = true := decide_eq_true (by omega)
       have tka : ((opW Z L M l).map wsA).take a = (opW Z L M l).map wsA := List.take_of_length_le (by omega)
       have tkb : ((clW Z L M l).map wsA).take b = (clW Z L M l).map wsA := List.take_of_length_le (by omega)
       refine ⟨_,(weak_fg 6 6 4 ((opW Z L M l).map wsA) rfl (zar _) (by simp [slot,AV.ids])).trans (weak_fg 7 6 5 ((clW Z L M l).map wsA) ?_ (zar _) ?_),?_⟩
       · simp [fgH,Ax.look,Blk.fg,fg_ws]
       · simp [fgL,AV.fg,slot,AV.ids]
       simp only [fgL,fgH,AV.fg,Blk.fg,Nat.reduceBEq,cond_true,cond_false,beq_self_eq_true,Bool.true_and,List.drop_zero,fg_ws,dla,dlb,tka,tkb]
       simp only [go_sem,zab,Nat.reduceAdd,Nat.reduceSub,Nat.reduceMul,Int.reduceToNat,reduceCtorEq,↓reduceIte,Int.reducePow,Nat.reducePow,Int.reduceMod,Nat.reduceLeDiff,Int.reduceLE,Int.reduceNe,Int.reduceEq,Nat.reduceEqDiff,Nat.reduceLT,Nat.reduceBEq,ty,SpartW]
       refine ⟨_,Weak.refl _,?_⟩
       simp only [go_sem,zab,Nat.reduceAdd,Nat.reduceSub,Nat.reduceMul,Int.reduceToNat,reduceCtorEq,↓reduceIte,Int.reducePow,Nat.reducePow,Int.reduceMod,Nat.reduceLeDiff,Int.reduceLE,Int.reduceNe,Int.reduceEq,Nat.reduceEqDiff,Nat.reduceLT,Nat.reduceBEq,ty,SpartW,zar,zcp,cond_true]
 · exact hp.elim
end
end Go.Proofs.Ytlpjdgkpapjldaa
namespace Go.Proofs.Ytlpjdgkpapjldaa
open Ax
def wthW (r : WS) (n : Int) : WS := ⟨r.s,r.k,r.c + 1,r.t + n,if n < r.a then n else r.a,if r.b < n then n else r.b⟩
def rowW (s : Int) (k : List UInt8) (l : List WS) : WS := (l[plW s k l]?).getD ⟨0,[],0,0,0,0⟩
def insW (s : Int) (k : List UInt8) (n : Int) (l : List WS) : List WS := l.take (plW s k l) ++ ⟨s,k,1,n,n,n⟩ :: l.drop (plW s k l)
def zW : AV := .agg [.w (.int .i64 0),.w (.int .i64 0),.w (.int .i64 0),.w (.int .i64 0),.sg 6 [] true]
def cntR (Z L M D s : Int) (k : List UInt8) (N : Int) (l : List WS) : Bool → Bool → Bool → AV × List Blk
 | true,true,_ => (.tup [zW,.w (.int .i64 9)],[.g 6 (l.map wsA)])
 | true,false,_ => (.tup [.agg [.w (.int .i64 Z),.w (.int .i64 L),.w (.int .i64 M),.w (.int .i64 D),.ms 0 6 0 l.length],.w (.int .i64 0)],[.g 6 ((l.set (plW s k l) (wthW (rowW s k l) N)).map wsA)])
 | false,_,true => (.tup [zW,.w (.int .i64 9)],[.g 6 (l.map wsA)])
 | false,_,false => (.tup [.agg [.w (.int .i64 Z),.w (.int .i64 L),.w (.int .i64 M),.w (.int .i64 D),.ms 1 6 0 (l.length + 1)],.w (.int .i64 0)],[gone,.g 6 ((insW s k N l).map wsA)])
def cntV (Z L M D s : Int) (k : List UInt8) (N : Int) (l : List WS) : AV × List Blk := cntR Z L M D s k N l (thW s k l) (decide (1048576 ≤ (rowW s k l).c)) (decide (256 ≤ l.length))
def cntWS : zan
 | [.agg [.w (.int .i64 Z),.w (.int .i64 L),.w (.int .i64 M),.w (.int .i64 D),.sg 6 [] true],.agg [.w (.int .i64 s),.str k],.w (.int .i64 N)],[] => ⟨True,.tup [.agg [.w (.int .i64 Z),.w (.int .i64 L),.w (.int .i64 M),.w (.int .i64 D),.ms 0 6 0 1],.w (.int .i64 0)],[.g 6 [.agg [.w (.int .i64 s),.str k,.w (.int .i64 1),.w (.int .i64 N),.w (.int .i64 N),.w (.int .i64 N)]]]⟩
 | [.agg [.w (.int .i64 Z),.w (.int .i64 L),.w (.int .i64 M),.w (.int .i64 D),.ms 0 6 0 n],.agg [.w (.int .i64 s),.str k],.w (.int .i64 N)],[.g 6 xs] => ⟨(n = xs.length ∧ 0 < n ∧ n ≤ 999999) ∧ smlW N ∧ ∃ l : List WS,xs = l.map wsA ∧ risW l = true ∧ ∀ r ∈ l,smlW r.c ∧ smlW r.t,
     (cntV Z L M D s k N (xs.map uws)).1,(cntV Z L M D s k N (xs.map uws)).2⟩
 | _,_ => zbv
theorem row_eq {s : Int} {k : List UInt8} {l : List WS} (h : plW s k l < l.length) : rowW s k l = l[plW s k l] := by
 unfold rowW; rw [List.getElem?_eq_getElem h]; rfl
theorem th_lt {s : Int} {k : List UInt8} {l : List WS} (hr : risW l = true) (h : thW s k l = true) : plW s k l < l.length := by
 rw [← eq_pl s k l hr h]
 have := thW_idx s k l
 rw [h] at this
 exact of_decide_eq_true this.symm
theorem insW_map (s : Int) (k : List UInt8) (N : Int) (l : List WS) : insL (l.map wsA) l.length (plW s k l) (.agg [.w (.int .i64 s),.str k,.w (.int .i64 1),.w (.int .i64 N),.w (.int .i64 N),.w (.int .i64 N)]) = (insW s k N l).map wsA := by
 unfold insL insW
 rw [show (l.map wsA).take l.length = l.map wsA from List.take_of_length_le (by simp)]
 simp only [List.map_append,List.map_take,List.map_drop,List.map_cons]
 rfl
theorem mem_ws {l : List WS} : ∀ y,y ∈ l.map wsA → y.closed = true := by
 intro y hy
 obtain ⟨c,_,rfl⟩ := List.mem_map.1 hy
 rfl
theorem coeNW : coe ty 29 (.sg 6 [] true) = .sg 6 [] true := rfl
theorem zep (r : WS) : ∀ (cs : List WS) (w : Nat),w < cs.length → setSlot (cs.map wsA) w (wsA r) = (cs.set w r).map wsA
 | x :: cs,0,_ => rfl
 | x :: cs,w + 1,h => by
   show wsA x :: setSlot (cs.map wsA) w (wsA r) = wsA x :: (cs.set w r).map wsA
   rw [zep r cs w (by simpa using h)]
def SctW (f : FuncId) : Option zan :=
 match f with
 | 50 => some placeS35
 | 51 => some insNWS
 | _ => none
theorem SctW_ok : Fns Try.prog SctW := by
 intro f s h
 unfold SctW at h
 split at h
 · injection h with h; subst h; exact ⟨⟨_,Try.func50,by kernel_rfl,by kernel_rfl⟩,place35_sound⟩
 · injection h with h; subst h; exact ⟨⟨_,Try.func51,by kernel_rfl,by kernel_rfl⟩,insNW_sound⟩
 · cases h
def SOctW (f : FuncId) : Option zan :=
 match f with
 | 51 => some (insS 6)
 | _ => none
theorem SOctW_ok : FnsO Try.prog SOctW := by
 intro f s h
 unfold SOctW at h
 split at h
 · injection h with h; subst h; exact ⟨⟨_,Try.func51,by kernel_rfl,by kernel_rfl⟩,insGIW_sound⟩
 · cases h
def cntPl0 : XPlan := fun _ => .std
def cntPl : XPlan := fun id => match id with
 | 5 => .opn [] 12
 | 12 => .prs []
 | _ => .std
theorem pl_nil (s : Int) (k : List UInt8) : plW s k [] = 0 := rfl
theorem th_nil (s : Int) (k : List UInt8) : thW s k [] = false := rfl
section
set_option maxRecDepth 100000
set_option maxHeartbeats 8000000
theorem cntW_sound : SoundO Try.prog 28 cntWS := by
 refine fn_soundO (S := SctW) (SO := SOctW) (T := ty) zbo ty_ok SctW_ok SOctW_ok Try.func28 (c := Try.f28.body.getD .skip) (by kernel_rfl) (fun xs pins hp => ?_)
 unfold cntWS at hp ⊢
 split at hp
 · rename_i Z L M D s k N
   have hex : ∃ l : List WS,([] : List AV) = l.map wsA ∧ risW l = true := ⟨[],rfl,rfl⟩
   have l0 : ([] : List AV).length = 0 := rfl
   have cst : ((0 : Nat) : Int) = 0 := rfl
   have dl : decide ((256 : Int) ≤ 0) = false := rfl
   refine ⟨by simp,cntPl0,by kernel_rfl,?_⟩
   unfold Try.f28
   simp only [go_sem,zaa,Nat.reduceAdd,Nat.reduceSub,Nat.reduceMul,Int.reduceToNat,reduceCtorEq,↓reduceIte,Int.reducePow,Nat.reducePow,Int.reduceMod,Nat.reduceLeDiff,Int.reduceLE,Int.reduceNe,Int.reduceEq,Nat.reduceEqDiff,Nat.reduceLT,Nat.reduceBEq,List.map_cons,List.map_nil,List.toList_toArray,Array.toList_append,Option.toArray_some,Option.toArray_none,Bool.and_self,ty,SctW,SOctW,cntPl0,placeS35,insNWS,coeNW,l0,cst,dl,hex,List.map_nil,pl_nil,th_nil,Bool.not_true,Bool.not_false]
   refine ⟨fun y e => by rw [e]; rfl,?_⟩
   refine ⟨_,Weak.refl _,?_⟩
   simp only [go_sem,zaa,Nat.reduceAdd,Nat.reduceSub,Nat.reduceMul,Int.reduceToNat,reduceCtorEq,↓reduceIte,Int.reducePow,Nat.reducePow,Int.reduceMod,Nat.reduceLeDiff,Int.reduceLE,Int.reduceNe,Int.reduceEq,Nat.reduceEqDiff,Nat.reduceLT,Nat.reduceBEq,List.map_cons,List.map_nil,List.toList_toArray,Array.toList_append,Option.toArray_some,Option.toArray_none,Bool.and_self,ty,SctW]
 · rename_i Z L M D n s k N xs
   obtain ⟨⟨rfl,h0,h6⟩,hN,l,rfl,hris,hsm⟩ := hp
   rw [List.length_map] at h0 h6
   rw [zak]
   have hle : (l.map wsA).length = l.length := by simp
   have hcl := zar l
   have hex : ∃ p : List WS,l.map wsA = p.map wsA ∧ risW p = true := ⟨l,rfl,hris⟩
   have hL : l.length ≤ 1000000 := by omega
   have hpos : decide (0 < l.length) = true := decide_eq_true h0
   have hpl := plW_le s k l
   have htk : (l.map wsA).take l.length = l.map wsA := List.take_of_length_le (by simp)
   unfold cntV
   refine ⟨by simp,cntPl,by kernel_rfl,?_⟩
   unfold Try.f28
   cases hth : thW s k l with
   | true =>
     have hlt := th_lt hris hth
     have hrow := row_eq hlt
     have hs1 := zch l _ hlt
     have hmem := hsm _ (List.getElem_mem hlt)
     rw [← hrow] at hs1 hmem
     obtain ⟨r,hr⟩ : ∃ r,rowW s k l = r := ⟨_,rfl⟩
     have hset := zep (wthW r N) l _ hlt
     rw [hr] at hs1 hmem ⊢
     obtain ⟨PL,hPL⟩ : ∃ n,plW s k l = n := ⟨_,rfl⟩
     rw [hPL] at hs1 hset hlt hpl
     obtain ⟨rs,rk,rc,rt,ra,rb⟩ := r
     have hs1 : slot (l.map wsA) PL = .agg [.w (.int .i64 rs),.str rk,.w (.int .i64 rc),.w (.int .i64 rt),.w (.int .i64 ra),.w (.int .i64 rb)] := hs1
     obtain ⟨⟨m1,m2⟩,m3,m4⟩ := hmem
     obtain ⟨n1,n2⟩ := hN
     simp only at m1 m2 m3 m4
     have t1 : setSlot (l.map wsA) PL (.agg [.w (.int .i64 rs),.str rk,.w (.int .i64 (rc + 1)),.w (.int .i64 rt),.w (.int .i64 ra),.w (.int .i64 rb)]) = (l.set PL ⟨rs,rk,rc + 1,rt,ra,rb⟩).map wsA := zep ⟨rs,rk,rc + 1,rt,ra,rb⟩ l PL hlt
     have t2 : setSlot ((l.set PL ⟨rs,rk,rc + 1,rt,ra,rb⟩).map wsA) PL (.agg [.w (.int .i64 rs),.str rk,.w (.int .i64 (rc + 1)),.w (.int .i64 (rt + N)),.w (.int .i64 ra),.w (.int .i64 rb)]) = (l.set PL ⟨rs,rk,rc + 1,rt + N,ra,rb⟩).map wsA := by
       have := zep ⟨rs,rk,rc + 1,rt + N,ra,rb⟩ (l.set PL ⟨rs,rk,rc + 1,rt,ra,rb⟩) PL (by rw [List.length_set]; exact hlt)
       rw [List.set_set] at this; exact this
     have t3 : setSlot ((l.set PL ⟨rs,rk,rc + 1,rt + N,ra,rb⟩).map wsA) PL (.agg [.w (.int .i64 rs),.str rk,.w (.int .i64 (rc + 1)),.w (.int .i64 (rt + N)),.w (.int .i64 ((if N < ra then N else ra))),.w (.int .i64 rb)]) = (l.set PL ⟨rs,rk,rc + 1,rt + N,(if N < ra then N else ra),rb⟩).map wsA := by
       have := zep ⟨rs,rk,rc + 1,rt + N,(if N < ra then N else ra),rb⟩ (l.set PL ⟨rs,rk,rc + 1,rt + N,ra,rb⟩) PL (by rw [List.length_set]; exact hlt)
       rw [List.set_set] at this; exact this
     have t4 : setSlot ((l.set PL ⟨rs,rk,rc + 1,rt + N,(if N < ra then N else ra),rb⟩).map wsA) PL (.agg [.w (.int .i64 rs),.str rk,.w (.int .i64 (rc + 1)),.w (.int .i64 (rt + N)),.w (.int .i64 ((if N < ra then N else ra))),.w (.int .i64 (if rb < N then N else rb))]) = (l.set PL (wthW ⟨rs,rk,rc,rt,ra,rb⟩ N)).map wsA := by
       have := zep (wthW ⟨rs,rk,rc,rt,ra,rb⟩ N) (l.set PL ⟨rs,rk,rc + 1,rt + N,(if N < ra then N else ra),rb⟩) PL (by rw [List.length_set]; exact hlt)
       rw [List.set_set] at this; exact this
     have u1 : ∀ x : WS,slot ((l.set PL x).map wsA) PL = .agg [.w (.int .i64 x.s),.str x.k,.w (.int .i64 x.c),.w (.int .i64 x.t),.w (.int .i64 x.a),.w (.int .i64 x.b)] := fun x => by
       have := zch (l.set PL x) PL (by rw [List.length_set]; exact hlt)
       rw [List.getElem_set_self] at this; exact this
     have u2 : ∀ x : WS,((l.set PL x).map wsA).length = l.length := fun x => by simp
     have w1 : (rc + 1 + 9223372036854775808) % 18446744073709551616 - 9223372036854775808 = rc + 1 := by omega
     have w2 : (rt + N + 9223372036854775808) % 18446744073709551616 - 9223372036854775808 = rt + N := by omega
     cases hf : decide (1048576 ≤ rc) with
     | true =>
       simp only [cntR,hr,hf,hPL,hle]
       simp only [go_sem,zaa,Nat.reduceAdd,Nat.reduceSub,Nat.reduceMul,Int.reduceToNat,reduceCtorEq,↓reduceIte,Int.reducePow,Nat.reducePow,Int.reduceMod,Nat.reduceLeDiff,Int.reduceLE,Int.reduceNe,Int.reduceEq,Nat.reduceEqDiff,Nat.reduceLT,Nat.reduceBEq,List.map_cons,List.map_nil,List.toList_toArray,Array.toList_append,Option.toArray_some,Option.toArray_none,Bool.and_self,ty,SctW,SOctW,cntPl,placeS35,hle,hL,hpos,htk,hcl,hex,hth,hPL,hs1,hf,zak,Int.toNat_natCast,Bool.not_true,Bool.not_false]
       refine ⟨mem_ws,⟨by omega,by omega⟩,by omega,?_⟩
       refine ⟨_,Weak.refl _,?_⟩
       simp only [go_sem,zaa,Nat.reduceAdd,Nat.reduceSub,Nat.reduceMul,Int.reduceToNat,reduceCtorEq,↓reduceIte,Int.reducePow,Nat.reducePow,Int.reduceMod,Nat.reduceLeDiff,Int.reduceLE,Int.reduceNe,Int.reduceEq,Nat.reduceEqDiff,Nat.reduceLT,Nat.reduceBEq,List.map_cons,List.map_nil,List.toList_toArray,Array.toList_append,Option.toArray_some,Option.toArray_none,Bool.and_self,ty,SctW,zW,hcl]
     | false =>
       simp only [cntR,hr,hf,hPL,hle]
       simp only [go_sem,zaa,Nat.reduceAdd,Nat.reduceSub,Nat.reduceMul,Int.reduceToNat,reduceCtorEq,↓reduceIte,Int.reducePow,Nat.reducePow,Int.reduceMod,Nat.reduceLeDiff,Int.reduceLE,Int.reduceNe,Int.reduceEq,Nat.reduceEqDiff,Nat.reduceLT,Nat.reduceBEq,List.map_cons,List.map_nil,List.toList_toArray,Array.toList_append,Option.toArray_some,Option.toArray_none,Bool.and_self,ty,SctW,SOctW,cntPl,placeS35,hle,hL,hpos,htk,hcl,hex,hth,hPL,hs1,hf,w1,w2,t1,t2,t3,t4,u1,u2,ids_ws,zar,zak,Int.toNat_natCast,Bool.not_true,Bool.not_false]
       refine ⟨mem_ws,?_⟩
       repeat (refine And.intro (by omega) ?_)
       refine ⟨_,Weak.refl _,?_⟩
       simp only [go_sem,zaa,Nat.reduceAdd,Nat.reduceSub,Nat.reduceMul,Int.reduceToNat,reduceCtorEq,↓reduceIte,Int.reducePow,Nat.reducePow,Int.reduceMod,Nat.reduceLeDiff,Int.reduceLE,Int.reduceNe,Int.reduceEq,Nat.reduceEqDiff,Nat.reduceLT,Nat.reduceBEq,List.map_cons,List.map_nil,List.toList_toArray,Array.toList_append,Option.toArray_some,Option.toArray_none,Bool.and_self,ty,SctW,zar,zcp,cond_true]
   | false =>
     cases hf : decide (256 ≤ l.length) with
     | true =>
       have d1 : decide ((256 : Int) ≤ (l.length : Int)) = true := decide_eq_true (by have := of_decide_eq_true hf; omega)
       simp only [cntR,hf,hle]
       simp only [go_sem,zaa,Nat.reduceAdd,Nat.reduceSub,Nat.reduceMul,Int.reduceToNat,reduceCtorEq,↓reduceIte,Int.reducePow,Nat.reducePow,Int.reduceMod,Nat.reduceLeDiff,Int.reduceLE,Int.reduceNe,Int.reduceEq,Nat.reduceEqDiff,Nat.reduceLT,Nat.reduceBEq,List.map_cons,List.map_nil,List.toList_toArray,Array.toList_append,Option.toArray_some,Option.toArray_none,Bool.and_self,ty,SctW,SOctW,cntPl,placeS35,hle,hL,hpos,htk,hcl,hex,hth,d1,zak,Int.toNat_natCast,Bool.not_true,Bool.not_false]
       refine ⟨mem_ws,?_⟩
       refine ⟨_,Weak.refl _,?_⟩
       simp only [go_sem,zaa,Nat.reduceAdd,Nat.reduceSub,Nat.reduceMul,Int.reduceToNat,reduceCtorEq,↓reduceIte,Int.reducePow,Nat.reducePow,Int.reduceMod,Nat.reduceLeDiff,Int.reduceLE,Int.reduceNe,Int.reduceEq,Nat.reduceEqDiff,Nat.reduceLT,Nat.reduceBEq,List.map_cons,List.map_nil,List.toList_toArray,Array.toList_append,Option.toArray_some,Option.toArray_none,Bool.and_self,ty,SctW,zW,hcl]
     | false =>
       have d1 : decide ((256 : Int) ≤ (l.length : Int)) = false := decide_eq_false (by have := of_decide_eq_false hf; omega)
       have hins := insW_map s k N l
       obtain ⟨PL,hPL⟩ : ∃ n,plW s k l = n := ⟨_,rfl⟩
       rw [hPL] at hins hpl
       simp only [cntR,hf,hle]
       simp only [go_sem,zaa,Nat.reduceAdd,Nat.reduceSub,Nat.reduceMul,Int.reduceToNat,reduceCtorEq,↓reduceIte,Int.reducePow,Nat.reducePow,Int.reduceMod,Nat.reduceLeDiff,Int.reduceLE,Int.reduceNe,Int.reduceEq,Nat.reduceEqDiff,Nat.reduceLT,Nat.reduceBEq,List.map_cons,List.map_nil,List.toList_toArray,Array.toList_append,Option.toArray_some,Option.toArray_none,Bool.and_self,ty,SctW,SOctW,cntPl,placeS35,hle,hL,hpos,htk,hcl,hex,hth,hPL,d1,insS,hins,ids_ws,hpl,List.length_map,zak,Int.toNat_natCast,Bool.not_true,Bool.not_false]
       refine ⟨mem_ws,⟨by omega,by omega⟩,?_⟩
       refine ⟨_,Weak.refl _,?_⟩
       simp only [go_sem,zaa,Nat.reduceAdd,Nat.reduceSub,Nat.reduceMul,Int.reduceToNat,reduceCtorEq,↓reduceIte,Int.reducePow,Nat.reducePow,Int.reduceMod,Nat.reduceLeDiff,Int.reduceLE,Int.reduceNe,Int.reduceEq,Nat.reduceEqDiff,Nat.reduceLT,Nat.reduceBEq,List.map_cons,List.map_nil,List.toList_toArray,Array.toList_append,Option.toArray_some,Option.toArray_none,Bool.and_self,ty,SctW,zar,zcp,cond_true]
 · exact hp.elim
end
end Go.Proofs.Ytlpjdgkpapjldaa
namespace Go.Proofs.Ytlpjdgkpapjldaa
namespace Ax
theorem getElem_slot (ys : List AV) (j : Nat) (h : j < ys.length) : ys[j] = slot ys j := by
 rw [zci]; simp [h]
theorem weak_nilB {sl : List AV} {H : Heap} {nx : Nat} (id0 k j s : Nat) (ys : List AV) (hl0 : look H id0 = some (.g k [.agg ys])) (hj : j < ys.length) (hn : nilV (slot ys j)) (hs : 0 < s) : Weak ⟨sl,H,nx⟩ ⟨sl,put (put H id0 (.g k [.agg (setSlot ys j (.ms nx s 0 0))])) nx (.g s []),nx + 1⟩ := by
 rintro w0 E B a w ⟨loc,hB,hr⟩
 have hf : loc.m nx = .free := hr.fresh nx (Nat.le_refl _)
 have hlow : id0 < nx := hr.low id0 _ hl0
 have hM : ∀ c,Mut (loc.set nx .nil) c → Mut loc c := by
   rintro c (h | ⟨k,h⟩)
   · exact .inl h
   · by_cases hk : k = nx
     · subst hk; rw [Loc.set_same] at h; cases h
     · rw [Loc.set_other _ _ hk] at h; exact .inr ⟨k,h⟩
 have hE : Ext (fun _ => False) w loc w (loc.set nx .nil) :=
   ⟨Nat.le_refl _,fun id h _ => Loc.set_other _ _ (fun e => h (e ▸ hf)),fun _ _ h => h.elim,fun c _ hm => ⟨rfl,fun h => hm (hM c h)⟩,fun _ _ _ _ => rfl,fun _ cur _ fz h => ⟨cur,fz,h,rfl⟩⟩
 have hset : ∀ {k c},(loc.set nx .nil).m k = .here c → loc.m k = .here c := by
   intro k c h
   by_cases hk : k = nx
   · subst hk; rw [Loc.set_same] at h; cases h
   · rwa [Loc.set_other _ _ hk] at h
 refine ⟨loc.set nx .nil,⟨hB.1,hB.2.1,fun k hk => ?_⟩,⟨hr.size,fun t => (hr.slots t).ext hE,?_,⟨hr.env.os,hr.env.tape,hr.env.output,hr.env.size,hr.env.same,fun i j b h1 h2 => hr.env.inj i j b (hset h1) (hset h2),fun i b h1 => hr.env.lies i b (hset h1),hr.env.bad⟩,?_,hr.defers,?_⟩⟩
 · have hne : k ≠ nx := by
     rintro rfl
     rcases hB.2.2 k hk with h | ⟨h,_⟩ <;> rw [hf] at h <;> cases h
   rw [Loc.set_other _ _ hne]; exact hB.2.2 k hk
 · intro id c hl
   simp only at hl
   rw [zaq] at hl
   split at hl
   · rename_i e; subst e
     injection hl with hl; subst hl
     unfold BlkR
     rw [Loc.set_same]; exact ⟨⟨hs,by simp⟩,rfl⟩
   · rename_i e
     rw [zaq] at hl
     split at hl
     · rename_i e0; subst e0
       injection hl with hl; subst hl
       have h0 := hr.heap _ _ hl0
       unfold BlkR at h0 ⊢
       rw [Loc.set_other _ _ (Ne.symm e)]
       split at h0
       · trivial
       · exact h0.elim
       · exact absurd h0.2 (by simp [Blk.len])
       · obtain ⟨⟨hk0,hok⟩,hL⟩ := h0
         obtain ⟨cur,e1,fz,hc,hfz,hone,hfl,hcells⟩ := hL.lies rfl
         have e3 : (Blk.g k [AV.agg ys]).flat = ys := by simp [Blk.flat,AV.leaves]
         have e4 : (Blk.g k [AV.agg (setSlot ys j (.ms nx s 0 0))]).flat = setSlot ys j (.ms nx s 0 0) := by simp [Blk.flat,AV.leaves]
         rw [e3] at hfl
         have hcell : ∀ (t : Nat) (h : t < ys.length) (h' : t < cur.size),(slot ys t).leaf = true ∧ R w loc (slot ys t) cur[t] := by
           intro t h h'
           have := hcells t (by rw [e3]; exact h) h'
           have e5 : (Blk.g k [AV.agg ys]).flat[t]'(by rw [e3]; exact h) = slot ys t := by
             rw [← getElem_slot ys t h]; simp [e3]
           rw [e5] at this; exact this
         refine ⟨⟨hk0,?_⟩,Lies.mkC ⟨cur,e1,fz,hc,hfz,hone,by rw [e4,zap]; exact hfl,?_⟩⟩
         · intro x hx
           obtain rfl := List.mem_singleton.1 hx
           have := hok (.agg ys) (List.mem_singleton.2 rfl)
           simpa [AV.leaves,zap] using this
         · intro t h h'
           have ht : t < ys.length := by rw [e4,zap] at h; exact h
           have e5 : (Blk.g k [AV.agg (setSlot ys j (.ms nx s 0 0))]).flat[t] = slot (setSlot ys j (.ms nx s 0 0)) t := by
             rw [← getElem_slot _ t (by rw [zap]; exact ht)]; simp [e4]
           rw [e5]
           by_cases htj : j = t
           · subst htj
             rw [zbq hj]
             obtain ⟨a',he⟩ := nilV_R hn (hcell j hj h').2
             refine ⟨rfl,?_⟩
             rw [he]
             refine .ms _ _ _ _ _ ?_
             unfold Owns
             rw [Loc.set_same]
             exact ⟨rfl,a',rfl⟩
           · rw [zbj htj]
             exact ⟨(hcell t ht h').1,(hcell t ht h').2.ext hE⟩
     · rename_i e2
       by_cases hfr : loc.m id = .free
       · exact BlkR.free (by rw [Loc.set_other _ _ (Ne.symm e)]; exact hfr)
       · exact (hr.heap id c hl).ext hE (fun h => h) hfr
 · intro id hid
   simp only at hid
   rw [Loc.set_other _ _ (by omega)]; exact hr.fresh id (by simp only; omega)
 · intro id c hl
   simp only at hl
   rw [zaq] at hl
   split at hl
   · simp only; omega
   · rw [zaq] at hl
     split at hl
     · simp only; omega
     · have := hr.low id c hl
       simp only at this ⊢; omega
theorem weak_fgC {sl : List AV} {H : Heap} {nx : Nat} (id s i id0 : Nat) (zs : List AV) (b0 : Blk) (hl : look H id = some (.g s zs)) (hcl : closedL zs = true) (h0 : look H id0 = some b0) (hi0 : id0 ∈ (slot sl i).ids) (hin : id ∈ b0.idsB) : Weak ⟨sl,H,nx⟩ ⟨fgL id s zs sl,fgH id s zs H,nx⟩ := by
 rintro w0 E B a w ⟨loc,hB,hr⟩
 have h1 := zdu _ _ (hr.slots i) hi0
 have h2 : loc.m id ≠ .free := by
   obtain ⟨hok,⟨_,e⟩ | ⟨c,hc,hlies⟩⟩ := hr.heap.get h0 h1
   · rw [idsB_nil e] at hin; simp at hin
   · exact lies_live hlies id hin
 obtain ⟨h3,h4⟩ := rel_fg hB hr h2 (hr.heap id _ hl) hcl
 exact ⟨_,h3,h4⟩
end Ax
end Go.Proofs.Ytlpjdgkpapjldaa
namespace Go.Proofs.Ytlpjdgkpapjldaa
open Ax
structure FR where
 Z : Int
 L : Int
 M : Int
 D : Int
 o : List WS
 f : Bool
 c : List WS
 e : Int
def frA (r : FR) : AV := .tup [.agg [.w (.int .i64 r.Z),.w (.int .i64 r.L),.w (.int .i64 r.M),.w (.int .i64 r.D),.sg 6 (r.o.map wsA) r.f],.sg 6 (r.c.map wsA) false,.w (.int .i64 r.e)]
def errF (e : Int) : FR := ⟨0,0,0,0,[],true,[],e⟩
def mxW (M t : Int) : Int := if M < t then t else M
def stW (Z t : Int) : Int := t - t.tmod Z
def finF (Z L mk D : Int) (l : List WS) : FR := ⟨Z,L,mk,D,opW Z L mk l,false,clW Z L mk l,0⟩
def fedF (Z L M D : Int) (l : List WS) (k : List UInt8) (t n : Int) : FR :=
 if thW (stW Z t) k l = true then
   if 1048576 ≤ (rowW (stW Z t) k l).c then errF 9
   else finF Z L (mxW M t) D (l.set (plW (stW Z t) k l) (wthW (rowW (stW Z t) k l) n))
 else if 256 ≤ l.length then errF 9
 else finF Z L (mxW M t) D (insW (stW Z t) k n l)
def empL : List WS → Bool
 | [] => true
 | _ => false
def fdW (Z L M D : Int) (l : List WS) (k : List UInt8) (t n : Int) : FR :=
 if chW Z L M D l = 0 then
   if 64 < k.length then errF 5
   else if (outB t 0 1099511627776 || outB n (-1073741824) 1073741824) = true then errF 11
   else if ltW Z L (stW Z t) (mxW M t) = true then ⟨Z,L,M,if 1099511627776 < D + 1 then 1099511627776 else D + 1,l,empL l,[],0⟩
   else fedF Z L M D l k t n
 else errF (chW Z L M D l)
def feedS35 : zan
 | [.agg [.w (.int .i64 Z),.w (.int .i64 L),.w (.int .i64 M),.w (.int .i64 D),.sg 6 xs f],.str k,.w (.int .i64 t),.w (.int .i64 n)],[] => ⟨xs.length ≤ 1000000 ∧ ∃ l : List WS,xs = l.map wsA,frA (fdW Z L M D (xs.map uws) k t n),[]⟩
 | _,_ => zbv
theorem ch_ok {Z L M D : Int} {l : List WS} (h : chW Z L M D l = 0) :
   (1 ≤ Z ∧ Z ≤ 1048576) ∧ (0 ≤ L ∧ L ≤ 1048576) ∧ (-1 ≤ M ∧ M ≤ 1099511627776) ∧ (0 ≤ D ∧ D ≤ 1099511627776) ∧ l.length ≤ 256 ∧ risW l = true ∧
   ∀ r ∈ l,(0 ≤ r.s ∧ r.s ≤ 1099511627776) ∧ (1 ≤ r.c ∧ r.c ≤ 1048576) ∧ (-1073741824 ≤ r.a ∧ r.a ≤ 1073741824) ∧ (-1073741824 ≤ r.b ∧ r.b ≤ 1073741824) ∧ -1125899906842624 ≤ r.t ∧ r.t ≤ 1125899906842624 := by
 unfold chW at h
 split at h
 · cases h
 · rename_i hh
   split at h
   · rename_i ha
     split at h
     · rename_i hr
       rcases hd_cases Z L M D l.length with Q | Q | Q | Q | Q | Q
       · exact absurd Q.2 hh
       · exact absurd Q.2.2 hh
       · exact absurd Q.2.2.2 hh
       · exact absurd Q.2.2.2.2 hh
       · exact absurd Q.2.2.2.2.2 hh
       obtain ⟨q1,q2,q3,q4,q5,q6⟩ := Q
       have q5 := of_decide_eq_false q5
       refine ⟨zai q1,zai q2,zai q3,zai q4,by omega,hr,fun r hm => ?_⟩
       have hok := List.all_eq_true.1 ha r hm
       unfold okr okWB at hok
       simp only [Bool.and_eq_true,Bool.not_eq_true'] at hok
       obtain ⟨h1,h2,h3,h4,h5,h6,h7,h8⟩ := hok
       have b1 := mul_bound (zai h4) (zai h5)
       have b2 := mul_bound (zai h4) (zai h6)
       have b3 := zai h8
       exact ⟨zai h1,zai h4,zai h5,zai h6,by omega,by omega⟩
     · cases h
   · cases h
theorem st_bound {Z t : Int} (hZ : 1 ≤ Z) (ht : 0 ≤ t) : 0 ≤ stW Z t ∧ stW Z t ≤ t := by
 unfold stW
 have h1 := Int.tmod_nonneg Z ht
 have h2 : t.tmod Z ≤ t := by
   rw [Int.tmod_eq_emod_of_nonneg ht]
   have h3 := Int.mul_ediv_add_emod t Z
   have h4 : 0 ≤ Z * (t / Z) := Int.mul_nonneg (by omega) (Int.ediv_nonneg ht (by omega))
   omega
 omega
def SfdW (f : FuncId) : Option zan :=
 match f with
 | 19 => some zel
 | 25 => some outS
 | 26 => some cloWS
 | 27 => some lateWS
 | 29 => some partWS
 | _ => none
theorem SfdW_ok : Fns Try.prog SfdW := by
 intro f s h
 unfold SfdW at h
 split at h
 · injection h with h; subst h; exact ⟨⟨_,Try.func19,by kernel_rfl,by kernel_rfl⟩,chkW_sound⟩
 · injection h with h; subst h; exact ⟨⟨_,Try.func25,by kernel_rfl,by kernel_rfl⟩,out_sound⟩
 · injection h with h; subst h; exact ⟨⟨_,Try.func26,by kernel_rfl,by kernel_rfl⟩,cloW_sound⟩
 · injection h with h; subst h; exact ⟨⟨_,Try.func27,by kernel_rfl,by kernel_rfl⟩,late35_sound⟩
 · injection h with h; subst h; exact ⟨⟨_,Try.func29,by kernel_rfl,by kernel_rfl⟩,part_sound⟩
 · cases h
def SOfdW (f : FuncId) : Option zan :=
 match f with
 | 28 => some cntWS
 | _ => none
theorem SOfdW_ok : FnsO Try.prog SOfdW := by
 intro f s h
 unfold SOfdW at h
 split at h
 · injection h with h; subst h; exact ⟨⟨_,Try.func28,by kernel_rfl,by kernel_rfl⟩,cntW_sound⟩
 · cases h
def fdPl : XPlan := fun id => match id with
 | 9 => .prs []
 | 13 => .opn [] 5
 | _ => .std
section
set_option maxRecDepth 100000
set_option maxHeartbeats 16000000
theorem feed35_sound : zbf Try.prog 9 feedS35 := by
 refine zeu (S := SfdW) (SO := SOfdW) (T := ty) zbo ty_ok SfdW_ok SOfdW_ok Try.func9 (c := Try.f9.body.getD .skip) (by kernel_rfl) (fun xs pins hp _ => ?_)
 unfold feedS35 at hp ⊢
 split at hp
 · rename_i Z L M D xs f k t n _
   obtain ⟨hL,l,rfl⟩ := hp
   rw [List.length_map] at hL
   rw [zak]
   have hle : (l.map wsA).length = l.length := by simp
   have hcl := zar l
   have hex : ∃ p : List WS,l.map wsA = p.map wsA := ⟨l,rfl⟩
   have hL6 : l.length ≤ 9223372036854775807 := by omega
   have hc : ∀ f,coe ty 29 (.sg 6 (l.map wsA) f) = .sg 6 (l.map wsA) f := fun f => by cases l <;> rfl
   refine ⟨by simp,fdPl,by kernel_rfl,?_⟩
   unfold Try.f9
   by_cases hch : chW Z L M D l = 0
   · obtain ⟨oZ,oL,oM,oD,ol,hris,hrow⟩ := ch_ok hch
     have d0 : decide (chW Z L M D l = 0) = true := decide_eq_true hch
     by_cases hk : 64 < k.length
     · have hv : fdW Z L M D l k t n = errF 5 := by unfold fdW; rw [if_pos hch,if_pos hk]
       have d1 : decide ((64 : Int) < (k.length : Int)) = true := decide_eq_true (by omega)
       rw [hv]
       simp only [go_sem,zaa,Nat.reduceAdd,Nat.reduceSub,Nat.reduceMul,Int.reduceToNat,reduceCtorEq,↓reduceIte,Int.reducePow,Nat.reducePow,Int.reduceMod,Nat.reduceLeDiff,Int.reduceLE,Int.reduceNe,Int.reduceEq,Nat.reduceEqDiff,Nat.reduceLT,Nat.reduceBEq,List.map_cons,List.map_nil,List.toList_toArray,Array.toList_append,Option.toArray_some,Option.toArray_none,Bool.and_self,ty,SfdW,SOfdW,fdPl,zel,hle,hL6,hc,hex,zak,hch,d0,d1,decide_true,Bool.not_true,Bool.not_false]
       refine ⟨_,zbx 9 (.sg 6 [] false) (fun w loc v h => zdx 6 h),?_⟩
       simp only [go_sem,zaa,Nat.reduceAdd,Nat.reduceSub,Nat.reduceMul,Int.reduceToNat,reduceCtorEq,↓reduceIte,Int.reducePow,Nat.reducePow,Int.reduceMod,Nat.reduceLeDiff,Int.reduceLE,Int.reduceNe,Int.reduceEq,Nat.reduceEqDiff,Nat.reduceLT,Nat.reduceBEq,List.map_cons,List.map_nil,List.toList_toArray,Array.toList_append,Option.toArray_some,Option.toArray_none,Bool.and_self,ty,frA,errF,zW,List.map_nil,setSlot]
     · have d1 : decide ((64 : Int) < (k.length : Int)) = false := decide_eq_false (by omega)
       cases hot : outB t 0 1099511627776 with
       | true =>
         have hv : fdW Z L M D l k t n = errF 11 := by unfold fdW; rw [if_pos hch,if_neg hk,if_pos (by rw [hot]; rfl)]
         rw [hv]
         simp only [go_sem,zaa,Nat.reduceAdd,Nat.reduceSub,Nat.reduceMul,Int.reduceToNat,reduceCtorEq,↓reduceIte,Int.reducePow,Nat.reducePow,Int.reduceMod,Nat.reduceLeDiff,Int.reduceLE,Int.reduceNe,Int.reduceEq,Nat.reduceEqDiff,Nat.reduceLT,Nat.reduceBEq,List.map_cons,List.map_nil,List.toList_toArray,Array.toList_append,Option.toArray_some,Option.toArray_none,Bool.and_self,ty,SfdW,SOfdW,fdPl,zel,outS,hle,hL6,hc,hex,zak,hch,d0,d1,hot,decide_true,Bool.not_true,Bool.not_false]
         refine ⟨_,zbx 9 (.sg 6 [] false) (fun w loc v h => zdx 6 h),?_⟩
         simp only [go_sem,zaa,Nat.reduceAdd,Nat.reduceSub,Nat.reduceMul,Int.reduceToNat,reduceCtorEq,↓reduceIte,Int.reducePow,Nat.reducePow,Int.reduceMod,Nat.reduceLeDiff,Int.reduceLE,Int.reduceNe,Int.reduceEq,Nat.reduceEqDiff,Nat.reduceLT,Nat.reduceBEq,List.map_cons,List.map_nil,List.toList_toArray,Array.toList_append,Option.toArray_some,Option.toArray_none,Bool.and_self,ty,frA,errF,zW,List.map_nil,setSlot]
       | false =>
         cases hon : outB n (-1073741824) 1073741824 with
         | true =>
           have hv : fdW Z L M D l k t n = errF 11 := by unfold fdW; rw [if_pos hch,if_neg hk,if_pos (by rw [hot,hon]; rfl)]
           rw [hv]
           simp only [go_sem,zaa,Nat.reduceAdd,Nat.reduceSub,Nat.reduceMul,Int.reduceToNat,reduceCtorEq,↓reduceIte,Int.reducePow,Nat.reducePow,Int.reduceMod,Nat.reduceLeDiff,Int.reduceLE,Int.reduceNe,Int.reduceEq,Nat.reduceEqDiff,Nat.reduceLT,Nat.reduceBEq,List.map_cons,List.map_nil,List.toList_toArray,Array.toList_append,Option.toArray_some,Option.toArray_none,Bool.and_self,ty,SfdW,SOfdW,fdPl,zel,outS,hle,hL6,hc,hex,zak,hch,d0,d1,hot,hon,decide_true,Bool.not_true,Bool.not_false]
           refine ⟨_,zbx 9 (.sg 6 [] false) (fun w loc v h => zdx 6 h),?_⟩
           simp only [go_sem,zaa,Nat.reduceAdd,Nat.reduceSub,Nat.reduceMul,Int.reduceToNat,reduceCtorEq,↓reduceIte,Int.reducePow,Nat.reducePow,Int.reduceMod,Nat.reduceLeDiff,Int.reduceLE,Int.reduceNe,Int.reduceEq,Nat.reduceEqDiff,Nat.reduceLT,Nat.reduceBEq,List.map_cons,List.map_nil,List.toList_toArray,Array.toList_append,Option.toArray_some,Option.toArray_none,Bool.and_self,ty,frA,errF,zW,List.map_nil,setSlot]
         | false =>
           have ot := zai hot
           have on := zai hon
           have hz : ¬ Z = 0 := by omega
           have hsb := st_bound oZ.1 ot.1
           have w1 : (t - t.tmod Z + 9223372036854775808) % 18446744073709551616 - 9223372036854775808 = stW Z t := by unfold stW at *; omega
           have wD : (D + 1 + 9223372036854775808) % 18446744073709551616 - 9223372036854775808 = D + 1 := by omega
           have sZ : smlW Z := ⟨by omega,by omega⟩
           have sL : smlW L := ⟨by omega,by omega⟩
           have sS : smlW (stW Z t) := ⟨by omega,by omega⟩
           have hmx : (if M < t then t else M) = mxW M t := rfl
           have sN : smlW n := ⟨by omega,by omega⟩
           obtain ⟨ST,hST⟩ : ∃ x,stW Z t = x := ⟨_,rfl⟩
           obtain ⟨MK,hMK⟩ : ∃ x,mxW M t = x := ⟨_,rfl⟩
           rw [hST] at w1 sS
           rw [hMK] at hmx
           cases hlt : ltW Z L ST MK with
           | true =>
             have hv : fdW Z L M D l k t n = ⟨Z,L,M,if 1099511627776 < D + 1 then 1099511627776 else D + 1,l,empL l,[],0⟩ := by
               unfold fdW; rw [if_pos hch,if_neg hk,if_neg (by rw [hot,hon]; simp),if_pos (by rw [hST,hMK]; exact hlt)]
             rw [hv]
             cases l with
             | nil =>
               simp only [go_sem,zaa,Nat.reduceAdd,Nat.reduceSub,Nat.reduceMul,Int.reduceToNat,reduceCtorEq,↓reduceIte,Int.reducePow,Nat.reducePow,Int.reduceMod,Nat.reduceLeDiff,Int.reduceLE,Int.reduceNe,Int.reduceEq,Nat.reduceEqDiff,Nat.reduceLT,Nat.reduceBEq,List.map_cons,List.map_nil,List.toList_toArray,Array.toList_append,Option.toArray_some,Option.toArray_none,Bool.and_self,ty,SfdW,SOfdW,fdPl,zel,outS,cloWS,lateWS,empW,hle,hL,hL6,hc,hex,hz,w1,wD,hmx,hlt,sZ,sL,sS,zak,hch,d0,d1,hot,hon,decide_true,Bool.not_true,Bool.not_false,cond_true,List.map_nil,List.length_nil]
               refine ⟨⟨[],rfl⟩,⟨[],rfl⟩,?_⟩
               refine ⟨_,zbx 9 (.sg 6 [] false) (fun w loc v h => zdx 6 h),?_⟩
               simp only [go_sem,zaa,Nat.reduceAdd,Nat.reduceSub,Nat.reduceMul,Int.reduceToNat,reduceCtorEq,↓reduceIte,Int.reducePow,Nat.reducePow,Int.reduceMod,Nat.reduceLeDiff,Int.reduceLE,Int.reduceNe,Int.reduceEq,Nat.reduceEqDiff,Nat.reduceLT,Nat.reduceBEq,List.map_cons,List.map_nil,List.toList_toArray,Array.toList_append,Option.toArray_some,Option.toArray_none,Bool.and_self,ty,frA,errF,zW,List.map_nil,setSlot,empL]
             | cons x l0 =>
               have hem : empW ((x :: l0).map wsA) = false := rfl
               have hel : empL (x :: l0) = false := rfl
               generalize hll : x :: l0 = l at *
               have htk : (l.map wsA).take l.length = l.map wsA := List.take_of_length_le (by simp)
               simp only [go_sem,zaa,Nat.reduceAdd,Nat.reduceSub,Nat.reduceMul,Int.reduceToNat,reduceCtorEq,↓reduceIte,Int.reducePow,Nat.reducePow,Int.reduceMod,Nat.reduceLeDiff,Int.reduceLE,Int.reduceNe,Int.reduceEq,Nat.reduceEqDiff,Nat.reduceLT,Nat.reduceBEq,List.map_cons,List.map_nil,List.toList_toArray,Array.toList_append,Option.toArray_some,Option.toArray_none,Bool.and_self,ty,SfdW,SOfdW,fdPl,zel,outS,cloWS,lateWS,hem,hle,hL,hL6,hc,hex,hz,hcl,htk,ids_ws,zcp,w1,wD,hmx,hlt,sZ,sL,sS,zak,hch,d0,d1,hot,hon,decide_true,Bool.not_true,Bool.not_false,cond_false]
               refine ⟨mem_ws,?_⟩
               refine ⟨_,(weak_fgC 156 6 8 12 (l.map wsA) _ rfl hcl rfl (by simp [slot,AV.ids]) (by simp [Blk.idsB,Blk.closed,closedL,AV.closed,idsL,AV.ids])).trans (zbx 9 (.sg 6 [] false) (fun w loc v h => by exact zdx 6 h)),?_⟩
               have dle : decide (0 + l.length ≤ (l.map wsA).length) = true := decide_eq_true (by simp)
               simp only [fgL,fgH,AV.fg,Blk.fg,Nat.reduceBEq,cond_true,cond_false,beq_self_eq_true,Bool.true_and,List.drop_zero,fg_ws,dle,htk,hle,hel]
               simp only [go_sem,zaa,Nat.reduceAdd,Nat.reduceSub,Nat.reduceMul,Int.reduceToNat,reduceCtorEq,↓reduceIte,Int.reducePow,Nat.reducePow,Int.reduceMod,Nat.reduceLeDiff,Int.reduceLE,Int.reduceNe,Int.reduceEq,Nat.reduceEqDiff,Nat.reduceLT,Nat.reduceBEq,List.map_cons,List.map_nil,List.toList_toArray,Array.toList_append,Option.toArray_some,Option.toArray_none,Bool.and_self,ty,frA,List.map_nil,setSlot,hel]
           | false =>
             have hv : fdW Z L M D l k t n = fedF Z L M D l k t n := by
               unfold fdW; rw [if_pos hch,if_neg hk,if_neg (by rw [hot,hon]; simp),if_neg (by rw [hST,hMK,hlt]; simp)]
             rw [hv]
             unfold fedF
             rw [hST,hMK]
             cases l with
             | nil =>
               have hth : thW ST k [] = false := rfl
               have hmu : ([.agg [.w (.int .i64 ST),.str k,.w (.int .i64 1),.w (.int .i64 n),.w (.int .i64 n),.w (.int .i64 n)]] : List AV).map uws = insW ST k n [] := rfl
               have hexP : ∃ p : List WS,([.agg [.w (.int .i64 ST),.str k,.w (.int .i64 1),.w (.int .i64 n),.w (.int .i64 n),.w (.int .i64 n)]] : List AV) = p.map wsA ∧ ∀ r ∈ p,smlW r.s := ⟨[⟨ST,k,1,n,n,n⟩],rfl,fun r hr => by obtain rfl := List.mem_singleton.1 hr; exact sS⟩
               have hl1 : ([.agg [.w (.int .i64 ST),.str k,.w (.int .i64 1),.w (.int .i64 n),.w (.int .i64 n),.w (.int .i64 n)]] : List AV).length = 1 := rfl
               rw [hth,if_neg (by simp),if_neg (by simp)]
               simp only [go_sem,zaa,Nat.reduceAdd,Nat.reduceSub,Nat.reduceMul,Int.reduceToNat,reduceCtorEq,↓reduceIte,Int.reducePow,Nat.reducePow,Int.reduceMod,Nat.reduceLeDiff,Int.reduceLE,Int.reduceNe,Int.reduceEq,Nat.reduceEqDiff,Nat.reduceLT,Nat.reduceBEq,List.map_cons,List.map_nil,List.toList_toArray,Array.toList_append,Option.toArray_some,Option.toArray_none,Bool.and_self,ty,SfdW,SOfdW,fdPl,zel,outS,cloWS,lateWS,cntWS,partWS,empW,coeNW,hmu,hexP,hl1,hle,hL,hL6,hc,hex,hz,w1,wD,hmx,hlt,sZ,sL,sS,zak,hch,d0,d1,hot,hon,decide_true,Bool.not_true,Bool.not_false,cond_true,List.map_nil,List.length_nil]
               refine ⟨⟨[],rfl⟩,⟨[],rfl⟩,fun y e => by rw [e]; rfl,?_⟩
               refine ⟨_,Weak.refl _,?_⟩
               simp only [go_sem,zaa,Nat.reduceAdd,Nat.reduceSub,Nat.reduceMul,Int.reduceToNat,reduceCtorEq,↓reduceIte,Int.reducePow,Nat.reducePow,Int.reduceMod,Nat.reduceLeDiff,Int.reduceLE,Int.reduceNe,Int.reduceEq,Nat.reduceEqDiff,Nat.reduceLT,Nat.reduceBEq,List.map_cons,List.map_nil,List.toList_toArray,Array.toList_append,Option.toArray_some,Option.toArray_none,Bool.and_self,ty,frA,finF]
             | cons x l0 =>
               have hem : empW ((x :: l0).map wsA) = false := rfl
               have hlp : 0 < (x :: l0).length := by simp
               generalize hll : x :: l0 = l at *
               have htk : (l.map wsA).take l.length = l.map wsA := List.take_of_length_le (by simp)
               have hpos : decide (0 < l.length) = true := decide_eq_true hlp
               have h6 : l.length ≤ 999999 := by omega
               have hexc : ∃ p : List WS,l.map wsA = p.map wsA ∧ risW p = true ∧ ∀ r ∈ p,smlW r.c ∧ smlW r.t := ⟨l,rfl,hris,fun r hr => by
                 have := hrow r hr
                 exact ⟨⟨by omega,by omega⟩,by omega,by omega⟩⟩
               cases hth : thW ST k l with
               | true =>
                 cases hf : decide (1048576 ≤ (rowW ST k l).c) with
                 | true =>
                   have hcv : cntV Z L M D ST k n l = (.tup [zW,.w (.int .i64 9)],[.g 6 (l.map wsA)]) := by unfold cntV; rw [hth,hf]; rfl
                   rw [if_pos rfl,if_pos (of_decide_eq_true hf)]
                   simp only [go_sem,zaa,Nat.reduceAdd,Nat.reduceSub,Nat.reduceMul,Int.reduceToNat,reduceCtorEq,↓reduceIte,Int.reducePow,Nat.reducePow,Int.reduceMod,Nat.reduceLeDiff,Int.reduceLE,Int.reduceNe,Int.reduceEq,Nat.reduceEqDiff,Nat.reduceLT,Nat.reduceBEq,List.map_cons,List.map_nil,List.toList_toArray,Array.toList_append,Option.toArray_some,Option.toArray_none,Bool.and_self,ty,SfdW,SOfdW,fdPl,zel,outS,cloWS,lateWS,cntWS,hcv,zW,hem,hpos,hlp,h6,sN,hexc,hle,hL,hL6,hc,hex,hz,hcl,htk,ids_ws,zcp,w1,wD,hmx,hlt,sZ,sL,sS,zak,hch,d0,d1,hot,hon,decide_true,Bool.not_true,Bool.not_false,cond_false]
                   refine ⟨mem_ws,?_⟩
                   refine ⟨_,zbx 9 (.sg 6 [] false) (fun w loc v h => zdx 6 h),?_⟩
                   simp only [go_sem,zaa,Nat.reduceAdd,Nat.reduceSub,Nat.reduceMul,Int.reduceToNat,reduceCtorEq,↓reduceIte,Int.reducePow,Nat.reducePow,Int.reduceMod,Nat.reduceLeDiff,Int.reduceLE,Int.reduceNe,Int.reduceEq,Nat.reduceEqDiff,Nat.reduceLT,Nat.reduceBEq,List.map_cons,List.map_nil,List.toList_toArray,Array.toList_append,Option.toArray_some,Option.toArray_none,Bool.and_self,ty,frA,errF,zW,List.map_nil,setSlot]
                 | false =>
                   have hcv : cntV Z L M D ST k n l = (.tup [.agg [.w (.int .i64 Z),.w (.int .i64 L),.w (.int .i64 M),.w (.int .i64 D),.ms 0 6 0 l.length],.w (.int .i64 0)],[.g 6 ((l.set (plW ST k l) (wthW (rowW ST k l) n)).map wsA)]) := by unfold cntV; rw [hth,hf]; rfl
                   rw [if_pos rfl,if_neg (of_decide_eq_false hf)]
                   have hpl := th_lt hris hth
                   have hexP0 : ∀ r ∈ l.set (plW ST k l) (wthW (rowW ST k l) n),smlW r.s := fun r hr => by
                     rcases List.mem_or_eq_of_mem_set hr with h | rfl
                     · have := hrow r h
                       exact ⟨by omega,by omega⟩
                     · rw [row_eq hpl]
                       have := hrow _ (List.getElem_mem hpl)
                       exact ⟨by show _ ≤ (l[plW ST k l]).s; omega,by show (l[plW ST k l]).s ≤ _; omega⟩
                   have hln : (l.set (plW ST k l) (wthW (rowW ST k l) n)).length = l.length := List.length_set
                   generalize l.set (plW ST k l) (wthW (rowW ST k l) n) = l1 at *
                   have hexP : ∃ p : List WS,l1.map wsA = p.map wsA ∧ ∀ r ∈ p,smlW r.s := ⟨l1,rfl,hexP0⟩
                   have htk1 : (l1.map wsA).take l.length = l1.map wsA := List.take_of_length_le (by simp; omega)
                   have hL1 : (l1).length ≤ 1000000 := by rw [hln]; omega
                   have hle1 : ((l1).map wsA).length = (l1).length := by simp
                   simp only [go_sem,zaa,Nat.reduceAdd,Nat.reduceSub,Nat.reduceMul,Int.reduceToNat,reduceCtorEq,↓reduceIte,Int.reducePow,Nat.reducePow,Int.reduceMod,Nat.reduceLeDiff,Int.reduceLE,Int.reduceNe,Int.reduceEq,Nat.reduceEqDiff,Nat.reduceLT,Nat.reduceBEq,List.map_cons,List.map_nil,List.toList_toArray,Array.toList_append,Option.toArray_some,Option.toArray_none,Bool.and_self,ty,SfdW,SOfdW,fdPl,zel,outS,cloWS,lateWS,cntWS,partWS,hcv,hem,hpos,hlp,h6,sN,hexc,hexP,hL1,hle1,hln,htk1,hle,hL,hL6,hc,hex,hz,hcl,htk,zar,ids_ws,zcp,w1,wD,hmx,hlt,sZ,sL,sS,zak,hch,d0,d1,hot,hon,decide_true,Bool.not_true,Bool.not_false,cond_false,cond_true]
                   refine ⟨mem_ws,mem_ws,?_⟩
                   refine ⟨_,Weak.refl _,?_⟩
                   simp only [go_sem,zaa,Nat.reduceAdd,Nat.reduceSub,Nat.reduceMul,Int.reduceToNat,reduceCtorEq,↓reduceIte,Int.reducePow,Nat.reducePow,Int.reduceMod,Nat.reduceLeDiff,Int.reduceLE,Int.reduceNe,Int.reduceEq,Nat.reduceEqDiff,Nat.reduceLT,Nat.reduceBEq,List.map_cons,List.map_nil,List.toList_toArray,Array.toList_append,Option.toArray_some,Option.toArray_none,Bool.and_self,ty,frA,finF]
               | false =>
                 rw [if_neg (by simp)]
                 cases hf : decide (256 ≤ l.length) with
                 | true =>
                   have hcv : cntV Z L M D ST k n l = (.tup [zW,.w (.int .i64 9)],[.g 6 (l.map wsA)]) := by unfold cntV; rw [hth,hf]; rfl
                   rw [if_pos (of_decide_eq_true hf)]
                   simp only [go_sem,zaa,Nat.reduceAdd,Nat.reduceSub,Nat.reduceMul,Int.reduceToNat,reduceCtorEq,↓reduceIte,Int.reducePow,Nat.reducePow,Int.reduceMod,Nat.reduceLeDiff,Int.reduceLE,Int.reduceNe,Int.reduceEq,Nat.reduceEqDiff,Nat.reduceLT,Nat.reduceBEq,List.map_cons,List.map_nil,List.toList_toArray,Array.toList_append,Option.toArray_some,Option.toArray_none,Bool.and_self,ty,SfdW,SOfdW,fdPl,zel,outS,cloWS,lateWS,cntWS,hcv,zW,hem,hpos,hlp,h6,sN,hexc,hle,hL,hL6,hc,hex,hz,hcl,htk,ids_ws,zcp,w1,wD,hmx,hlt,sZ,sL,sS,zak,hch,d0,d1,hot,hon,decide_true,Bool.not_true,Bool.not_false,cond_false]
                   refine ⟨mem_ws,?_⟩
                   refine ⟨_,zbx 9 (.sg 6 [] false) (fun w loc v h => zdx 6 h),?_⟩
                   simp only [go_sem,zaa,Nat.reduceAdd,Nat.reduceSub,Nat.reduceMul,Int.reduceToNat,reduceCtorEq,↓reduceIte,Int.reducePow,Nat.reducePow,Int.reduceMod,Nat.reduceLeDiff,Int.reduceLE,Int.reduceNe,Int.reduceEq,Nat.reduceEqDiff,Nat.reduceLT,Nat.reduceBEq,List.map_cons,List.map_nil,List.toList_toArray,Array.toList_append,Option.toArray_some,Option.toArray_none,Bool.and_self,ty,frA,errF,zW,List.map_nil,setSlot]
                 | false =>
                   have hcv : cntV Z L M D ST k n l = (.tup [.agg [.w (.int .i64 Z),.w (.int .i64 L),.w (.int .i64 M),.w (.int .i64 D),.ms 1 6 0 (l.length + 1)],.w (.int .i64 0)],[gone,.g 6 ((insW ST k n l).map wsA)]) := by unfold cntV; rw [hth,hf]; rfl
                   rw [if_neg (of_decide_eq_false hf)]
                   have hexP0 : ∀ r ∈ insW ST k n l,smlW r.s := fun r hr => by
                     unfold insW at hr
                     rcases List.mem_append.1 hr with h | h
                     · have := hrow r (List.mem_of_mem_take h)
                       exact ⟨by omega,by omega⟩
                     · rcases List.mem_cons.1 h with rfl | h
                       · exact sS
                       · have := hrow r (List.mem_of_mem_drop h)
                         exact ⟨by omega,by omega⟩
                   have hln : (insW ST k n l).length = l.length + 1 := by
                     have := plW_le ST k l
                     unfold insW
                     simp only [List.length_append,List.length_take,List.length_cons,List.length_drop]
                     omega
                   generalize insW ST k n l = l1 at *
                   have hexP : ∃ p : List WS,l1.map wsA = p.map wsA ∧ ∀ r ∈ p,smlW r.s := ⟨l1,rfl,hexP0⟩
                   have htk1 : (l1.map wsA).take (l.length + 1) = l1.map wsA := List.take_of_length_le (by simp; omega)
                   have hL1 : (l1).length ≤ 1000000 := by rw [hln]; omega
                   have hle1 : ((l1).map wsA).length = (l1).length := by simp
                   simp only [go_sem,zaa,Nat.reduceAdd,Nat.reduceSub,Nat.reduceMul,Int.reduceToNat,reduceCtorEq,↓reduceIte,Int.reducePow,Nat.reducePow,Int.reduceMod,Nat.reduceLeDiff,Int.reduceLE,Int.reduceNe,Int.reduceEq,Nat.reduceEqDiff,Nat.reduceLT,Nat.reduceBEq,List.map_cons,List.map_nil,List.toList_toArray,Array.toList_append,Option.toArray_some,Option.toArray_none,Bool.and_self,ty,SfdW,SOfdW,fdPl,zel,outS,cloWS,lateWS,cntWS,partWS,hcv,hem,hpos,hlp,h6,sN,hexc,hexP,hL1,hle1,hln,htk1,hle,hL,hL6,hc,hex,hz,hcl,htk,zar,ids_ws,zcp,w1,wD,hmx,hlt,sZ,sL,sS,zak,hch,d0,d1,hot,hon,decide_true,Bool.not_true,Bool.not_false,cond_false,cond_true]
                   refine ⟨mem_ws,mem_ws,?_⟩
                   refine ⟨_,Weak.refl _,?_⟩
                   simp only [go_sem,zaa,Nat.reduceAdd,Nat.reduceSub,Nat.reduceMul,Int.reduceToNat,reduceCtorEq,↓reduceIte,Int.reducePow,Nat.reducePow,Int.reduceMod,Nat.reduceLeDiff,Int.reduceLE,Int.reduceNe,Int.reduceEq,Nat.reduceEqDiff,Nat.reduceLT,Nat.reduceBEq,List.map_cons,List.map_nil,List.toList_toArray,Array.toList_append,Option.toArray_some,Option.toArray_none,Bool.and_self,ty,frA,finF]
   · have hv : fdW Z L M D l k t n = errF (chW Z L M D l) := by unfold fdW; rw [if_neg hch]
     have d0 : decide (chW Z L M D l = 0) = false := decide_eq_false hch
     rw [hv]
     simp only [go_sem,zaa,Nat.reduceAdd,Nat.reduceSub,Nat.reduceMul,Int.reduceToNat,reduceCtorEq,↓reduceIte,Int.reducePow,Nat.reducePow,Int.reduceMod,Nat.reduceLeDiff,Int.reduceLE,Int.reduceNe,Int.reduceEq,Nat.reduceEqDiff,Nat.reduceLT,Nat.reduceBEq,List.map_cons,List.map_nil,List.toList_toArray,Array.toList_append,Option.toArray_some,Option.toArray_none,Bool.and_self,ty,SfdW,SOfdW,fdPl,zel,hle,hL6,hc,hex,zak,d0,Bool.not_true,Bool.not_false]
     refine ⟨_,zbx 9 (.sg 6 [] false) (fun w loc v h => zdx 6 h),?_⟩
     simp only [go_sem,zaa,Nat.reduceAdd,Nat.reduceSub,Nat.reduceMul,Int.reduceToNat,reduceCtorEq,↓reduceIte,Int.reducePow,Nat.reducePow,Int.reduceMod,Nat.reduceLeDiff,Int.reduceLE,Int.reduceNe,Int.reduceEq,Nat.reduceEqDiff,Nat.reduceLT,Nat.reduceBEq,List.map_cons,List.map_nil,List.toList_toArray,Array.toList_append,Option.toArray_some,Option.toArray_none,Bool.and_self,ty,frA,errF,zW,List.map_nil,setSlot]
 · exact hp.elim
end
end Go.Proofs.Ytlpjdgkpapjldaa
namespace Go.Proofs.Ytlpjdgkpapjldaa
open Ax
def ahW (a b : WS) : Prop := ahB a.s a.k b.s b.k = true
theorem ris_pw : ∀ (l : List WS),risW l = true ↔ l.Pairwise ahW
 | [] => by simp [risW]
 | [x] => by simp [risW]
 | x :: y :: l => by
   have ih := ris_pw (y :: l)
   rw [List.pairwise_cons,← ih]
   constructor
   · intro h
     exact ⟨fun z hz => ris_all h z hz,ris_tail h⟩
   · intro ⟨h1,h2⟩
     show (ahB x.s x.k y.s y.k && risW (y :: l)) = true
     rw [h2,show ahB x.s x.k y.s y.k = true from h1 y (by simp)]
     rfl
theorem ris_filter {l : List WS} (p : WS → Bool) (h : risW l = true) : risW (l.filter p) = true :=
 (ris_pw _).2 (List.Pairwise.filter p ((ris_pw _).1 h))
theorem ris_set {l : List WS} {i : Nat} (x : WS) (hi : i < l.length) (h : risW l = true) (h1 : x.s = l[i].s) (h2 : x.k = l[i].k) : risW (l.set i x) = true := by
 have hl : l = l.take i ++ l[i] :: l.drop (i + 1) := by
   rw [← List.drop_eq_getElem_cons hi,List.take_append_drop]
 have hp := (ris_pw _).1 h
 rw [hl,List.pairwise_append,List.pairwise_cons] at hp
 obtain ⟨p1,⟨p2,p3⟩,p4⟩ := hp
 refine (ris_pw _).2 ?_
 rw [List.set_eq_take_append_cons_drop,if_pos hi,List.pairwise_append,List.pairwise_cons]
 refine ⟨p1,⟨fun b hb => ?_,p3⟩,fun a ha b hb => ?_⟩
 · have := p2 b hb
   unfold ahW at this ⊢
   rw [h1,h2]; exact this
 · rcases List.mem_cons.1 hb with rfl | hb
   · have := p4 a ha l[i] List.mem_cons_self
     unfold ahW at this ⊢
     rw [h1,h2]; exact this
   · exact p4 a ha b (List.mem_cons_of_mem _ hb)
theorem ris_ins {s : Int} {k : List UInt8} {l : List WS} (x : WS) (hx1 : x.s = s) (hx2 : x.k = k) (h : risW l = true) (hth : thW s k l = false) : risW (l.take (plW s k l) ++ x :: l.drop (plW s k l)) = true := by
 have hp := (ris_pw _).1 h
 have hl : l = l.take (plW s k l) ++ l.drop (plW s k l) := (List.take_append_drop _ _).symm
 rw [hl,List.pairwise_append] at hp
 have hbefore : ∀ a ∈ l.take (plW s k l),ahB a.s a.k s k = true := by
   intro a ha
   obtain ⟨i,hi,rfl⟩ := List.mem_take_iff_getElem.1 ha
   have hi2 : i < plW s k l := by omega
   have := List.not_of_lt_findIdx hi2
   unfold naW at this
   simpa using this
 have hafter : ∀ b ∈ l.drop (plW s k l),ahB s k b.s b.k = true := by
   intro b hb
   by_cases hlt : plW s k l < l.length
   · have hna : naW s k l[plW s k l] = true := List.findIdx_getElem (w := hlt)
     have hne : ¬ (l[plW s k l].s = s ∧ l[plW s k l].k = k) := fun e => by
       have : thW s k l = true := List.any_eq_true.2 ⟨_,List.getElem_mem hlt,decide_eq_true e⟩
       rw [hth] at this; cases this
     have h0 : ahB s k l[plW s k l].s l[plW s k l].k = true := ah_tot hne (by unfold naW at hna; simpa using hna)
     rw [List.drop_eq_getElem_cons hlt] at hb hp
     rcases List.mem_cons.1 hb with rfl | hb
     · exact h0
     · exact ah_trans h0 ((List.pairwise_cons.1 hp.2.1).1 b hb)
   · rw [List.drop_eq_nil_of_le (by omega)] at hb
     simp at hb
 refine (ris_pw _).2 ?_
 rw [List.pairwise_append,List.pairwise_cons]
 refine ⟨hp.1,⟨fun b hb => ?_,hp.2.1⟩,fun a ha b hb => ?_⟩
 · unfold ahW; rw [hx1,hx2]; exact hafter b hb
 · rcases List.mem_cons.1 hb with rfl | hb
   · unfold ahW; rw [hx1,hx2]; exact hbefore a ha
   · exact hp.2.2 a ha b hb
def okP (Z : Int) (r : WS) : Prop := (0 ≤ r.s ∧ r.s ≤ 1099511627776) ∧ r.s.tmod Z = 0 ∧ r.k.length ≤ 64 ∧ (1 ≤ r.c ∧ r.c ≤ 1048576) ∧ (-1073741824 ≤ r.a ∧ r.a ≤ 1073741824) ∧ (-1073741824 ≤ r.b ∧ r.b ≤ 1073741824) ∧ r.a ≤ r.b ∧ r.c * r.a ≤ r.t ∧ r.t ≤ r.c * r.b
theorem outB_iff {n lo hi : Int} : outB n lo hi = false ↔ lo ≤ n ∧ n ≤ hi := by
 unfold outB
 rw [Bool.or_eq_false_iff,decide_eq_false_iff_not,decide_eq_false_iff_not]
 omega
theorem okr_iff {Z : Int} {r : WS} : okr Z r = true ↔ okP Z r := by
 unfold okr okWB okP
 simp only [Bool.and_eq_true,Bool.not_eq_true',outB_iff,decide_eq_true_eq,decide_eq_false_iff_not]
 constructor
 · rintro ⟨h1,h2,h3,h4,h5,h6,h7,h8⟩
   exact ⟨h1,h2,by omega,h4,h5,h6,by omega,h8⟩
 · rintro ⟨h1,h2,h3,h4,h5,h6,h7,h8⟩
   exact ⟨h1,h2,by omega,h4,h5,h6,by omega,h8⟩
theorem ch_iff {Z L M D : Int} {l : List WS} : chW Z L M D l = 0 ↔ ((1 ≤ Z ∧ Z ≤ 1048576) ∧ (0 ≤ L ∧ L ≤ 1048576) ∧ (-1 ≤ M ∧ M ≤ 1099511627776) ∧ (0 ≤ D ∧ D ≤ 1099511627776) ∧ l.length ≤ 256) ∧ (∀ r ∈ l,okP Z r) ∧ risW l = true := by
 have hh : hdB Z L M D l.length = true ↔ ¬ ((1 ≤ Z ∧ Z ≤ 1048576) ∧ (0 ≤ L ∧ L ≤ 1048576) ∧ (-1 ≤ M ∧ M ≤ 1099511627776) ∧ (0 ≤ D ∧ D ≤ 1099511627776) ∧ l.length ≤ 256) := by
   unfold hdB
   simp only [Bool.or_eq_true,decide_eq_true_eq,outB]
   omega
 have ha : l.all (okr Z) = true ↔ ∀ r ∈ l,okP Z r := by
   rw [List.all_eq_true]
   exact ⟨fun h r hr => okr_iff.1 (h r hr),fun h r hr => okr_iff.2 (h r hr)⟩
 unfold chW
 constructor
 · intro h
   split at h
   · cases h
   · rename_i h1
     split at h
     · rename_i h2
       split at h
       · rename_i h3
         exact ⟨Classical.byContradiction fun hc => h1 (hh.2 hc),ha.1 h2,h3⟩
       · cases h
     · cases h
 · rintro ⟨h1,h2,h3⟩
   rw [if_neg (fun hc => (hh.1 hc) h1),if_pos (ha.2 h2),if_pos h3]
theorem st_mod {Z t : Int} (hZ : 1 ≤ Z) (ht : 0 ≤ t) : (stW Z t).tmod Z = 0 := by
 have h0 := (st_bound hZ ht).1
 unfold stW at h0 ⊢
 rw [Int.tmod_eq_emod_of_nonneg h0,Int.tmod_eq_emod_of_nonneg ht]
 have h3 := Int.mul_ediv_add_emod t Z
 rw [show t - t % Z = Z * (t / Z) by omega]
 exact Int.mul_emod_right Z (t / Z)
theorem okP_new {Z t n : Int} {k : List UInt8} (hZ : 1 ≤ Z) (ht : 0 ≤ t ∧ t ≤ 1099511627776) (hn : -1073741824 ≤ n ∧ n ≤ 1073741824) (hk : k.length ≤ 64) : okP Z ⟨stW Z t,k,1,n,n,n⟩ := by
 have h0 := st_bound hZ ht.1
 exact ⟨⟨h0.1,by show stW Z t ≤ _; omega⟩,st_mod hZ ht.1,hk,⟨(by decide : (1 : Int) ≤ 1),(by decide : (1 : Int) ≤ 1048576)⟩,hn,hn,Int.le_refl _,by show 1 * n ≤ n; omega,by show n ≤ 1 * n; omega⟩
theorem okP_with {Z n : Int} {r : WS} (h : okP Z r) (hc : ¬ 1048576 ≤ r.c) (hn : -1073741824 ≤ n ∧ n ≤ 1073741824) : okP Z (wthW r n) := by
 obtain ⟨h1,h2,h3,h4,h5,h6,h7,h8,h9⟩ := h
 have m1 : ∀ a' : Int,a' ≤ r.a → r.c * a' ≤ r.c * r.a := fun a' h => Int.mul_le_mul_of_nonneg_left h (by omega)
 have m2 : ∀ b' : Int,r.b ≤ b' → r.c * r.b ≤ r.c * b' := fun b' h => Int.mul_le_mul_of_nonneg_left h (by omega)
 unfold wthW
 refine ⟨h1,h2,h3,⟨?_,?_⟩,⟨?_,?_⟩,⟨?_,?_⟩,?_,?_,?_⟩
 · show 1 ≤ r.c + 1; omega
 · show r.c + 1 ≤ _; omega
 · show _ ≤ if n < r.a then n else r.a; split <;> omega
 · show (if n < r.a then n else r.a) ≤ _; split <;> omega
 · show _ ≤ if r.b < n then n else r.b; split <;> omega
 · show (if r.b < n then n else r.b) ≤ _; split <;> omega
 · show (if n < r.a then n else r.a) ≤ (if r.b < n then n else r.b); split <;> split <;> omega
 · show (r.c + 1) * (if n < r.a then n else r.a) ≤ r.t + n
   rw [Int.add_mul,Int.one_mul]
   split
   · have := m1 n (by omega); omega
   · have := m1 r.a (Int.le_refl _); omega
 · show r.t + n ≤ (r.c + 1) * (if r.b < n then n else r.b)
   rw [Int.add_mul,Int.one_mul]
   split
   · have := m2 n (by omega); omega
   · have := m2 r.b (Int.le_refl _); omega
theorem fed_ok {Z L M D : Int} {l : List WS} {k : List UInt8} {t n : Int} (h : chW Z L M D l = 0) (he : (fdW Z L M D l k t n).e = 0) :
   chW (fdW Z L M D l k t n).Z (fdW Z L M D l k t n).L (fdW Z L M D l k t n).M (fdW Z L M D l k t n).D (fdW Z L M D l k t n).o = 0 := by
 obtain ⟨⟨oZ,oL,oM,oD,ol⟩,hrow,hris⟩ := ch_iff.1 h
 unfold fdW at he ⊢
 rw [if_pos h] at he ⊢
 by_cases hk : 64 < k.length
 · rw [if_pos hk] at he; cases he
 rw [if_neg hk] at he ⊢
 by_cases ho : (outB t 0 1099511627776 || outB n (-1073741824) 1073741824) = true
 · rw [if_pos ho] at he; cases he
 rw [if_neg ho] at he ⊢
 have ho2 : outB t 0 1099511627776 = false ∧ outB n (-1073741824) 1073741824 = false := by
   rw [← Bool.or_eq_false_iff]; simpa using ho
 have ot := outB_iff.1 ho2.1
 have on := outB_iff.1 ho2.2
 have oK : -1 ≤ mxW M t ∧ mxW M t ≤ 1099511627776 := by unfold mxW; split <;> omega
 by_cases hlt : ltW Z L (stW Z t) (mxW M t) = true
 · rw [if_pos hlt]
   refine ch_iff.2 ⟨⟨oZ,oL,oM,?_,ol⟩,hrow,hris⟩
   show 0 ≤ (if 1099511627776 < D + 1 then 1099511627776 else D + 1) ∧ (if 1099511627776 < D + 1 then 1099511627776 else D + 1) ≤ 1099511627776
   split <;> omega
 rw [if_neg hlt] at he ⊢
 unfold fedF at he ⊢
 have fin : ∀ l1 : List WS,l1.length ≤ 256 → (∀ r ∈ l1,okP Z r) → risW l1 = true → chW Z L (mxW M t) D (opW Z L (mxW M t) l1) = 0 := by
   intro l1 h1 h2 h3
   refine ch_iff.2 ⟨⟨oZ,oL,oK,oD,?_⟩,fun r hr => h2 r (List.mem_filter.1 hr).1,ris_filter _ h3⟩
   exact Nat.le_trans (List.length_filter_le _ _) h1
 by_cases hth : thW (stW Z t) k l = true
 · rw [if_pos hth] at he ⊢
   have hpl := th_lt hris hth
   have hre := row_eq hpl
   by_cases hc : 1048576 ≤ (rowW (stW Z t) k l).c
   · rw [if_pos hc] at he; cases he
   rw [if_neg hc]
   refine fin _ (by rw [List.length_set]; exact ol) (fun r hr => ?_) (ris_set _ hpl hris ?_ ?_)
   · rcases List.mem_or_eq_of_mem_set hr with h1 | rfl
     · exact hrow r h1
     · refine okP_with ?_ hc on
       rw [hre]; exact hrow _ (List.getElem_mem hpl)
   · show (rowW (stW Z t) k l).s = _; rw [hre]
   · show (rowW (stW Z t) k l).k = _; rw [hre]
 · rw [if_neg hth] at he ⊢
   have hth : thW (stW Z t) k l = false := by simpa using hth
   by_cases hc : 256 ≤ l.length
   · rw [if_pos hc] at he; cases he
   rw [if_neg hc]
   refine fin _ ?_ (fun r hr => ?_) (ris_ins _ rfl rfl hris hth)
   · have := plW_le (stW Z t) k l
     unfold insW
     simp only [List.length_append,List.length_take,List.length_cons,List.length_drop]
     omega
   · unfold insW at hr
     rcases List.mem_append.1 hr with h1 | h1
     · exact hrow r (List.mem_of_mem_take h1)
     · rcases List.mem_cons.1 h1 with rfl | h1
       · exact okP_new oZ.1 ot on (by omega)
       · exact hrow r (List.mem_of_mem_drop h1)
end Go.Proofs.Ytlpjdgkpapjldaa
namespace Go.Proofs.Ytlpjdgkpapjldaa
open Ax
def newV (Z L : Int) : AV := if chW Z L (-1) 0 [] = 0 then .tup [.agg [.w (.int .i64 Z),.w (.int .i64 L),.w (.int .i64 (-1)),.w (.int .i64 0),.sg 6 [] true],.w (.int .i64 0)] else .tup [zW,.w (.int .i64 (chW Z L (-1) 0 []))]
def newS35 : zan
 | [.w (.int .i64 Z),.w (.int .i64 L)],[] => ⟨True,newV Z L,[]⟩
 | _,_ => zbv
def Scl35 (f : FuncId) : Option zan :=
 match f with
 | 19 => some zel
 | 20 => some zel
 | 26 => some cloWS
 | _ => none
theorem Scl35_ok : Fns Try.prog Scl35 := by
 intro f s h
 unfold Scl35 at h
 split at h
 · injection h with h; subst h; exact ⟨⟨_,Try.func19,by kernel_rfl,by kernel_rfl⟩,chkW_sound⟩
 · injection h with h; subst h; exact ⟨⟨_,Try.func20,by kernel_rfl,by kernel_rfl⟩,rchkW_sound⟩
 · injection h with h; subst h; exact ⟨⟨_,Try.func26,by kernel_rfl,by kernel_rfl⟩,cloW_sound⟩
 · cases h
section
set_option maxRecDepth 100000
set_option maxHeartbeats 8000000
theorem new35_sound : zbf Try.prog 13 newS35 := by
 refine zfp (S := Scl35) (T := ty) zbo ty_ok Scl35_ok Try.func13 (c := Try.f13.body.getD .skip) (by kernel_rfl) (by kernel_rfl) (fun xs pins hp _ => ?_)
 unfold newS35 at hp ⊢
 split at hp
 · rename_i Z L _
   have hex0 : ∃ p : List WS,([] : List AV) = p.map wsA := ⟨[],rfl⟩
   refine ⟨by simp,?_⟩
   unfold Try.f13 newV
   by_cases hch : chW Z L (-1) 0 [] = 0
   · have d0 : decide (chW Z L (-1) 0 [] = 0) = true := decide_eq_true hch
     rw [if_pos hch]
     simp only [go_sem,zab,Nat.reduceAdd,Nat.reduceSub,Nat.reduceMul,Int.reduceToNat,reduceCtorEq,↓reduceIte,Int.reducePow,Nat.reducePow,Int.reduceMod,Nat.reduceLeDiff,Int.reduceLE,Int.reduceNe,Int.reduceEq,Nat.reduceEqDiff,Nat.reduceLT,Nat.reduceBEq,ty,Scl35,zel,coeNW,hex0,hch,d0,decide_true,List.map_nil,List.length_nil,Bool.not_true,Bool.not_false]
     try (refine ⟨_,Weak.refl _,?_⟩)
     try simp only [go_sem,zab,Nat.reduceAdd,Nat.reduceSub,Nat.reduceMul,Int.reduceToNat,reduceCtorEq,↓reduceIte,Int.reducePow,Nat.reducePow,Int.reduceMod,Nat.reduceLeDiff,Int.reduceLE,Int.reduceNe,Int.reduceEq,Nat.reduceEqDiff,Nat.reduceLT,Nat.reduceBEq,ty]
   · have d0 : decide (chW Z L (-1) 0 [] = 0) = false := decide_eq_false hch
     rw [if_neg hch]
     simp only [go_sem,zab,Nat.reduceAdd,Nat.reduceSub,Nat.reduceMul,Int.reduceToNat,reduceCtorEq,↓reduceIte,Int.reducePow,Nat.reducePow,Int.reduceMod,Nat.reduceLeDiff,Int.reduceLE,Int.reduceNe,Int.reduceEq,Nat.reduceEqDiff,Nat.reduceLT,Nat.reduceBEq,ty,Scl35,zel,coeNW,hex0,d0,List.map_nil,List.length_nil,Bool.not_true,Bool.not_false]
     try (refine ⟨_,Weak.refl _,?_⟩)
     try simp only [go_sem,zab,Nat.reduceAdd,Nat.reduceSub,Nat.reduceMul,Int.reduceToNat,reduceCtorEq,↓reduceIte,Int.reducePow,Nat.reducePow,Int.reduceMod,Nat.reduceLeDiff,Int.reduceLE,Int.reduceNe,Int.reduceEq,Nat.reduceEqDiff,Nat.reduceLT,Nat.reduceBEq,ty,zW]
 · exact hp.elim
end
end Go.Proofs.Ytlpjdgkpapjldaa
namespace Go.Proofs.Ytlpjdgkpapjldaa
open Ax
def zz (n : Int) : Int := if 0 ≤ n then 2 * n else -2 * n - 1
def zzS : zan
 | [.w (.int k n)],[] => ⟨k = .i64 ∧ -9223372036854775808 ≤ n ∧ n ≤ 9223372036854775807,.w (.int .u64 (zz n)),[]⟩
 | _,_ => zbv
def zg (n : Int) : Int := if n % 2 = 0 then n / 2 else -(n / 2) - 1
def zgS : zan
 | [.w (.int k n)],[] => ⟨k = .u64 ∧ 0 ≤ n ∧ n < 18446744073709551616,.w (.int .i64 (zg n)),[]⟩
 | _,_ => zbv
theorem xor_u64_zero (x : Int) (h : 0 ≤ x) (h' : x < 18446744073709551616) : bits .xor .u64 x 0 = x := by
 show IntKind.u64.wrap ((BitVec.ofInt 64 x ^^^ BitVec.ofInt 64 0).toNat : Int) = _
 rw [show BitVec.ofInt 64 0 = 0#64 from rfl,BitVec.xor_zero,BitVec.toNat_ofInt,IntKind.wrap_u64]
 omega
theorem xor_u64_ones (x : Int) (h : 0 ≤ x) (h' : x < 18446744073709551616) : bits .xor .u64 x 18446744073709551615 = 18446744073709551615 - x := by
 show IntKind.u64.wrap ((BitVec.ofInt 64 x ^^^ BitVec.ofInt 64 18446744073709551615).toNat : Int) = _
 rw [show BitVec.ofInt 64 18446744073709551615 = BitVec.allOnes 64 from by decide,BitVec.xor_allOnes,BitVec.toNat_not,BitVec.toNat_ofInt,IntKind.wrap_u64]
 omega
theorem xor_i64_zero (x : Int) (h : -9223372036854775808 ≤ x) (h' : x ≤ 9223372036854775807) : bits .xor .i64 x 0 = x := by
 show IntKind.i64.wrap ((BitVec.ofInt 64 x ^^^ BitVec.ofInt 64 0).toNat : Int) = _
 rw [show BitVec.ofInt 64 0 = 0#64 from rfl,BitVec.xor_zero,BitVec.toNat_ofInt,IntKind.wrap_i64]
 omega
theorem xor_i64_ones (x : Int) (h : -9223372036854775808 ≤ x) (h' : x ≤ 9223372036854775807) : bits .xor .i64 x (-1) = -x - 1 := by
 show IntKind.i64.wrap ((BitVec.ofInt 64 x ^^^ BitVec.ofInt 64 (-1)).toNat : Int) = _
 rw [show BitVec.ofInt 64 (-1) = BitVec.allOnes 64 from by decide,BitVec.xor_allOnes,BitVec.toNat_not,BitVec.toNat_ofInt,IntKind.wrap_i64]
 omega
theorem and_u64_one (x : Int) (h : 0 ≤ x) (h' : x < 18446744073709551616) : bits .and .u64 x 1 = x % 2 := by
 rw [u64_and x 1 h h' (by omega) (by omega),show (1 : Int).toNat = 2 ^ 1 - 1 from rfl,Nat.and_two_pow_sub_one_eq_mod]
 omega
section
set_option maxRecDepth 100000
theorem zig_sound : zbf Try.prog 54 zzS := by
 refine zbd (S := noS) (T := ty) zbo ty_ok zcv Try.func54 (c := Try.f54.body.getD .skip) (by kernel_rfl) (by kernel_rfl) (fun xs pins hp _ => ?_)
 unfold zzS at hp ⊢
 split at hp
 · rename_i n _
   obtain ⟨rfl,h1,h2⟩ := hp
   refine ⟨by decide,?_⟩
   unfold Try.f54
   simp only [go_sem,coe,zab,Nat.reduceAdd,Nat.reduceSub,Nat.reduceMul,Int.reduceToNat,reduceCtorEq,↓reduceIte,Int.reducePow,Nat.reducePow,Int.reduceMod,Nat.reduceLeDiff,Int.reduceLE,Int.reduceNe,Int.reduceEq,Nat.reduceEqDiff,Nat.reduceLT,Nat.reduceBEq,ty,noS]
   unfold zz
   rcases Int.lt_or_le n 0 with h | h
   · rw [if_neg (by omega),show n / 9223372036854775808 % 18446744073709551616 = 18446744073709551615 by omega,xor_u64_ones _ (by omega) (by omega)]
     omega
   · rw [if_pos h,show n / 9223372036854775808 % 18446744073709551616 = 0 by omega,xor_u64_zero _ (by omega) (by omega)]
     omega
 · exact hp.elim
theorem zag_sound : zbf Try.prog 62 zgS := by
 refine zbd (S := noS) (T := ty) zbo ty_ok zcv Try.func62 (c := Try.f62.body.getD .skip) (by kernel_rfl) (by kernel_rfl) (fun xs pins hp _ => ?_)
 unfold zgS at hp ⊢
 split at hp
 · rename_i n _
   obtain ⟨rfl,h1,h2⟩ := hp
   refine ⟨by decide,?_⟩
   unfold Try.f62
   simp only [go_sem,coe,zab,Nat.reduceAdd,Nat.reduceSub,Nat.reduceMul,Int.reduceToNat,reduceCtorEq,↓reduceIte,Int.reducePow,Nat.reducePow,Int.reduceMod,Nat.reduceLeDiff,Int.reduceLE,Int.reduceNe,Int.reduceEq,Nat.reduceEqDiff,Nat.reduceLT,Nat.reduceBEq,ty,noS]
   rw [and_u64_one n h1 h2]
   unfold zg
   split
   · rename_i h
     rw [show (0 - ((n % 2 + 9223372036854775808) % 18446744073709551616 - 9223372036854775808) + 9223372036854775808) % 18446744073709551616 - 9223372036854775808 = 0 by omega,xor_i64_zero _ (by omega) (by omega)]
     omega
   · rename_i h
     rw [show (0 - ((n % 2 + 9223372036854775808) % 18446744073709551616 - 9223372036854775808) + 9223372036854775808) % 18446744073709551616 - 9223372036854775808 = -1 by omega,xor_i64_ones _ (by omega) (by omega)]
     omega
 · exact hp.elim
end
end Go.Proofs.Ytlpjdgkpapjldaa
namespace Go.Proofs.Ytlpjdgkpapjldaa
open Ax
def putU (u : Nat) : List UInt8 := if u < 128 then [UInt8.ofNat u] else UInt8.ofNat (u % 128 + 128) :: putU (u / 128)
termination_by u
decreasing_by omega
def putS : zan
 | [.w (.int k n)],[] => ⟨k = .i64 ∧ -9223372036854775808 ≤ n ∧ n ≤ 9223372036854775807,.ms 0 1 0 (putU (zz n).toNat).length,[.b (putU (zz n).toNat)]⟩
 | _,_ => zbv
def S2 (f : FuncId) : Option zan :=
 match f with
 | 54 => some zzS
 | _ => none
theorem S2_ok : Fns Try.prog S2 := by
 intro f s h
 unfold S2 at h
 split at h
 · injection h with h; subst h; exact ⟨⟨_,Try.func54,by kernel_rfl,by kernel_rfl⟩,zig_sound⟩
 · cases h
theorem putU_big {u : Nat} (h : ¬ u < 128) : putU u = UInt8.ofNat (u % 128 + 128) :: putU (u / 128) := by
 rw [putU,if_neg h]
theorem zer {u : Nat} (h : u < 128) : putU u = [UInt8.ofNat u] := by
 rw [putU,if_pos h]
theorem putU_pos (u : Nat) : 0 < (putU u).length := by
 rw [putU]; split <;> simp
theorem putU_len : ∀ (k u : Nat),u < 128 ^ (k + 1) → (putU u).length ≤ k + 1
 | 0,u,h => by rw [zer (by simpa using h)]; simp
 | k + 1,u,h => by
   by_cases hu : u < 128
   · rw [zer hu]; simp
   · rw [putU_big hu]
     have := putU_len k (u / 128) (by rw [Nat.div_lt_iff_lt_mul (by decide)]; rw [Nat.pow_succ] at h; exact h)
     simp; omega
theorem p128 : (128 : Nat) ^ (9 + 1) = 1180591620717411303424 := by simp
theorem zfg (u : Nat) (h : u < 18446744073709551616) : (putU u).length ≤ 10 := putU_len 9 u (by rw [p128]; omega)
theorem or128_nat : ∀ x : Fin 256,x.val ||| 128 = x.val % 128 + 128 := by decide +kernel
theorem or128 (m : Nat) : bits .or .u8 ((m : Int) % 256) 128 = ((m % 128 + 128 : Nat) : Int) := by
 rw [u8_or _ _ (by omega) (by omega) (by omega) (by omega)]
 have e : ((m : Int) % 256).toNat = m % 256 := by omega
 have := or128_nat ⟨m % 256,by omega⟩
 simp only at this
 rw [e,show (128 : Int).toNat = 128 from rfl,this]
 omega
theorem zz_range (n : Int) (h1 : -9223372036854775808 ≤ n) (h2 : n ≤ 9223372036854775807) : 0 ≤ zz n ∧ zz n < 18446744073709551616 := by
 unfold zz; split <;> omega
section
set_option maxRecDepth 100000
theorem put_sound : zbf Try.prog 41 putS := by
 refine zbd (S := S2) (T := ty) zbo ty_ok S2_ok Try.func41 (c := Try.f41.body.getD .skip) (by kernel_rfl) (by kernel_rfl) (fun xs pins hp _ => ?_)
 unfold putS at hp ⊢
 split at hp
 · rename_i n _
   obtain ⟨rfl,h1,h2⟩ := hp
   refine ⟨by decide,?_⟩
   unfold Try.f41
   simp only [go_sem,coe,zab,Nat.reduceAdd,Nat.reduceSub,Nat.reduceMul,Int.reduceToNat,reduceCtorEq,↓reduceIte,Int.reducePow,Nat.reducePow,Int.reduceMod,Nat.reduceLeDiff,Int.reduceLE,Int.reduceNe,Int.reduceEq,Nat.reduceEqDiff,Nat.reduceLT,Nat.reduceBEq,ty,S2,zzS]
   have hz := zz_range n h1 h2
   refine ⟨⟨h1,h2⟩,awp_loop ⟨fun m σ => ∃ (u : Nat) (bs : List UInt8),m = u ∧ u < 18446744073709551616 ∧ bs ++ putU u = putU (zz n).toNat ∧
     σ = ⟨[.w (.int .i64 n),.junk,.junk,.w (.int .u64 u),.ms 4 1 0 bs.length,.junk,.junk,.junk,.junk,.junk,.junk,.junk,.junk,.junk,.junk,.junk,.junk,.junk,.junk,.junk,.junk,.junk],[(4,.b bs)],5⟩,?_,?_⟩⟩
   · refine ⟨_,_,(weak_nil 4 1 (.b []) rfl (by exact trivial)).trans (zao [0,1,2,3,44] rfl rfl rfl ?_ ?_),(zz n).toNat,[],rfl,by omega,rfl,rfl⟩
     · simp only [ssT,zav,zaw,setSlot,gOf,AV.ren,renL,Blk.ren,Ax.look,Ax.put,reduceCtorEq,↓reduceIte,Nat.reduceEqDiff,Nat.reduceLT,Nat.reduceAdd,List.length_append,List.length_cons,List.length_nil,Option.some.injEq]; omega
     · simp only [ssT,zav,zaw,setSlot,gOf,AV.ren,renL,Blk.ren,Ax.look,Ax.put,reduceCtorEq,↓reduceIte,Nat.reduceEqDiff,Nat.reduceLT,Nat.reduceAdd,List.length_append,List.length_cons,List.length_nil,Option.some.injEq]
   · rintro m σ ⟨u,bs,rfl,hu,hbs,rfl⟩
     have hlen := congrArg List.length hbs
     have h10 := zfg (zz n).toNat (by omega)
     have h1' := putU_pos m
     rw [List.length_append] at hlen
     simp only [go_sem,coe,zab,Nat.reduceAdd,Nat.reduceSub,Nat.reduceMul,Int.reduceToNat,reduceCtorEq,↓reduceIte,Int.reducePow,Nat.reducePow,Int.reduceMod,Nat.reduceLeDiff,Int.reduceLE,Int.reduceNe,Int.reduceEq,Nat.reduceEqDiff,Nat.reduceLT,Nat.reduceBEq,ty,S2,zzS,decide_eq_true_eq,decide_eq_false_iff_not]
     refine ⟨fun hc => ?_,fun hc => ?_⟩
     · have hm : ¬ m < 128 := by omega
       rw [putU_big hm] at hbs
       rw [or128 m]
       refine ⟨by omega,by unfold top; omega,m / 128,_,by omega,zao [0,1,2,3,61] rfl rfl rfl ?_ ?_,m / 128,bs ++ [UInt8.ofNat (m % 128 + 128)],rfl,by omega,?_,rfl⟩
       · simp only [ssT,zav,zaw,setSlot,gOf,AV.ren,renL,Blk.ren,Ax.look,Ax.put,reduceCtorEq,↓reduceIte,Nat.reduceEqDiff,Nat.reduceLT,Nat.reduceAdd,List.length_append,List.length_cons,List.length_nil,Option.some.injEq]; omega
       · simp only [ssT,zav,zaw,setSlot,gOf,AV.ren,renL,Blk.ren,Ax.look,Ax.put,reduceCtorEq,↓reduceIte,Nat.reduceEqDiff,Nat.reduceLT,Nat.reduceAdd,List.length_append,List.length_cons,List.length_nil,Option.some.injEq,Int.toNat_natCast]
       · simpa using hbs
     · have hm : m < 128 := by omega
       rw [zer hm] at hbs
       have e : ((m : Int) % 256).toNat = m := by omega
       rw [e,← hbs]
       refine ⟨by omega,by unfold top; omega,rfl,by simp⟩
 · exact hp.elim
def clampI (n : Int) : Int := if n < 0 then 0 else if 8 < n then 8 else n
def textL (s : List UInt8) : List UInt8 := putU (2 * s.length) ++ s
def textS : zan
 | [.str s],[] => ⟨s.length ≤ 1000000,.ms 0 1 0 (textL s).length,[.b (textL s)]⟩
 | _,_ => zbv
def S37 (f : FuncId) : Option zan :=
 match f with
 | 41 => some putS
 | _ => none
theorem S37_ok : Fns Try.prog S37 := by
 intro f s h
 unfold S37 at h
 split at h
 · injection h with h; subst h; exact ⟨⟨_,Try.func41,by kernel_rfl,by kernel_rfl⟩,put_sound⟩
 · cases h
theorem text_sound : zbf Try.prog 42 textS := by
 refine zbd (S := S37) (T := ty) zbo ty_ok S37_ok Try.func42 (c := Try.f42.body.getD .skip) (by kernel_rfl) (by kernel_rfl) (fun xs pins hp _ => ?_)
 unfold textS at hp ⊢
 split at hp
 · rename_i s _
   refine ⟨by decide,?_⟩
   have hp : s.length ≤ 1000000 := hp
   have hz : (zz (s.length : Int)).toNat = 2 * s.length := by unfold zz; rw [if_pos (by omega)]; omega
   have h10 := zfg (2 * s.length) (by omega)
   unfold Try.f42
   simp only [go_sem,coe,zab,Nat.reduceAdd,Nat.reduceSub,Nat.reduceMul,Int.reduceToNat,reduceCtorEq,↓reduceIte,Int.reducePow,Nat.reducePow,Int.reduceMod,Nat.reduceLeDiff,Int.reduceLE,Int.reduceNe,Int.reduceEq,Nat.reduceEqDiff,Nat.reduceLT,Nat.reduceBEq,ty,S37,putS,hz]
   unfold textL top
   simp only [List.length_append]
   exact ⟨by omega,by omega,trivial,trivial⟩
 · exact hp.elim
end
end Go.Proofs.Ytlpjdgkpapjldaa
namespace Go.Proofs.Ytlpjdgkpapjldaa
open Ax
theorem set_at (k : Nat) (b : UInt8) (l : List UInt8) : (List.replicate (k + 1) 0 ++ l).set k b = List.replicate k 0 ++ b :: l := by
 induction k with
 | zero => rfl
 | succ k ih =>
   rw [List.replicate_succ,List.cons_append,List.set_cons_succ,ih]
   rw [List.replicate_succ (n := k),List.cons_append]
section
set_option maxRecDepth 100000
def unfL (bs : List UInt8) (n : Nat) : Nat := bs.foldl (fun n b => n * 256 + b.toNat) n
def last8 (bs : List UInt8) : List UInt8 := bs.drop (bs.length - 8)
end
end Go.Proofs.Ytlpjdgkpapjldaa
namespace Go.Proofs.Ytlpjdgkpapjldaa
open Ax
def getF (bs : List UInt8) : Nat → Nat → Int → Int × Nat × Int
 | 0,_,_ => if bs.length < 10 then (0,0,3) else (0,0,4)
 | r + 1,i,u =>
   if 128 ≤ (bs.getD i 0).toNat then getF bs r (i + 1) (bits .or .u64 u (bits .andNot .u8 (bs.getD i 0).toNat 128 % 18446744073709551616 * 2 ^ (7 * i) % 18446744073709551616))
   else if (0 < i ∧ (bs.getD i 0).toNat = 0) ∨ (i = 9 ∧ 1 < (bs.getD i 0).toNat) then (0,0,4)
   else (zg (bits .or .u64 u (bits .andNot .u8 (bs.getD i 0).toNat 128 % 18446744073709551616 * 2 ^ (7 * i) % 18446744073709551616)),i + 1,0)
def getL (bs : List UInt8) : Int × Nat × Int := getF bs (min bs.length 10) 0 0
def getS : zan
 | [.sb bs _],[] => ⟨bs.length ≤ 1000000,.tup [.w (.int .i64 (getL bs).1),.w (.int .i64 (getL bs).2.1),.w (.int .i64 (getL bs).2.2)],[]⟩
 | _,_ => zbv
theorem or_u64_range (a b : Int) : 0 ≤ bits .or .u64 a b ∧ bits .or .u64 a b < 18446744073709551616 := by
 show 0 ≤ IntKind.u64.wrap _ ∧ IntKind.u64.wrap _ < _
 rw [IntKind.wrap_u64]; omega
def S22 (f : FuncId) : Option zan :=
 match f with
 | 62 => some zgS
 | _ => none
theorem S22_ok : Fns Try.prog S22 := by
 intro f s h
 unfold S22 at h
 split at h
 · injection h with h; subst h; exact ⟨⟨_,Try.func62,by kernel_rfl,by kernel_rfl⟩,zag_sound⟩
 · cases h
section
set_option maxRecDepth 100000
theorem get_sound : zbf Try.prog 55 getS := by
 refine zbd (S := S22) (T := ty) zbo ty_ok S22_ok Try.func55 (c := Try.f55.body.getD .skip) (by kernel_rfl) (by kernel_rfl) (fun xs pins hp _ => ?_)
 unfold getS at hp ⊢
 split at hp
 · rename_i bs f _
   have hp : bs.length ≤ 1000000 := hp
   refine ⟨by decide,?_⟩
   obtain ⟨L,hL⟩ : ∃ L,min bs.length 10 = L := ⟨_,rfl⟩
   have hLb : L ≤ bs.length ∧ L ≤ 10 := by omega
   have em : (if (10 : Int) < bs.length then (10 : Int) else bs.length) = (L : Int) := by split <;> omega
   have hg : getL bs = getF bs L 0 0 := by unfold getL; rw [hL]
   rw [hg]
   unfold Try.f55
   simp only [go_sem,coe,zab,Nat.reduceAdd,Nat.reduceSub,Nat.reduceMul,Int.reduceToNat,reduceCtorEq,↓reduceIte,Int.reducePow,Nat.reducePow,Int.reduceMod,Nat.reduceLeDiff,Int.reduceLE,Int.reduceNe,Int.reduceEq,Nat.reduceEqDiff,Nat.reduceLT,Nat.reduceBEq,ty,S22,em]
   refine awp_loop ⟨fun m σ => ∃ (i : Nat) (u : Int),m = L - i ∧ i ≤ L ∧ getF bs (L - i) i u = getF bs L 0 0 ∧
     σ = ⟨[.sb bs f,.junk,.junk,.junk,.junk,.w (.int .u64 u),.junk,.junk,.junk,.w (.int .i64 L),.w (.int .i64 i),.junk,.junk,.junk,.junk,.junk,.junk,.junk,.junk,.junk,.junk,.junk,.junk,.junk,.junk,.junk,.junk,.junk,.junk,.junk,.junk,.junk,.junk,.junk,.junk,.junk,.junk,.junk,.junk,.junk,.junk,.junk,.junk,.junk,.junk,.junk,.junk,.junk,.junk,.junk,.junk,.junk,.junk,.junk,.junk,.junk,.junk],[],4⟩,?_,?_⟩
   · refine ⟨_,_,zao [0,1,2,3] rfl rfl rfl ?_ ?_,0,0,rfl,by omega,rfl,rfl⟩
     · simp only [ssT,zav,zaw,setSlot,gOf,AV.ren,renL,Blk.ren,Ax.look,Ax.put,reduceCtorEq,↓reduceIte,Nat.reduceEqDiff,Nat.reduceLT,Nat.reduceAdd,List.length_append,List.length_cons,List.length_nil,Option.some.injEq]; rfl
     · simp only [ssT,zav,zaw,setSlot,gOf,AV.ren,renL,Blk.ren,Ax.look,Ax.put,reduceCtorEq,↓reduceIte,Nat.reduceEqDiff,Nat.reduceLT,Nat.reduceAdd,List.length_append,List.length_cons,List.length_nil,Option.some.injEq]
   · rintro m σ ⟨i,u,rfl,hi,hu,rfl⟩
     have e7 : (7 * (i : Int) + 9223372036854775808) % 18446744073709551616 - 9223372036854775808 = ((7 * i : Nat) : Int) := by omega
     have e1 : ((i : Int) + 1 + 9223372036854775808) % 18446744073709551616 - 9223372036854775808 = ((i + 1 : Nat) : Int) := by omega
     obtain ⟨c,hc⟩ : ∃ c,bs.getD i 0 = c := ⟨_,rfl⟩
     by_cases hiL : i < L
     · have hd : decide ((i : Int) < (L : Int)) = true := by simpa using hiL
       have h64 : 7 * i ≤ 64 := by omega
       simp only [go_sem,coe,zab,Nat.reduceAdd,Nat.reduceSub,Nat.reduceMul,Int.reduceToNat,reduceCtorEq,↓reduceIte,Int.reducePow,Nat.reducePow,Int.reduceMod,Nat.reduceLeDiff,Int.reduceLE,Int.reduceNe,Int.reduceEq,Nat.reduceEqDiff,Nat.reduceLT,Nat.reduceBEq,ty,S22,zgS,decide_eq_true_eq,decide_eq_false_iff_not,e7,e1,h64,if_true,hc,hd]
       obtain ⟨v,hv⟩ : ∃ v,bits .or .u64 u (bits .andNot .u8 c.toNat 128 % 18446744073709551616 * 2 ^ (7 * i) % 18446744073709551616) = v := ⟨_,rfl⟩
       have hvr : 0 ≤ v ∧ v < 18446744073709551616 := hv ▸ or_u64_range _ _
       rw [show L - i = (L - (i + 1)) + 1 by omega,getF,hc,hv] at hu
       simp only [hv]
       refine ⟨⟨by omega,by omega⟩,by omega,⟨by omega,by omega⟩,fun h => ?_,fun h => ?_⟩
       · rw [if_pos (by omega)] at hu
         refine ⟨L - (i + 1),_,by omega,zao [0,1,2,3] rfl rfl rfl ?_ ?_,i + 1,v,rfl,by omega,hu,rfl⟩
         · simp only [ssT,zav,zaw,setSlot,gOf,AV.ren,renL,Blk.ren,Ax.look,Ax.put,reduceCtorEq,↓reduceIte,Nat.reduceEqDiff,Nat.reduceLT,Nat.reduceAdd,List.length_append,List.length_cons,List.length_nil,Option.some.injEq]
         · simp only [ssT,zav,zaw,setSlot,gOf,AV.ren,renL,Blk.ren,Ax.look,Ax.put,reduceCtorEq,↓reduceIte,Nat.reduceEqDiff,Nat.reduceLT,Nat.reduceAdd,List.length_append,List.length_cons,List.length_nil,Option.some.injEq]
       · rw [if_neg (by omega)] at hu
         by_cases hA : (0 < i ∧ c.toNat = 0) ∨ (i = 9 ∧ 1 < c.toNat)
         · rw [if_pos hA] at hu
           rw [← hu]
           repeat' (first | (intro _) | (apply And.intro))
           all_goals first | omega | rfl | (exfalso; omega) | trace_state
         · rw [if_neg hA] at hu
           rw [← hu]
           repeat' (first | (intro _) | (apply And.intro))
           all_goals first | omega | rfl | (exfalso; omega) | trace_state
     · have hd : decide ((i : Int) < (L : Int)) = false := by simpa using hiL
       simp only [go_sem,coe,zab,Nat.reduceAdd,Nat.reduceSub,Nat.reduceMul,Int.reduceToNat,reduceCtorEq,↓reduceIte,Int.reducePow,Nat.reducePow,Int.reduceMod,Nat.reduceLeDiff,Int.reduceLE,Int.reduceNe,Int.reduceEq,Nat.reduceEqDiff,Nat.reduceLT,Nat.reduceBEq,ty,S22,zgS,decide_eq_true_eq,decide_eq_false_iff_not,hd]
       rw [show L - i = 0 by omega,getF] at hu
       refine ⟨fun h => ?_,fun h => ?_⟩
       · rw [if_pos (by omega)] at hu
         rw [← hu]
         repeat' (apply And.intro)
         all_goals rfl
       · rw [if_neg (by omega)] at hu
         rw [← hu]
         repeat' (apply And.intro)
         all_goals rfl
 · exact hp.elim
end
end Go.Proofs.Ytlpjdgkpapjldaa
namespace Go.Proofs.Ytlpjdgkpapjldaa
open Ax
def rd (bs : List UInt8) (f : Bool) (e : Int) : Blk := .g 2 [.agg [.sb bs f,.w (.int .i64 e)]]
def tkB (n : Int) (bs : List UInt8) : List UInt8 := if (bs.length : Int) < n then [] else bs.take n.toNat
def tkL (n : Int) (bs : List UInt8) : List UInt8 := if (bs.length : Int) < n then bs else bs.drop n.toNat
def tkE (n : Int) (bs : List UInt8) (e : Int) : Int := if (bs.length : Int) < n then 3 else e
def takeS : zan
 | [.rf 0 2 0 0,.w (.int k n)],[.g 2 [.agg [.sb bs f,.w (.int k' e)]]] => ⟨k = .i64 ∧ k' = .i64 ∧ 0 ≤ n,.sb (tkB n bs) true,[rd (tkL n bs) f (tkE n bs e)]⟩
 | _,_ => zbv
section
set_option maxRecDepth 100000
theorem take_sound : zbf Try.prog 56 takeS := by
 refine zfp (S := noS) (T := ty) zbo ty_ok zcv Try.func56 (c := Try.f56.body.getD .skip) (by kernel_rfl) (by kernel_rfl) (fun xs pins hp _ => ?_)
 unfold takeS at hp ⊢
 split at hp
 · rename_i k n bs f k' e _
   obtain ⟨rfl,rfl,h1⟩ := hp
   refine ⟨by simp,?_⟩
   unfold Try.f56
   simp only [go_sem,coe,zab,Nat.reduceAdd,Nat.reduceSub,Nat.reduceMul,Int.reduceToNat,reduceCtorEq,↓reduceIte,Int.reducePow,Nat.reducePow,Int.reduceMod,Nat.reduceLeDiff,Int.reduceLE,Int.reduceNe,Int.reduceEq,Nat.reduceEqDiff,Nat.reduceLT,Nat.reduceBEq,ty,noS,decide_eq_true_eq,decide_eq_false_iff_not]
   refine ⟨fun h => ?_,fun h => ?_⟩
   · refine ⟨_,weak_coe 4 1 true rfl,?_⟩
     simp only [go_sem,coe,zab,Nat.reduceAdd,Nat.reduceSub,Nat.reduceMul,Int.reduceToNat,reduceCtorEq,↓reduceIte,Int.reducePow,Nat.reducePow,Int.reduceMod,Nat.reduceLeDiff,Int.reduceLE,Int.reduceNe,Int.reduceEq,Nat.reduceEqDiff,Nat.reduceLT,Nat.reduceBEq,ty,tkB,tkL,tkE,rd,h,if_true]
   · have e1 : List.take (bs.length - n.toNat) (List.drop n.toNat bs) = bs.drop n.toNat := List.take_of_length_le (by simp)
     refine ⟨⟨by omega,by omega,by omega⟩,⟨by omega,by omega⟩,_,Weak.refl _,?_⟩
     simp only [go_sem,coe,zab,Nat.reduceAdd,Nat.reduceSub,Nat.reduceMul,Int.reduceToNat,reduceCtorEq,↓reduceIte,Int.reducePow,Nat.reducePow,Int.reduceMod,Nat.reduceLeDiff,Int.reduceLE,Int.reduceNe,Int.reduceEq,Nat.reduceEqDiff,Nat.reduceLT,Nat.reduceBEq,ty,tkB,tkL,tkE,rd,h,if_false,e1,Nat.sub_zero,decide_true]
 · exact hp.elim
def leftS : zan
 | [.rf 0 2 0 0],[.g 2 [.agg [.sb bs f,.w (.int k e)]]] => ⟨k = .i64,.w (.int .i64 bs.length),[rd bs f e]⟩
 | [.w (.pointer none)],[] => ⟨True,.w (.int .i64 0),[]⟩
 | _,_ => zbv
theorem left_sound : zbf Try.prog 58 leftS := by
 refine zbd (S := noS) (T := ty) zbo ty_ok zcv Try.func58 (c := Try.f58.body.getD .skip) (by kernel_rfl) (by kernel_rfl) (fun xs pins hp _ => ?_)
 unfold leftS at hp ⊢
 split at hp
 · obtain rfl := hp
   refine ⟨by simp,?_⟩
   unfold Try.f58
   simp only [go_sem,coe,zab,Nat.reduceAdd,Nat.reduceSub,Nat.reduceMul,Int.reduceToNat,reduceCtorEq,↓reduceIte,Int.reducePow,Nat.reducePow,Int.reduceMod,Nat.reduceLeDiff,Int.reduceLE,Int.reduceNe,Int.reduceEq,Nat.reduceEqDiff,Nat.reduceLT,Nat.reduceBEq,ty,noS,rd]
 · refine ⟨by simp,?_⟩
   unfold Try.f58
   simp only [go_sem,coe,zab,Nat.reduceAdd,Nat.reduceSub,Nat.reduceMul,Int.reduceToNat,reduceCtorEq,↓reduceIte,Int.reducePow,Nat.reducePow,Int.reduceMod,Nat.reduceLeDiff,Int.reduceLE,Int.reduceNe,Int.reduceEq,Nat.reduceEqDiff,Nat.reduceLT,Nat.reduceBEq,ty,noS,rd]
 · exact hp.elim
def errS : zan
 | [.rf 0 2 0 0],[.g 2 [.agg [.sb bs f,.w (.int k e)]]] => ⟨k = .i64,.w (.int .i64 e),[rd bs f e]⟩
 | [.w (.pointer none)],[] => ⟨True,.w (.int .i64 1),[]⟩
 | _,_ => zbv
theorem err_sound : zbf Try.prog 57 errS := by
 refine zbd (S := noS) (T := ty) zbo ty_ok zcv Try.func57 (c := Try.f57.body.getD .skip) (by kernel_rfl) (by kernel_rfl) (fun xs pins hp _ => ?_)
 unfold errS at hp ⊢
 split at hp
 · obtain rfl := hp
   refine ⟨by simp,?_⟩
   unfold Try.f57
   simp only [go_sem,coe,zab,Nat.reduceAdd,Nat.reduceSub,Nat.reduceMul,Int.reduceToNat,reduceCtorEq,↓reduceIte,Int.reducePow,Nat.reducePow,Int.reduceMod,Nat.reduceLeDiff,Int.reduceLE,Int.reduceNe,Int.reduceEq,Nat.reduceEqDiff,Nat.reduceLT,Nat.reduceBEq,ty,noS,rd]
 · refine ⟨by simp,?_⟩
   unfold Try.f57
   simp only [go_sem,coe,zab,Nat.reduceAdd,Nat.reduceSub,Nat.reduceMul,Int.reduceToNat,reduceCtorEq,↓reduceIte,Int.reducePow,Nat.reducePow,Int.reduceMod,Nat.reduceLeDiff,Int.reduceLE,Int.reduceNe,Int.reduceEq,Nat.reduceEqDiff,Nat.reduceLT,Nat.reduceBEq,ty,noS,rd]
 · exact hp.elim
def newS : zan
 | [.sb bs f],[] => ⟨bs.length ≤ 1000000,.rf 0 2 0 0,[rd bs false 0]⟩
 | _,_ => zbv
theorem new_sound : zbf Try.prog 43 newS := by
 refine zfp (S := noS) (T := ty) zbo ty_ok zcv Try.func43 (c := Try.f43.body.getD .skip) (by kernel_rfl) (by kernel_rfl) (fun xs pins hp _ => ?_)
 unfold newS at hp ⊢
 split at hp
 · rename_i bs f _
   have hp : bs.length ≤ 1000000 := hp
   refine ⟨by simp,?_⟩
   unfold Try.f43
   simp only [go_sem,coe,zab,Nat.reduceAdd,Nat.reduceSub,Nat.reduceMul,Int.reduceToNat,reduceCtorEq,↓reduceIte,Int.reducePow,Nat.reducePow,Int.reduceMod,Nat.reduceLeDiff,Int.reduceLE,Int.reduceNe,Int.reduceEq,Nat.reduceEqDiff,Nat.reduceLT,Nat.reduceBEq,ty,noS,rd]
   refine ⟨by unfold top; omega,_,weak_fz 20 4 bs rfl (by simp [slot,AV.ids]),?_⟩
   simp only [fzL,fzH,AV.fz,Blk.fz,go_sem,coe,zab,Nat.reduceAdd,Nat.reduceSub,Nat.reduceMul,Int.reduceToNat,reduceCtorEq,↓reduceIte,Int.reducePow,Nat.reducePow,Int.reduceMod,Nat.reduceLeDiff,Int.reduceLE,Int.reduceNe,Int.reduceEq,Nat.reduceEqDiff,Nat.reduceLT,Nat.reduceBEq,ty,rd,decide_true,List.take_length]
 · exact hp.elim
def numN (bs : List UInt8) (e : Int) : Int := if e = 0 then (getL bs).1 else 0
def numL (bs : List UInt8) (e : Int) : List UInt8 := if e = 0 then bs.drop (getL bs).2.1 else bs
def numE (bs : List UInt8) (e : Int) : Int := if e = 0 then (getL bs).2.2 else e
theorem getF_ok (bs : List UInt8) : ∀ (r i : Nat) (u : Int),i + r ≤ bs.length → (getF bs r i u).2.1 ≤ bs.length ∧ ((getF bs r i u).2.2 ≠ 0 → (getF bs r i u).1 = 0 ∧ (getF bs r i u).2.1 = 0)
 | 0,i,u,h => by unfold getF; split <;> simp
 | r + 1,i,u,h => by
   unfold getF
   split
   · exact getF_ok bs r (i + 1) _ (by omega)
   · split
     · simp
     · simp; omega
theorem getL_ok (bs : List UInt8) : (getL bs).2.1 ≤ bs.length ∧ ((getL bs).2.2 ≠ 0 → (getL bs).1 = 0 ∧ (getL bs).2.1 = 0) := getF_ok bs _ 0 0 (by omega)
def numS : zan
 | [.rf 0 2 0 0],[.g 2 [.agg [.sb bs f,.w (.int k e)]]] => ⟨k = .i64 ∧ bs.length ≤ 1000000,.w (.int .i64 (numN bs e)),[rd (numL bs e) f (numE bs e)]⟩
 | [.w (.pointer none)],[] => ⟨True,.w (.int .i64 0),[]⟩
 | _,_ => zbv
def S28 (f : FuncId) : Option zan :=
 match f with
 | 55 => some getS
 | _ => none
theorem S28_ok : Fns Try.prog S28 := by
 intro f s h
 unfold S28 at h
 split at h
 · injection h with h; subst h; exact ⟨⟨_,Try.func55,by kernel_rfl,by kernel_rfl⟩,get_sound⟩
 · cases h
theorem num_sound : zbf Try.prog 44 numS := by
 refine zbd (S := S28) (T := ty) zbo ty_ok S28_ok Try.func44 (c := Try.f44.body.getD .skip) (by kernel_rfl) (by kernel_rfl) (fun xs pins hp _ => ?_)
 unfold numS at hp ⊢
 split at hp
 · rename_i bs f k e _
   obtain ⟨rfl,hlen⟩ := hp
   refine ⟨by simp,?_⟩
   obtain ⟨hg1,hg2⟩ := getL_ok bs
   have e1 : List.take (bs.length - (getL bs).2.1) (List.drop (getL bs).2.1 bs) = bs.drop (getL bs).2.1 := List.take_of_length_le (by simp)
   unfold Try.f44
   simp only [go_sem,coe,zab,Nat.reduceAdd,Nat.reduceSub,Nat.reduceMul,Int.reduceToNat,reduceCtorEq,↓reduceIte,Int.reducePow,Nat.reducePow,Int.reduceMod,Nat.reduceLeDiff,Int.reduceLE,Int.reduceNe,Int.reduceEq,Nat.reduceEqDiff,Nat.reduceLT,Nat.reduceBEq,ty,S28,getS,decide_eq_true_eq,decide_eq_false_iff_not,rd,e1,hlen]
   by_cases he : e = 0
   · by_cases hr : (getL bs).2.2 = 0
     · simp [numL,numE,numN,he,hr,noimmL,AV.noimm,hg1]
     · obtain ⟨h3,h4⟩ := hg2 hr
       simp [numL,numE,numN,he,hr,h3,h4,noimmL,AV.noimm]
   · simp [numL,numE,numN,he]
 · refine ⟨by simp,?_⟩
   unfold Try.f44
   simp only [go_sem,coe,zab,Nat.reduceAdd,Nat.reduceSub,Nat.reduceMul,Int.reduceToNat,reduceCtorEq,↓reduceIte,Int.reducePow,Nat.reducePow,Int.reduceMod,Nat.reduceLeDiff,Int.reduceLE,Int.reduceNe,Int.reduceEq,Nat.reduceEqDiff,Nat.reduceLT,Nat.reduceBEq,ty,S28,getS,rd]
 · exact hp.elim
def rfixN (n : Int) (bs : List UInt8) (e : Int) : Int := if e = 0 then (unfL (last8 (tkB (clampI n) bs)) 0 : Nat) else 0
def rfixL (n : Int) (bs : List UInt8) (e : Int) : List UInt8 := if e = 0 then tkL (clampI n) bs else bs
def rfixE (n : Int) (bs : List UInt8) (e : Int) : Int := if e = 0 then tkE (clampI n) bs 0 else e
def doneS : zan
 | [.rf 0 2 0 0],[.g 2 [.agg [.sb bs f,.w (.int k e)]]] => ⟨k = .i64,.w (.int .i64 (if e = 0 ∧ 0 < bs.length then 4 else e)),[rd bs f e]⟩
 | [.w (.pointer none)],[] => ⟨True,.w (.int .i64 1),[]⟩
 | _,_ => zbv
def S35 (f : FuncId) : Option zan :=
 match f with
 | 58 => some leftS
 | 57 => some errS
 | _ => none
theorem S35_ok : Fns Try.prog S35 := by
 intro f s h
 unfold S35 at h
 split at h
 · injection h with h; subst h; exact ⟨⟨_,Try.func58,by kernel_rfl,by kernel_rfl⟩,left_sound⟩
 · injection h with h; subst h; exact ⟨⟨_,Try.func57,by kernel_rfl,by kernel_rfl⟩,err_sound⟩
 · cases h
theorem done_sound : zbf Try.prog 46 doneS := by
 refine zbd (S := S35) (T := ty) zbo ty_ok S35_ok Try.func46 (c := Try.f46.body.getD .skip) (by kernel_rfl) (by kernel_rfl) (fun xs pins hp _ => ?_)
 unfold doneS at hp ⊢
 split at hp
 · rename_i bs f k e _
   obtain rfl := hp
   refine ⟨by simp,?_⟩
   unfold Try.f46
   simp only [go_sem,coe,zab,Nat.reduceAdd,Nat.reduceSub,Nat.reduceMul,Int.reduceToNat,reduceCtorEq,↓reduceIte,Int.reducePow,Nat.reducePow,Int.reduceMod,Nat.reduceLeDiff,Int.reduceLE,Int.reduceNe,Int.reduceEq,Nat.reduceEqDiff,Nat.reduceLT,Nat.reduceBEq,ty,S35,leftS,errS,decide_eq_true_eq,decide_eq_false_iff_not,rd]
   by_cases he : e = 0
   · subst he
     by_cases hb : 0 < bs.length
     · simp [hb]
       all_goals (first | omega | (intro h; rw [h] at hb; simp at hb))
     · have : bs = [] := List.eq_nil_of_length_eq_zero (by omega)
       simp [this]
   · simp [he]
 · refine ⟨by simp,?_⟩
   unfold Try.f46
   simp only [go_sem,coe,zab,Nat.reduceAdd,Nat.reduceSub,Nat.reduceMul,Int.reduceToNat,reduceCtorEq,↓reduceIte,Int.reducePow,Nat.reducePow,Int.reduceMod,Nat.reduceLeDiff,Int.reduceLE,Int.reduceNe,Int.reduceEq,Nat.reduceEqDiff,Nat.reduceLT,Nat.reduceBEq,ty,S35,leftS,errS,rd,Int.reduceEq,decide_false]
 · exact hp.elim
def rtOk (m : Int) (bs : List UInt8) (e : Int) : Prop := numE bs e = 0 ∧ 0 ≤ numN bs e ∧ numN bs e ≤ max m 0
instance (m : Int) (bs : List UInt8) (e : Int) : Decidable (rtOk m bs e) := by unfold rtOk; infer_instance
def rtS' (m : Int) (bs : List UInt8) (e : Int) : List UInt8 := if rtOk m bs e then tkB (numN bs e) (numL bs e) else []
def rtL (m : Int) (bs : List UInt8) (e : Int) : List UInt8 := if rtOk m bs e then tkL (numN bs e) (numL bs e) else numL bs e
def rtE (m : Int) (bs : List UInt8) (e : Int) : Int := if numE bs e ≠ 0 then numE bs e else if rtOk m bs e then tkE (numN bs e) (numL bs e) 0 else 5
def rtextS' : zan
 | [.rf 0 2 0 0,.w (.int k' m)],[.g 2 [.agg [.sb bs f,.w (.int k e)]]] => ⟨k = .i64 ∧ k' = .i64 ∧ bs.length ≤ 1000000,.str (rtS' m bs e),[rd (rtL m bs e) f (rtE m bs e)]⟩
 | [.w (.pointer none),.w (.int k' m)],[] => ⟨k' = .i64,.str [],[]⟩
 | _,_ => zbv
def S32 (f : FuncId) : Option zan :=
 match f with
 | 44 => some numS
 | 56 => some takeS
 | _ => none
theorem S32_ok : Fns Try.prog S32 := by
 intro f s h
 unfold S32 at h
 split at h
 · injection h with h; subst h; exact ⟨⟨_,Try.func44,by kernel_rfl,by kernel_rfl⟩,num_sound⟩
 · injection h with h; subst h; exact ⟨⟨_,Try.func56,by kernel_rfl,by kernel_rfl⟩,take_sound⟩
 · cases h
theorem mtext_sound : zbf Try.prog 45 rtextS' := by
 refine zbd (S := S32) (T := ty) zbo ty_ok S32_ok Try.func45 (c := Try.f45.body.getD .skip) (by kernel_rfl) (by kernel_rfl) (fun xs pins hp _ => ?_)
 unfold rtextS' at hp ⊢
 split at hp
 · rename_i k' m bs f k e _
   obtain ⟨rfl,rfl,hlen⟩ := hp
   refine ⟨by simp,?_⟩
   unfold Try.f45
   simp only [go_sem,coe,zab,Nat.reduceAdd,Nat.reduceSub,Nat.reduceMul,Int.reduceToNat,reduceCtorEq,↓reduceIte,Int.reducePow,Nat.reducePow,Int.reduceMod,Nat.reduceLeDiff,Int.reduceLE,Int.reduceNe,Int.reduceEq,Nat.reduceEqDiff,Nat.reduceLT,Nat.reduceBEq,ty,S32,numS,takeS,decide_eq_true_eq,decide_eq_false_iff_not,rd,hlen]
   have hmax : (if (0 : Int) > m then (0 : Int) else m) = max m 0 := by split <;> omega
   rw [hmax]
   by_cases hn : numE bs e = 0
   · by_cases hok : 0 ≤ numN bs e ∧ numN bs e ≤ max m 0
     · have hr : rtOk m bs e := ⟨hn,hok⟩
       have h1 : ¬ numN bs e < 0 := by omega
       have h2 : ¬ max m 0 < numN bs e := by omega
       simp only [rtL,rtE,rtS',hr,hn,h1,h2,if_true,decide_true,Bool.not_true,Bool.false_eq_true,Bool.or_false,false_implies,true_implies,not_false_eq_true,not_true_eq_false,true_and,and_true,ne_eq,if_false,hok.1]
     · have hr : ¬ rtOk m bs e := fun h => hok h.2
       simp only [rtL,rtE,rtS',hr,hn,if_false,decide_true,Bool.not_true,Bool.false_eq_true,Bool.or_false,false_implies,true_implies,ne_eq,not_true_eq_false,true_and,and_true,implies_true]
       intro h1 h2
       exact (hok ⟨by omega,by omega⟩).elim
   · have hr : ¬ rtOk m bs e := fun h => hn h.1
     simp [rtL,rtE,rtS',hr,hn]
 · obtain rfl := hp
   refine ⟨by simp,?_⟩
   unfold Try.f45
   simp only [go_sem,coe,zab,Nat.reduceAdd,Nat.reduceSub,Nat.reduceMul,Int.reduceToNat,reduceCtorEq,↓reduceIte,Int.reducePow,Nat.reducePow,Int.reduceMod,Nat.reduceLeDiff,Int.reduceLE,Int.reduceNe,Int.reduceEq,Nat.reduceEqDiff,Nat.reduceLT,Nat.reduceBEq,ty,S32,numS,takeS,rd]
 · exact hp.elim
end
end Go.Proofs.Ytlpjdgkpapjldaa
namespace Go.Proofs.Ytlpjdgkpapjldaa
open Ax
def valU : List UInt8 → Nat
 | [] => 0
 | c :: r => c.toNat % 128 + 128 * valU r
theorem val_put (u : Nat) : valU (putU u) = u := by
 induction u using Nat.strongRecOn with
 | ind u ih =>
   by_cases h : u < 128
   · rw [zer h]
     simp only [valU,UInt8.toNat_ofNat']
     omega
   · rw [putU_big h]
     simp only [valU,UInt8.toNat_ofNat',ih (u / 128) (by omega)]
     omega
theorem val_pos : ∀ (p : List UInt8) (c : UInt8),0 < c.toNat → c.toNat < 128 → 0 < valU (p ++ [c])
 | [],c,h,h' => by simp only [List.nil_append,valU]; omega
 | d :: p,c,h,h' => by
   have := val_pos p c h h'
   simp only [List.cons_append,valU]; omega
theorem put_val : ∀ (p : List UInt8) (c : UInt8),(∀ d ∈ p,128 ≤ d.toNat) → c.toNat < 128 → (p = [] ∨ 0 < c.toNat) → putU (valU (p ++ [c])) = p ++ [c]
 | [],c,_,hc,_ => by
   have e : valU ([] ++ [c]) = c.toNat := by simp only [List.nil_append,valU]; omega
   rw [e,zer hc]
   simp
 | d :: p,c,hp,hc,h => by
   have h0 : 0 < c.toNat := by
       rcases h with h | h; · cases h
       · exact h
   have hv := val_pos p c h0 hc
   have ih := put_val p c (fun x hx => hp x (by simp [hx])) hc (.inr h0)
   have hd := hp d (by simp)
   have hd2 := d.toNat_lt
   have e : valU (d :: p ++ [c]) = d.toNat % 128 + 128 * valU (p ++ [c]) := rfl
   rw [e,putU_big (by omega),show (d.toNat % 128 + 128 * valU (p ++ [c])) / 128 = valU (p ++ [c]) by omega,ih,
     show (d.toNat % 128 + 128 * valU (p ++ [c])) % 128 + 128 = d.toNat by omega]
   simp
theorem put_shape (u : Nat) : ∃ p c,putU u = p ++ [c] ∧ (∀ d ∈ p,128 ≤ d.toNat) ∧ c.toNat < 128 ∧ (p = [] ∨ 0 < c.toNat) := by
 induction u using Nat.strongRecOn with
 | ind u ih =>
   by_cases h : u < 128
   · exact ⟨[],UInt8.ofNat u,by rw [zer h]; rfl,by simp,by rw [UInt8.toNat_ofNat']; omega,.inl rfl⟩
   · obtain ⟨p,c,h1,h2,h3,h4⟩ := ih (u / 128) (by omega)
     refine ⟨UInt8.ofNat (u % 128 + 128) :: p,c,by rw [putU_big h,h1]; rfl,?_,h3,?_⟩
     · intro d hd
       rcases List.mem_cons.1 hd with rfl | hd
       · rw [UInt8.toNat_ofNat']; omega
       · exact h2 d hd
     · right
       rcases h4 with rfl | h4
       · have e := val_put (u / 128)
         rw [h1] at e
         simp only [List.nil_append,valU] at e
         omega
       · exact h4
theorem val_lt : ∀ (p : List UInt8) (c : UInt8),c.toNat < 128 → valU (p ++ [c]) < (c.toNat + 1) * 128 ^ p.length
 | [],c,h => by simp only [List.nil_append,valU,List.length_nil,Nat.pow_zero]; omega
 | d :: p,c,h => by
   have := val_lt p c h
   simp only [List.cons_append,valU,List.length_cons,Nat.pow_succ]
   rw [← Nat.mul_assoc]
   omega
theorem val_ge : ∀ (p : List UInt8) (c : UInt8),c.toNat < 128 → c.toNat * 128 ^ p.length ≤ valU (p ++ [c])
 | [],c,h => by simp only [List.nil_append,valU,List.length_nil,Nat.pow_zero]; omega
 | d :: p,c,h => by
   have := val_ge p c h
   simp only [List.cons_append,valU,List.length_cons,Nat.pow_succ]
   rw [← Nat.mul_assoc]
   omega
theorem canon (p : List UInt8) (c : UInt8) (hp : ∀ d ∈ p,128 ≤ d.toNat) (hc : c.toNat < 128) (h9 : p.length ≤ 9) :
   putU (valU (p ++ [c]) % 18446744073709551616) = p ++ [c] ↔ ¬ ((0 < p.length ∧ c.toNat = 0) ∨ (p.length = 9 ∧ 1 < c.toNat)) := by
 have hlt := val_lt p c hc
 have hge := val_ge p c hc
 have h7 : (128 : Nat) ^ p.length ≤ 128 ^ 9 := Nat.pow_le_pow_right (by decide) h9
 have h7' : (128 : Nat) ^ 9 = 9223372036854775808 := by simp
 constructor
 · intro h
   have hv := val_put (valU (p ++ [c]) % 18446744073709551616)
   rw [h] at hv
   rintro (⟨h1,h2⟩ | ⟨h1,h2⟩)
   · obtain ⟨q,d,e1,e2,e3,e4⟩ := put_shape (valU (p ++ [c]) % 18446744073709551616)
     rw [h] at e1
     have hq := List.append_inj' e1 rfl
     have hd : c = d := by simpa using hq.2
     rw [← hq.1,← hd] at e4
     rcases e4 with e4 | e4
     · rw [e4] at h1; simp at h1
     · omega
   · rw [h1,h7'] at hge
     omega
 · intro h
   have hsmall : valU (p ++ [c]) < 18446744073709551616 := by
     by_cases hl : p.length = 9
     · rw [hl,h7'] at hlt
       have : c.toNat ≤ 1 := by omega
       have : (c.toNat + 1) * 9223372036854775808 ≤ 2 * 9223372036854775808 := Nat.mul_le_mul_right _ (by omega)
       omega
     · have h8 : (128 : Nat) ^ p.length ≤ 128 ^ 8 := Nat.pow_le_pow_right (by decide) (by omega)
       have h8' : (128 : Nat) ^ 8 = 72057594037927936 := by simp
       have : (c.toNat + 1) * 128 ^ p.length ≤ 128 * 72057594037927936 := Nat.mul_le_mul (by omega) (by omega)
       omega
   rw [Nat.mod_eq_of_lt hsmall]
   refine put_val p c hp hc ?_
   rcases p with _ | ⟨d,p⟩
   · exact .inl rfl
   · right
     simp only [List.length_cons] at h
     omega
def getM : Nat → Nat → List UInt8 → Int × Nat × Int
 | i,_,[] => if i < 10 then (0,0,3) else (0,0,4)
 | i,u,c :: r =>
   if i = 10 then (0,0,4)
   else if 128 ≤ c.toNat then getM (i + 1) (u + c.toNat % 128 * 128 ^ i) r
   else if (0 < i ∧ c.toNat = 0) ∨ (i = 9 ∧ 1 < c.toNat) then (0,0,4)
   else (zg ((u + c.toNat * 128 ^ i : Nat) : Int),i + 1,0)
theorem andNot128 : ∀ x : Fin 256,(bits .andNot .u8 ((x.val : Nat) : Int) 128) = ((x.val % 128 : Nat) : Int) := by decide +kernel
theorem getF_M (bs : List UInt8) : ∀ (r i : Nat) (u : Nat),i + r = min bs.length 10 → u < 128 ^ i → getF bs r i u = getM i u (bs.drop i)
 | 0,i,u,h,hu => by
   by_cases hl : bs.length < 10
   · rw [List.drop_of_length_le (by omega)]
     simp only [getF,getM,hl,if_true,show i < 10 by omega]
   · have hi : i = 10 := by omega
     subst hi
     simp only [getF,hl,if_false]
     cases bs.drop 10 with
     | nil => simp [getM]
     | cons c q => simp [getM]
 | r + 1,i,u,h,hu => by
   have hil : i < bs.length := by omega
   have hi9 : i ≤ 9 := by omega
   rw [List.drop_eq_getElem_cons hil]
   have eg : bs.getD i 0 = bs[i] := by simp [hil]
   have hc := bs[i].toNat_lt
   have ea := andNot128 ⟨bs[i].toNat,by simpa using hc⟩
   simp only at ea
   have hP : (2 : Nat) ^ (7 * i) = 128 ^ i := by rw [Nat.pow_mul]
   have hle : (128 : Nat) ^ i ≤ 128 ^ 9 := Nat.pow_le_pow_right (by decide) hi9
   have h9' : (128 : Nat) ^ 9 = 9223372036854775808 := by simp
   have hm128 : bs[i].toNat % 128 < 128 := Nat.mod_lt _ (by decide)
   simp only [getF,getM,eg,ea,if_neg (show ¬ i = 10 by omega)]
   have hcast : ((bs[i].toNat % 128 : Nat) : Int) % 18446744073709551616 * 2 ^ (7 * i) % 18446744073709551616 = ((bs[i].toNat % 128 * 128 ^ i % 18446744073709551616 : Nat) : Int) := by
     have e0 : ((bs[i].toNat % 128 : Nat) : Int) % 18446744073709551616 = ((bs[i].toNat % 128 : Nat) : Int) := by omega
     have : (2 : Int) ^ (7 * i) = ((128 ^ i : Nat) : Int) := by rw [← hP]; simp
     rw [e0,this,← Int.natCast_mul]
     generalize bs[i].toNat % 128 * 128 ^ i = x
     omega
   rw [hcast]
   by_cases hin : i ≤ 8 ∨ bs[i].toNat % 128 ≤ 1
   · have hmod : bs[i].toNat % 128 * 128 ^ i < 18446744073709551616 := by
       rcases hin with hin | hin
       · have h8 : (128 : Nat) ^ i ≤ 128 ^ 8 := Nat.pow_le_pow_right (by decide) hin
         have h8' : (128 : Nat) ^ 8 = 72057594037927936 := by simp
         have : bs[i].toNat % 128 * 128 ^ i ≤ 127 * 72057594037927936 := Nat.mul_le_mul (by omega) (by omega)
         omega
       · have : bs[i].toNat % 128 * 128 ^ i ≤ 1 * 9223372036854775808 := Nat.mul_le_mul hin (by omega)
         omega
     rw [Nat.mod_eq_of_lt hmod]
     have eor : bits .or .u64 (u : Int) ((bs[i].toNat % 128 * 128 ^ i : Nat) : Int) = ((u + bs[i].toNat % 128 * 128 ^ i : Nat) : Int) := by
       rw [u64_or _ _ (by omega) (by omega) (by omega) (by omega),Int.toNat_natCast,Int.toNat_natCast]
       have := nat_join (7 * i) (bs[i].toNat % 128 * 128 ^ i) u (by rw [hP]; exact Nat.mul_mod_left _ _) (by rw [hP]; exact hu)
       rw [Nat.or_comm,this]
       omega
     rw [eor]
     by_cases hge : 128 ≤ bs[i].toNat
     · rw [if_pos hge,if_pos hge]
       refine getF_M bs r (i + 1) _ (by omega) ?_
       rw [Nat.pow_succ]
       have : bs[i].toNat % 128 * 128 ^ i ≤ 127 * 128 ^ i := Nat.mul_le_mul_right _ (by omega)
       omega
     · rw [if_neg hge,if_neg hge,Nat.mod_eq_of_lt (show bs[i].toNat < 128 by omega)]
   · have hi : i = 9 := by omega
     have hr : r = 0 := by omega
     have hll : ¬ bs.length < 10 := by omega
     subst hr
     by_cases hge : 128 ≤ bs[i].toNat
     · rw [if_pos hge,if_pos hge]
       simp only [getF,hll,if_false,hi]
       cases bs.drop (9 + 1) with
       | nil => simp [getM]
       | cons c q => simp [getM]
     · rw [if_neg hge,if_neg hge]
       have : (0 < i ∧ bs[i].toNat = 0) ∨ (i = 9 ∧ 1 < bs[i].toNat) := .inr ⟨hi,by omega⟩
       rw [if_pos this,if_pos this]
theorem getL_M (bs : List UInt8) : getL bs = getM 0 0 bs := by
 unfold getL
 have := getF_M bs (min bs.length 10) 0 0 (by omega) (by simp)
 simpa using this
theorem getM_end : ∀ (p : List UInt8) (i u : Nat) (c : UInt8) (q : List UInt8),(∀ d ∈ p,128 ≤ d.toNat) → c.toNat < 128 → i + p.length ≤ 9 →
   getM i u (p ++ c :: q) = if (0 < i + p.length ∧ c.toNat = 0) ∨ (i + p.length = 9 ∧ 1 < c.toNat) then (0,0,4) else (zg ((u + valU (p ++ [c]) * 128 ^ i : Nat) : Int),i + p.length + 1,0)
 | [],i,u,c,q,hp,hc,h => by
   have h' : ¬ i = 10 := by simp at h; omega
   have e : valU ([] ++ [c]) = c.toNat := by simp only [List.nil_append,valU]; omega
   simp only [List.nil_append,getM,if_neg h',if_neg (show ¬ 128 ≤ c.toNat by omega),List.length_nil,Nat.add_zero]
   rw [List.nil_append] at e
   rw [e]
 | d :: p,i,u,c,q,hp,hc,h => by
   have hd := hp d (by simp)
   simp only [List.length_cons] at h
   simp only [List.cons_append,getM,if_neg (show ¬ i = 10 by omega),if_pos hd]
   rw [getM_end p (i + 1) _ c q (fun x hx => hp x (by simp [hx])) hc (by omega)]
   have e : i + 1 + p.length = i + (d :: p).length := by simp; omega
   rw [e]
   have e2 : u + d.toNat % 128 * 128 ^ i + valU (p ++ [c]) * 128 ^ (i + 1) = u + valU (d :: (p ++ [c])) * 128 ^ i := by
     simp only [valU,Nat.pow_succ,Nat.add_mul]
     rw [Nat.mul_comm (128 ^ i) 128,← Nat.mul_assoc,Nat.mul_comm (valU (p ++ [c])) 128]
     omega
   rw [e2]
theorem getL_put (u : Nat) (hu : u < 18446744073709551616) (q : List UInt8) : getL (putU u ++ q) = (zg (u : Int),(putU u).length,0) := by
 obtain ⟨p,c,e1,e2,e3,e4⟩ := put_shape u
 have hl := zfg u hu
 have hv := val_put u
 have hs := e1
 rw [e1] at hl hv ⊢
 simp only [List.length_append,List.length_cons,List.length_nil] at hl
 rw [getL_M,List.append_assoc,List.singleton_append,getM_end p 0 0 c q e2 e3 (by omega)]
 have hc := (canon p c e2 e3 (by omega)).1 (by rw [hv,Nat.mod_eq_of_lt hu]; exact hs)
 simp only [Nat.zero_add] at hc ⊢
 rw [if_neg hc,hv]
 simp
theorem zg_zz (n : Int) : zg (zz n) = n := by
 unfold zg zz
 repeat' split
 all_goals omega
end Go.Proofs.Ytlpjdgkpapjldaa
namespace Go.Proofs.Ytlpjdgkpapjldaa
open Ax
section
set_option maxRecDepth 100000
theorem zbl (bs : List UInt8) (e : Int) : (numL bs e).length ≤ bs.length := by
 unfold numL; split <;> simp
end
end Go.Proofs.Ytlpjdgkpapjldaa
