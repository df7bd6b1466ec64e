/- What the proofs of this seat stand on; it asks nothing. -/
import Derived.Test.YtffdpbbbdmmdlaaYa08
set_option linter.unusedSimpArgs false
set_option linter.unusedVariables false
namespace Go.Proofs.Ytffdpbbbdmmdlaa
open Ax
def tnL (n P : Nat) : List (List Int) := (List.range n).map (tnK n P)
def tnS : zaz
 | [.sg 1 xs f,.w (.int .i64 p)],[] => ⟨xs.length ≤ 1000000 ∧ ∃ l : List (List UInt8),xs = l.map AV.str,.sg 1 ((tnL (srtU (xs.map strB)).length (clpN p)).map siA) (decide ((srtU (xs.map strB)).length = 0)),[]⟩
 | _,_ => zeh
theorem zqw {w w' : World} (h : Fram w w' (· ∈ ([] : List Nat))) : Go.RowKit.Below w.heap.size w w' :=
 ⟨h.os,h.tape,h.output,h.size,fun k hk => h.same k hk (by simp)⟩
theorem zsm : ∀ (l : List (List Int)),(l.map siA).flatMap AV.leaves = l.map siA
 | [] => rfl
 | s :: r => by rw [List.map_cons,List.flatMap_cons,zsm r]; rfl
theorem zry : zbk Try.prog 13 tnS := by
 intro xs pins hp hcl w bad pb vs hpb hnd hbad hpins hlen hxs
 unfold tnS at hp ⊢
 split at hp
 ·rename_i ys f p
  obtain ⟨hL,l,rfl⟩ := hp
  rw [List.length_map] at hL
  rw [zba]
  obtain rfl : pb = [] := by cases pb with
   | nil => rfl
   | cons b r => simp at hpb
  obtain ⟨v,v1,rfl⟩ : ∃ v v1,vs = [v,v1] := by
   match vs,hlen with
   | [v,v1],_ => exact ⟨v,v1,rfl⟩
  have hv : R w (zap [] bad) (.sg 1 (l.map AV.str) f) v := hxs 0 (by simp) (by simp)
  have hv1 : R w (zap [] bad) (.w (.int .i64 p)) v1 := hxs 1 (by simp) (by simp)
  obtain rfl := hv1.wv
  obtain ⟨U,hU⟩ : ∃ U,srtU l = U := ⟨_,rfl⟩
  have hUl := zcx l
  rw [hU] at hUl ⊢
  have hS : Calls Try.prog 8 #[v] w fun e w' => (∃ a cap,e = .returned (.slice a U.length cap)) ∧ Go.RowKit.Below w.heap.size w w' := by
   refine Calls.mono (zhj [.sg 1 (l.map AV.str) f] [] ⟨by simpa using hL,l,rfl⟩ rfl w bad [] [v] rfl List.nodup_nil hbad (fun k h => absurd h (by simp)) rfl (fun j h h' => by
    have : j = 0 := by simp at h; omega
    subst this; exact hv)) ?_
   rintro e w' ⟨u,loc',rfl,hg⟩
   refine ⟨?_,zqw hg.fram⟩
   have hr := hg.r
   have hr : R w' loc' (.sg 1 ((srtU ((l.map AV.str).map strB)).map AV.str) (empT (l.map AV.str))) u := hr
   rw [zba,hU] at hr
   cases hr with
   | sg _ _ _ a cap cs hd hs hc hl hx h => exact ⟨a,cap,by rw [List.length_map]⟩
  have hC : ∀ W : World,Calls Try.prog 22 #[.int .i64 p] W fun e w' => e = .returned (.int .i64 (clpN p : Int)) ∧ Go.RowKit.Below W.heap.size W w' := by
   intro W
   refine Calls.mono (zvr [.w (.int .i64 p)] [] trivial rfl W (fun _ => False) [] [.int .i64 p] rfl List.nodup_nil (fun b h => h.elim) (fun k h => absurd h (by simp)) rfl (fun j h h' => by
    have : j = 0 := by simp at h; omega
    subst this; exact .w _ rfl)) ?_
   rintro e w' ⟨u,loc',rfl,hg⟩
   have hr : R w' loc' (.w (.int .i64 ((clpN p : Nat) : Int))) u := hg.r
   obtain rfl := hr.wv
   exact ⟨rfl,zqw hg.fram⟩
  have hUn : U.length ≤ 1000000 := by omega
  refine Calls.mono (yjr w v p U.length (clpN p) hUn (zgt p) hS hC) ?_
  rintro e1 w' ⟨hB,hres⟩
  have hf : ∀ k,(zap [] bad).m k = .free := fun k => by
   show (match ([] : List Nat)[k]? with | some b => L.here b | none => L.free) = _
   rw [List.getElem?_eq_none (by simp)]
  have hmut : ∀ b,w.heap.size ≤ b → ¬ Mut (zap [] bad) b := by
   rintro b hb (h | ⟨id,h⟩)
   ·have := (hbad b h).1; omega
   ·rw [hf id] at h; cases h
  have fin : ∀ (q : Prop) v',R w' (zap [] bad) (.sg 1 ((tnL U.length (clpN p)).map siA) (decide (U.length = 0))) v' → ∃ v loc',Ending.returned v' = .returned v ∧ yjm w bad [] ⟨q,.sg 1 ((tnL U.length (clpN p)).map siA) (decide (U.length = 0)),[]⟩ v w' loc' := by
   intro q v' hr
   refine ⟨v',zap [] bad,rfl,hr,rfl,?_,?_,?_,fun k _ => hf k,?_,?_⟩
   ·intro k hk; simp at hk
   ·intro k hk; simp at hk
   ·intro k b' _ h2; rw [hf k] at h2; cases h2
   ·intro i j b' h1 _; rw [hf i] at h1; cases h1
   ·exact ⟨hB.os,hB.tape,hB.output,hB.size,fun b' hb' _ => hB.block b' hb',fun b' c' e' f' hE _ => by simp at hE⟩
  rcases hres with ⟨hn0,rfl⟩ | ⟨hn0,B,hBw,rfl,c,hc,hcs,hrow,hdis⟩
  ·refine fin _ _ ?_
   rw [hn0,decide_eq_true rfl]
   exact .sg 1 [] true none 0 [] ⟨Nat.le_refl _,Nat.zero_le _,fun _ => rfl⟩ (by simp) ⟨.inl rfl⟩ rfl (by simp) (by simp)
  ·refine fin _ _ ?_
   have hne : decide (U.length = 0) = false := decide_eq_false (by omega)
   rw [hne]
   have hlt : B < w'.heap.size := by
    rcases Nat.lt_or_ge B w'.heap.size with h | h
    ·exact h
    ·rw [Array.getElem?_eq_none h] at hc; cases hc
   have htl : (tnL U.length (clpN p)).length = U.length := by unfold tnL; simp
   have hml : ((tnL U.length (clpN p)).map siA).length = U.length := by rw [List.length_map,htl]
   have hleaf : ∀ (j : Nat) (h : j < ((tnL U.length (clpN p)).map siA).length),((tnL U.length (clpN p)).map siA)[j] = .si (tnK U.length (clpN p) j) false := by
    intro j h
    unfold tnL
    simp [siA]
   have hcl2 : c.toList.length = U.length := by simpa using hcs
   have hcap : U.length ≤ maxLen := by simp [maxLen]; omega
   have hgo : R w' (zap [] bad) (.sg 1 ((tnL U.length (clpN p)).map siA) false) (.slice (some ⟨B,0,none⟩) ((tnL U.length (clpN p)).map siA).length U.length) := by
    refine .sg 1 _ false (some ⟨B,0,none⟩) U.length c.toList ⟨by rw [hml]; exact Nat.le_refl _,hcap,fun h => by cases h⟩ ?_ ⟨.inr ⟨B,0,rfl,hmut B hBw,hlt,?_⟩⟩ ?_ ?_ ?_
    ·intro x hx
     obtain ⟨y,_,rfl⟩ := List.mem_map.1 hx
     rfl
    ·intro j hj
     have hj' : j < c.size := by simpa using hj
     rw [Nat.zero_add,cell_of_row w' B j c _ (0,0) hc,Array.getElem?_eq_getElem hj']
     simp
    ·rw [zsm,hml,hcl2]
    ·intro j hj
     simp only [zsm] at hj ⊢
     rw [hleaf j hj]
     exact ⟨rfl,rfl⟩
    ·intro j hj hj'
     simp only [zsm] at hj ⊢
     rw [hleaf j hj]
     have hjc : j < c.size := by simpa using hj'
     have hr := hrow j hjc
     have e : c.toList[j] = c[j] := by simp
     rw [e]
     obtain ⟨_,h2 | ⟨g,cap,cur,hv2,hg,hcur,hnc,hcm,hcu,htake⟩⟩ := hr
     ·obtain ⟨h2,h3⟩ := h2
      rw [h2]
      have : tnK U.length (clpN p) j = [] := List.eq_nil_of_length_eq_zero h3
      rw [this]
      exact .si [] false none 0 ⟨Nat.le_refl _,Nat.zero_le _,fun h => by cases h⟩ ⟨.inl rfl⟩
     ·rw [hv2]
      refine .si _ false (some ⟨g,0,none⟩) cap ⟨hnc,hcm,fun h => by cases h⟩ ⟨.inr ⟨g,0,rfl,hmut g (by omega),?_,?_⟩⟩
      ·rcases Nat.lt_or_ge g w'.heap.size with h | h
       ·exact h
       ·rw [Array.getElem?_eq_none h] at hcur; cases hcur
      ·intro i hi
       rw [Nat.zero_add,cell_of_row w' g i cur _ (0,0) hcur]
       have h4 : cur.toList[i]? = ((tnK U.length (clpN p) j).map word)[i]? := by
        have hh : (tnK U.length (clpN p) j).map word = (tnK U.length (clpN p) j).map (Value.int .i64) := rfl
        rw [hh,← htake,List.getElem?_take,if_pos (by simpa using hi)]
       rw [← Array.getElem?_toList,h4,List.getElem?_eq_getElem hi]
   rw [hml] at hgo
   exact hgo
 ·exact hp.elim
end Go.Proofs.Ytffdpbbbdmmdlaa
namespace Go.Proofs.Ytffdpbbbdmmdlaa
open Ax
def rgGS : zaz
 | [.sg 1 xs f,.w (.int .i64 p)],[] => ⟨xs.length ≤ 1000000 ∧ ∃ l : List (List UInt8),xs = l.map AV.str,.sg 1 ((rgF (srtU (xs.map strB)).length p).map siA) false,[]⟩
 | _,_ => zeh
def SrgG (f : FuncId) : Option zaz :=
 match f with
 | 8 => some sdGS
 | 22 => some clpS
 | _ => none
theorem yoj : Fns Try.prog SrgG := by
 intro f s h
 unfold SrgG at h
 split at h
 ·injection h with h; subst h; exact ⟨⟨_,Try.func8,by kernel_rfl,by kernel_rfl⟩,zhj⟩
 ·injection h with h; subst h; exact ⟨⟨_,Try.func22,by kernel_rfl,by kernel_rfl⟩,zvr⟩
 ·cases h
section
set_option maxRecDepth 100000
set_option maxHeartbeats 4000000
theorem znp : zbk Try.prog 11 rgGS := by
 refine zbm (S := SrgG) (T := ty) mixed ty_ok yoj Try.func11 (c := Try.f11.body.getD .skip) (by kernel_rfl) (by kernel_rfl) (fun xs pins hp _ => ?_)
 unfold rgGS at hp ⊢
 split at hp
 ·rename_i xs f p _
  obtain ⟨hL,l0,rfl⟩ := hp
  rw [List.length_map] at hL
  refine ⟨by simp,?_⟩
  have hex2 : ∃ es : List (List UInt8),l0.map AV.str = es.map AV.str := ⟨l0,rfl⟩
  have hst0 := zba l0
  have hl0 : (l0.map AV.str).length = l0.length := by simp
  have hUl := zcx l0
  unfold rgF
  rw [hst0]
  obtain ⟨E,hE⟩ : ∃ E,empT (l0.map AV.str) = E := ⟨_,rfl⟩
  obtain ⟨l,hl⟩ : ∃ l,srtU l0 = l := ⟨_,rfl⟩
  rw [hl] at hUl ⊢
  have hlp : (l.map AV.str).length = l.length := by simp
  have hPl := zgt p
  obtain ⟨P,hP⟩ : ∃ P,clpN p = P := ⟨_,rfl⟩
  rw [hP] at hPl ⊢
  obtain ⟨n,hn⟩ : ∃ n,l.length = n := ⟨_,rfl⟩
  rw [hn] at hUl hlp ⊢
  have hL1 : n ≤ 1000000 := by omega
  have hql := Nat.div_le_self P n
  have hMv : ∀ k,zcu P n k = P / n + (if k < P % n then 1 else 0) := fun k => rfl
  have hq : Int.tdiv (P : Int) (n : Int) = ((P / n : Nat) : Int) := rfl
  have hr : Int.tmod (P : Int) (n : Int) = ((P % n : Nat) : Int) := rfl
  obtain ⟨Q,hQ⟩ : ∃ Q,P / n = Q := ⟨_,rfl⟩
  obtain ⟨R,hR⟩ : ∃ R,P % n = R := ⟨_,rfl⟩
  rw [hQ] at hql hq
  rw [hR] at hr
  simp only [hQ,hR] at hMv
  have e4 : ((Q : Int) + 9223372036854775808) % 18446744073709551616 - 9223372036854775808 = (Q : Int) := by omega
  unfold Try.f11
  simp only [go_sem,zaa,↓reduceIte,ty,SrgG,sdGS,clpS,hlp,hl0,hL,hex2,hst0,hl,hE,hP,zbh]
  refine zas ⟨fun m σ => ∃ (k : Nat),m = n - k ∧ k ≤ n ∧
    σ = ⟨[.sg 1 (l0.map .str) f,.w (.int .i64 p),.junk,.junk,.sg 1 [] true,.w (.int .i64 n),.w (.int .i64 P),.ms 4 1 0 k,.w (.int .i64 (rgK P n k).2),.junk,.junk,.junk,.junk,.junk,.junk,.junk,.junk,.w (.int .i64 n),.w (.int .i64 k),.junk,.junk,.junk,.junk,.junk,.junk,.junk,.junk,.junk,.junk,.junk,.junk,.junk,.junk,.junk,.junk,.junk,.junk,.junk,.junk,.junk,.junk,.junk,.junk,.junk,.junk,.junk,.junk],[(4,.g 1 ((rgK P n k).1.map siA))],5⟩,?_,?_⟩
  ·refine ⟨_,_,(zgk 7 1 (.g 1 []) ⟨by decide,rfl⟩ (by exact trivial)).trans (zaf [0,1,2,3,100] rfl rfl rfl ?_ ?_),0,rfl,by omega,rfl⟩
   ·simp only [ssT,zai,zaj,setSlot,gOf,AV.ren,renL,Blk.ren,Ax.look,Ax.put,reduceCtorEq,↓reduceIte,Nat.reduceEqDiff,Nat.reduceLT,Nat.reduceAdd,List.length_append,List.length_cons,List.length_nil,Option.some.injEq]; try simp [rgK]
   ·simp only [ssT,zai,zaj,setSlot,gOf,AV.ren,renL,Blk.ren,Ax.look,Ax.put,reduceCtorEq,↓reduceIte,Nat.reduceEqDiff,Nat.reduceLT,Nat.reduceAdd,List.length_append,List.length_cons,List.length_nil,Option.some.injEq]; try simp [rgK,renL]
  ·rintro m σ ⟨k,rfl,hk,rfl⟩
   have e1 : ((k : Int) + 1 + 9223372036854775808) % 18446744073709551616 - 9223372036854775808 = ((k + 1 : Nat) : Int) := by omega
   have hrl := ymi P n k
   have hrn := zhl P n k
   have hml := zmt P n k
   have hkp : k * (P + 1) ≤ 1000000 * 1001 := Nat.mul_le_mul (by omega) (by omega)
   by_cases hkl : k < n
   ·have d3 : decide ((k : Int) < (n : Int)) = true := decide_eq_true (by omega)
    have hn0 : ((n : Int) = 0) = False := eq_false (by omega)
    have hnn : ((n : Int) ≠ 0) = True := eq_true (by omega)
    have hnx : (rgK P n (k + 1)) = ((rgK P n k).1 ++ [iotI (rgK P n k).2 (zcu P n k)],(rgK P n k).2 + zcu P n k) := rfl
    obtain ⟨L,s,hLs⟩ : ∃ L s,rgK P n k = (L,s) := ⟨_,_,rfl⟩
    rw [hLs] at hrl hrn hnx ⊢
    simp only at hrl hrn hnx ⊢
    obtain ⟨M,hM⟩ : ∃ M,zcu P n k = M := ⟨_,rfl⟩
    rw [hM] at hml hnx
    have hMk := hMv k
    rw [hM] at hMk
    by_cases hkR : k < R
    ·rw [if_pos hkR] at hMk
     have d4 : decide ((k : Int) < (R : Int)) = true := decide_eq_true (by omega)
     have e5 : ((Q : Int) + 1 + 9223372036854775808) % 18446744073709551616 - 9223372036854775808 = (M : Int) := by omega
     simp only [go_sem,zaa,↓reduceIte,ty,SrgG,hn0,hnn,hq,hr,e4,e5,d3,d4]
     have hrl2 : (L.map siA).length = k := by simp [hrn]
     refine zas ⟨fun m σ => ∃ (j : Nat),m = M - j ∧ j ≤ M ∧
       σ = ⟨[.sg 1 (l0.map .str) f,.w (.int .i64 p),.junk,.junk,.sg 1 [] true,.w (.int .i64 n),.w (.int .i64 P),.ms 4 1 0 k,.w (.int .i64 ((s + j : Nat) : Int)),.w (.int .i64 k),.junk,.ms 5 1 0 j,.junk,.junk,.junk,.junk,.junk,.w (.int .i64 n),.w (.int .i64 k),.junk,.junk,.junk,.junk,.junk,.junk,.junk,.junk,.junk,.junk,.junk,.junk,.w (.int .i64 M),.w (.int .i64 j),.junk,.junk,.junk,.junk,.junk,.junk,.junk,.junk,.junk,.junk,.junk,.junk,.junk,.junk],[(4,.g 1 (L.map siA)),(5,.i (iotI s j))],6⟩,?_,?_⟩
     ·refine ⟨_,_,(zgk 11 1 (.i []) rfl (by exact trivial)).trans (zaf [0,1,2,3,4,149] rfl rfl rfl ?_ ?_),0,rfl,by omega,rfl⟩
      ·simp only [ssT,zai,zaj,setSlot,gOf,AV.ren,renL,Blk.ren,Ax.look,Ax.put,reduceCtorEq,↓reduceIte,Nat.reduceEqDiff,Nat.reduceLT,Nat.reduceAdd,List.length_append,List.length_cons,List.length_nil,Option.some.injEq,zde,zbi]; try simp
      ·simp only [ssT,zai,zaj,setSlot,gOf,AV.ren,renL,Blk.ren,Ax.look,Ax.put,reduceCtorEq,↓reduceIte,Nat.reduceEqDiff,Nat.reduceLT,Nat.reduceAdd,List.length_append,List.length_cons,List.length_nil,Option.some.injEq,zde,zbi]; try simp [iotI]
     ·rintro m σ ⟨j,rfl,hj,rfl⟩
      have e6 : ((j : Int) + 1 + 9223372036854775808) % 18446744073709551616 - 9223372036854775808 = ((j + 1 : Nat) : Int) := by omega
      have e7 : (((s + j : Nat) : Int) + 1 + 9223372036854775808) % 18446744073709551616 - 9223372036854775808 = ((s + (j + 1) : Nat) : Int) := by omega
      have hil := zkn s j
      have hsn := zur s j
      by_cases hjm : j < M
      ·have d6 : decide ((j : Int) < (M : Int)) = true := decide_eq_true (by omega)
       simp only [go_sem,zaa,↓reduceIte,ty,SrgG,d6,e6,e7,hil,hsn,zde]
       repeat (first | refine And.intro (by omega) ?_ | refine And.intro (by unfold top; omega) ?_)
       refine ⟨M - (j + 1),_,by omega,zaf [0,1,2,3,4,38] rfl rfl rfl ?_ ?_,j + 1,rfl,by omega,rfl⟩
       ·simp only [ssT,zai,zaj,setSlot,gOf,AV.ren,renL,Blk.ren,Ax.look,Ax.put,reduceCtorEq,↓reduceIte,Nat.reduceEqDiff,Nat.reduceLT,Nat.reduceAdd,List.length_append,List.length_cons,List.length_nil,Option.some.injEq,zde,zbi]; try simp
       ·simp only [ssT,zai,zaj,setSlot,gOf,AV.ren,renL,Blk.ren,Ax.look,Ax.put,reduceCtorEq,↓reduceIte,Nat.reduceEqDiff,Nat.reduceLT,Nat.reduceAdd,List.length_append,List.length_cons,List.length_nil,Option.some.injEq,zde,zbi]; try simp
      ·have d6 : decide ((j : Int) < (M : Int)) = false := decide_eq_false (by omega)
       obtain rfl : j = M := by omega
       simp only [go_sem,zaa,↓reduceIte,ty,SrgG,d6,hil,zde]
       have hdle : decide (0 + j ≤ (iotI s j).length) = true := decide_eq_true (by rw [hil]; omega)
       have htk : List.take j (iotI s j) = iotI s j := List.take_of_length_le (by rw [hil]; omega)
       refine ⟨_,znc 5 11 (iotI s j) rfl (by simp [slot,AV.ids]),?_⟩
       simp only [fiL,fiH,AV.fi,Blk.fi,yho,Nat.reduceBEq,cond_true,cond_false,hdle,Bool.and_true,beq_self_eq_true,Bool.true_and,List.drop_zero,htk]
       simp only [go_sem,zaa,↓reduceIte,ty,SrgG,hrl2,e1,zde]
       have hap : L.map siA ++ [AV.si (iotI s j) false] = (L ++ [iotI s j]).map siA := by simp [siA]
       repeat (refine And.intro (by first | omega | (unfold top; omega)) ?_)
       refine ⟨n - (k + 1),_,by omega,zaf [0,1,2,3,38] rfl rfl rfl ?_ ?_,k + 1,rfl,by omega,rfl⟩
       ·simp only [ssT,zai,zaj,setSlot,gOf,AV.ren,renL,Blk.ren,Ax.look,Ax.put,reduceCtorEq,↓reduceIte,Nat.reduceEqDiff,Nat.reduceLT,Nat.reduceAdd,List.length_append,List.length_cons,List.length_nil,Option.some.injEq,hnx]; try simp
       ·simp only [ssT,zai,zaj,setSlot,gOf,AV.ren,renL,Blk.ren,Ax.look,Ax.put,reduceCtorEq,↓reduceIte,Nat.reduceEqDiff,Nat.reduceLT,Nat.reduceAdd,List.length_append,List.length_cons,List.length_nil,Option.some.injEq,hnx,hap,zbi]; try simp [zbi]
    ·rw [if_neg hkR,Nat.add_zero] at hMk
     subst hMk
     have d4 : decide ((k : Int) < (R : Int)) = false := decide_eq_false (by omega)
     simp only [go_sem,zaa,↓reduceIte,ty,SrgG,hn0,hnn,hq,hr,e4,d3,d4]
     have hrl2 : (L.map siA).length = k := by simp [hrn]
     refine zas ⟨fun m σ => ∃ (j : Nat),m = M - j ∧ j ≤ M ∧
       σ = ⟨[.sg 1 (l0.map .str) f,.w (.int .i64 p),.junk,.junk,.sg 1 [] true,.w (.int .i64 n),.w (.int .i64 P),.ms 4 1 0 k,.w (.int .i64 ((s + j : Nat) : Int)),.w (.int .i64 k),.junk,.ms 5 1 0 j,.junk,.junk,.junk,.junk,.junk,.w (.int .i64 n),.w (.int .i64 k),.junk,.junk,.junk,.junk,.junk,.junk,.junk,.junk,.junk,.junk,.junk,.junk,.w (.int .i64 M),.w (.int .i64 j),.junk,.junk,.junk,.junk,.junk,.junk,.junk,.junk,.junk,.junk,.junk,.junk,.junk,.junk],[(4,.g 1 (L.map siA)),(5,.i (iotI s j))],6⟩,?_,?_⟩
     ·refine ⟨_,_,(zgk 11 1 (.i []) rfl (by exact trivial)).trans (zaf [0,1,2,3,4,125] rfl rfl rfl ?_ ?_),0,rfl,by omega,rfl⟩
      ·simp only [ssT,zai,zaj,setSlot,gOf,AV.ren,renL,Blk.ren,Ax.look,Ax.put,reduceCtorEq,↓reduceIte,Nat.reduceEqDiff,Nat.reduceLT,Nat.reduceAdd,List.length_append,List.length_cons,List.length_nil,Option.some.injEq,zde,zbi]; try simp
      ·simp only [ssT,zai,zaj,setSlot,gOf,AV.ren,renL,Blk.ren,Ax.look,Ax.put,reduceCtorEq,↓reduceIte,Nat.reduceEqDiff,Nat.reduceLT,Nat.reduceAdd,List.length_append,List.length_cons,List.length_nil,Option.some.injEq,zde,zbi]; try simp [iotI]
     ·rintro m σ ⟨j,rfl,hj,rfl⟩
      have e6 : ((j : Int) + 1 + 9223372036854775808) % 18446744073709551616 - 9223372036854775808 = ((j + 1 : Nat) : Int) := by omega
      have e7 : (((s + j : Nat) : Int) + 1 + 9223372036854775808) % 18446744073709551616 - 9223372036854775808 = ((s + (j + 1) : Nat) : Int) := by omega
      have hil := zkn s j
      have hsn := zur s j
      by_cases hjm : j < M
      ·have d6 : decide ((j : Int) < (M : Int)) = true := decide_eq_true (by omega)
       simp only [go_sem,zaa,↓reduceIte,ty,SrgG,d6,e6,e7,hil,hsn,zde]
       repeat (first | refine And.intro (by omega) ?_ | refine And.intro (by unfold top; omega) ?_)
       refine ⟨M - (j + 1),_,by omega,zaf [0,1,2,3,4,38] rfl rfl rfl ?_ ?_,j + 1,rfl,by omega,rfl⟩
       ·simp only [ssT,zai,zaj,setSlot,gOf,AV.ren,renL,Blk.ren,Ax.look,Ax.put,reduceCtorEq,↓reduceIte,Nat.reduceEqDiff,Nat.reduceLT,Nat.reduceAdd,List.length_append,List.length_cons,List.length_nil,Option.some.injEq,zde,zbi]; try simp
       ·simp only [ssT,zai,zaj,setSlot,gOf,AV.ren,renL,Blk.ren,Ax.look,Ax.put,reduceCtorEq,↓reduceIte,Nat.reduceEqDiff,Nat.reduceLT,Nat.reduceAdd,List.length_append,List.length_cons,List.length_nil,Option.some.injEq,zde,zbi]; try simp
      ·have d6 : decide ((j : Int) < (M : Int)) = false := decide_eq_false (by omega)
       obtain rfl : j = M := by omega
       simp only [go_sem,zaa,↓reduceIte,ty,SrgG,d6,hil,zde]
       have hdle : decide (0 + j ≤ (iotI s j).length) = true := decide_eq_true (by rw [hil]; omega)
       have htk : List.take j (iotI s j) = iotI s j := List.take_of_length_le (by rw [hil]; omega)
       refine ⟨_,znc 5 11 (iotI s j) rfl (by simp [slot,AV.ids]),?_⟩
       simp only [fiL,fiH,AV.fi,Blk.fi,yho,Nat.reduceBEq,cond_true,cond_false,hdle,Bool.and_true,beq_self_eq_true,Bool.true_and,List.drop_zero,htk]
       simp only [go_sem,zaa,↓reduceIte,ty,SrgG,hrl2,e1,zde]
       have hap : L.map siA ++ [AV.si (iotI s j) false] = (L ++ [iotI s j]).map siA := by simp [siA]
       repeat (refine And.intro (by first | omega | (unfold top; omega)) ?_)
       refine ⟨n - (k + 1),_,by omega,zaf [0,1,2,3,38] rfl rfl rfl ?_ ?_,k + 1,rfl,by omega,rfl⟩
       ·simp only [ssT,zai,zaj,setSlot,gOf,AV.ren,renL,Blk.ren,Ax.look,Ax.put,reduceCtorEq,↓reduceIte,Nat.reduceEqDiff,Nat.reduceLT,Nat.reduceAdd,List.length_append,List.length_cons,List.length_nil,Option.some.injEq,hnx]; try simp
       ·simp only [ssT,zai,zaj,setSlot,gOf,AV.ren,renL,Blk.ren,Ax.look,Ax.put,reduceCtorEq,↓reduceIte,Nat.reduceEqDiff,Nat.reduceLT,Nat.reduceAdd,List.length_append,List.length_cons,List.length_nil,Option.some.injEq,hnx,hap,zbi]; try simp [zbi]
   ·have d3 : decide ((k : Int) < (n : Int)) = false := decide_eq_false (by omega)
    obtain rfl : k = n := by omega
    have hrl2 : ((rgK P k k).1.map siA).length = k := by simp [hrn]
    simp only [go_sem,zaa,↓reduceIte,ty,SrgG,d3]
    have hdle : decide (0 + k ≤ ((rgK P k k).1.map siA).length) = true := decide_eq_true (by rw [hrl2]; omega)
    have htk : List.take k ((rgK P k k).1.map siA) = (rgK P k k).1.map siA := List.take_of_length_le (by rw [hrl2]; omega)
    refine ⟨_,zhf 4 1 7 ((rgK P k k).1.map siA) rfl (zkz _) (by simp [slot,AV.ids]),?_⟩
    simp only [fgL,fgH,AV.fg,Blk.fg,Nat.reduceBEq,cond_true,cond_false,hdle,Bool.and_true,beq_self_eq_true,Bool.true_and,List.drop_zero,htk]
    simp only [go_sem,zaa,↓reduceIte,ty,SrgG]
 ·exact hp.elim
end
end Go.Proofs.Ytffdpbbbdmmdlaa
namespace Go.Proofs.Ytffdpbbbdmmdlaa
open Ax
theorem zgo : ∀ (l : List (List Int)) (i : Nat) (h : i < l.length),slot (l.map siA) i = .si l[i] false
 | _ :: _,0,_ => rfl
 | _ :: r,i + 1,h => by
  simp only [List.map_cons,slot,List.getElem_cons_succ]
  exact zgo r i (by simpa using h)
end Go.Proofs.Ytffdpbbbdmmdlaa
namespace Go.Proofs.Ytffdpbbbdmmdlaa
open Ax
theorem zbb (g : Nat → Nat) : ∀ (l : List (List UInt8)),renL g (l.map AV.str) = l.map AV.str
 | [] => rfl
 | x :: r => by simp only [List.map_cons,renL,zbb g r]; rfl
end Go.Proofs.Ytffdpbbbdmmdlaa
namespace Go.Proofs.Ytffdpbbbdmmdlaa
open Ax
theorem ynm {α : Type} (p : α → Bool) (l : List α) (i : Nat) (h : i < l.length) (hp : p l[i] = true) (hno : (l.drop i).findIdx p + i = l.findIdx p) : l.findIdx p = i := by
 rw [List.drop_eq_getElem_cons h,List.findIdx_cons,hp] at hno
 simpa using hno.symm
theorem yhn {α : Type} (p : α → Bool) (l : List α) (i : Nat) (h : i < l.length) (hp : p l[i] = false) (hno : (l.drop i).findIdx p + i = l.findIdx p) : (l.drop (i + 1)).findIdx p + (i + 1) = l.findIdx p := by
 rw [List.drop_eq_getElem_cons h,List.findIdx_cons,hp] at hno
 simp at hno
 omega
theorem ylc {α : Type} (p : α → Bool) (l : List α) (i : Nat) (h : l.length ≤ i) (hi : i ≤ l.length) (hno : (l.drop i).findIdx p + i = l.findIdx p) : l.findIdx p = l.length := by
 rw [List.drop_eq_nil_of_le h] at hno
 simp at hno
 omega
def znx (l : List (List UInt8)) : Bool := decide (l.length ≤ 40) && !decide (l.findIdx (fun s => decide (60 < s.length)) < l.length)
def rliT : zaz
 | [.sg 1 xs f],[] => ⟨xs.length ≤ 9223372036854775807 ∧ ∃ l : List (List UInt8),xs = l.map AV.str ∧ ∀ r ∈ l,r.length ≤ 9223372036854775807,.w (.bool (znx (xs.map strB))),[]⟩
 | _,_ => zeh
section
set_option maxRecDepth 100000
set_option maxHeartbeats 8000000
theorem zlk : zbk Try.prog 6 rliT := by
 refine zbm (S := noS) (T := ty) mixed ty_ok zki Try.func6 (c := Try.f6.body.getD .skip) (by kernel_rfl) (by kernel_rfl) (fun xs pins hp _ => ?_)
 unfold rliT at hp ⊢
 split at hp
 ·rename_i xs f _
  obtain ⟨hL,l,rfl,hd⟩ := hp
  rw [List.length_map] at hL
  have hle : (l.map AV.str).length = l.length := by simp
  rw [zba]
  unfold znx
  obtain ⟨p,hp2⟩ : ∃ p : List UInt8 → Bool,(fun s => decide (60 < s.length)) = p := ⟨_,rfl⟩
  rw [hp2]
  refine ⟨by simp,?_⟩
  unfold Try.f6
  by_cases h30 : l.length ≤ 40
  ·have q1 : decide ((40 : Int) < (l.length : Int)) = false := decide_eq_false (by omega)
   rw [decide_eq_true h30,Bool.true_and]
   simp only [go_sem,zaa,↓reduceIte,ty,noS,hle,q1]
   refine zas ⟨fun m σ => ∃ (i : Nat),m = l.length - i ∧ i ≤ l.length ∧ (l.drop i).findIdx p + i = l.findIdx p ∧
     σ = ⟨[.sg 1 (l.map AV.str) f,.junk,.w (.bool false),.w (.int .i64 i),.junk,.junk,.junk,.junk,.junk,.junk,.junk,.junk,.junk,.junk,.junk,.junk,.junk,.junk,.junk],[],4⟩,?_,?_⟩
   ·refine ⟨_,_,zaf [0,1,2,3] rfl rfl rfl ?_ ?_,0,rfl,by omega,by rw [List.drop_zero]; rfl,rfl⟩
    ·simp only [ssT,zai,zaj,setSlot,gOf,AV.ren,renL,Blk.ren,Ax.look,Ax.put,reduceCtorEq,↓reduceIte,Nat.reduceEqDiff,Nat.reduceLT,Nat.reduceAdd,List.length_append,List.length_cons,List.length_nil,Option.some.injEq,zbb]; try simp
    ·simp only [ssT,zai,zaj,setSlot,gOf,AV.ren,renL,Blk.ren,Ax.look,Ax.put,reduceCtorEq,↓reduceIte,Nat.reduceEqDiff,Nat.reduceLT,Nat.reduceAdd,List.length_append,List.length_cons,List.length_nil,Option.some.injEq]
   ·rintro m σ ⟨i,rfl,hi,hinv,rfl⟩
    have e1 : ((i : Int) + 1 + 9223372036854775808) % 18446744073709551616 - 9223372036854775808 = ((i + 1 : Nat) : Int) := by omega
    by_cases hil : i < l.length
    ·have d1x : decide ((i : Int) < l.length) = true := decide_eq_true (by omega)
     have hs1 := zbq l i hil
     have hpl : p l[i] = decide (60 < l[i].length) := by rw [← hp2]
     cases hv : p l[i] with
     | true =>
      have hfi := ynm _ l i hil hv hinv
      rw [hfi,decide_eq_true hil,Bool.not_true]
      rw [hv] at hpl
      obtain ⟨r,hr1⟩ : ∃ r,l[i] = r := ⟨_,rfl⟩
      rw [hr1] at hs1 hpl
      have hpl : 60 < r.length := of_decide_eq_true hpl.symm
      have d6 : decide ((60 : Int) < (r.length : Int)) = true := decide_eq_true (by omega)
      simp only [go_sem,zaa,↓reduceIte,ty,noS,hle,d1x,hs1,d6,Int.toNat_natCast,Bool.not_true,Bool.not_false]
      repeat (first | refine And.intro (by omega) ?_ | refine And.intro ⟨by omega,by omega⟩ ?_)
      try (refine ⟨_,Weak.refl _,?_⟩)
      try simp only [go_sem,zaa,↓reduceIte,ty,noS]
     | false =>
      have hfi := yhn _ l i hil hv hinv
      rw [hv] at hpl
      obtain ⟨r,hr1⟩ : ∃ r,l[i] = r := ⟨_,rfl⟩
      rw [hr1] at hs1 hpl
      have hpl : ¬ 60 < r.length := of_decide_eq_false hpl.symm
      have d6 : decide ((60 : Int) < (r.length : Int)) = false := decide_eq_false (by omega)
      simp only [go_sem,zaa,↓reduceIte,ty,noS,hle,d1x,hs1,d6,e1,Int.toNat_natCast,Bool.not_true,Bool.not_false]
      repeat (first | refine And.intro (by omega) ?_ | refine And.intro ⟨by omega,by omega⟩ ?_)
      refine ⟨l.length - (i + 1),_,by omega,zaf [0,1,2,3] rfl rfl rfl ?_ ?_,i + 1,rfl,by omega,hfi,rfl⟩
      ·simp only [ssT,zai,zaj,setSlot,gOf,AV.ren,renL,Blk.ren,Ax.look,Ax.put,reduceCtorEq,↓reduceIte,Nat.reduceEqDiff,Nat.reduceLT,Nat.reduceAdd,List.length_append,List.length_cons,List.length_nil,Option.some.injEq,zbb]; try simp
      ·simp only [ssT,zai,zaj,setSlot,gOf,AV.ren,renL,Blk.ren,Ax.look,Ax.put,reduceCtorEq,↓reduceIte,Nat.reduceEqDiff,Nat.reduceLT,Nat.reduceAdd,List.length_append,List.length_cons,List.length_nil,Option.some.injEq]
    ·have d1x : decide ((i : Int) < l.length) = false := decide_eq_false (by omega)
     have hfi := ylc _ l i (by omega) hi hinv
     have hnn : decide (l.length < l.length) = false := decide_eq_false (Nat.lt_irrefl _)
     rw [hfi,hnn,Bool.not_false]
     simp only [go_sem,zaa,↓reduceIte,ty,noS,hle,d1x]
     refine ⟨_,Weak.refl _,?_⟩
     simp only [go_sem,zaa,↓reduceIte,ty,noS]
  ·have q1 : decide ((40 : Int) < (l.length : Int)) = true := decide_eq_true (by omega)
   rw [decide_eq_false h30,Bool.false_and]
   simp only [go_sem,zaa,↓reduceIte,ty,noS,hle,q1]
 ·exact hp.elim
end
end Go.Proofs.Ytffdpbbbdmmdlaa
namespace Go.Proofs.Ytffdpbbbdmmdlaa
namespace Ax
abbrev Us := List (Nat × Option Blk)
def upd : Us → (Nat → Option Blk) → Nat → Option Blk
 | [],lk,id => lk id
 | (k,b) :: r,lk,id => if k = id then b else upd r lk id
def Told (o : Out) (lk : Nat → Option Blk) (r : Option (AV × Us)) : Prop := ∀ x us,r = some (x,us) → o.p ∧ o.x = x ∧ ∀ id,look o.H id = upd us lk id
section
variable {H : Heap} {lk : Nat → Option Blk} (hl : ∀ id,look H id = lk id)
def csub (ti : TyI) (ls : List AV) (f : Nat) : Option AV :=
 bif ti.d.aggr then (if f + ti.size ≤ ls.length then some (.agg ((ls.drop f).take ti.size)) else none) else (if f < ls.length then some (slot ls f) else none)
theorem zly {ti : TyI} {ls : List AV} {f : Nat} {x : AV} (h : csub ti ls f = some x) : (subv ti ls f H).p ∧ (subv ti ls f H).x = x ∧ (subv ti ls f H).H = H := by
 unfold csub at h
 unfold subv
 cases ha : ti.d.aggr <;> simp only [ha,cond_true,cond_false] at h ⊢ <;> split at h <;> simp_all
def yio (T : zab) (t : TypeId) (x : AV) (lk : Nat → Option Blk) : Option (AV × Us) :=
 match T t with
 | none => none
 | some ti => match x with
  | .cp ls => (csub ti ls 0).map fun y => (y,[])
  | .rf id s i f => match lk id with
   | some blk => bif zkj ti blk then (if s = 1 ∧ f = 0 then (csub ti blk.flat i).map fun y => (y,[]) else none) else (if s = blk.size ∧ i < blk.len then (csub ti (zag blk i) f).map fun y => (y,[]) else none)
   | none => none
  | _ => none
include hl in
theorem ybd {T : zab} {t : TypeId} {x : AV} : Told (aLoad T t x H) lk (yio T t x lk) := by
 intro y us h
 unfold yio at h
 unfold aLoad
 split at h
 ·cases h
 ·rename_i ti ht
  simp only [ht]
  split at h
  ·obtain ⟨z,hz,he⟩ := Option.map_eq_some_iff.1 h
   injection he with h1 h2; subst h1 h2
   obtain ⟨a,b,c⟩ := zly (H := H) hz
   exact ⟨a,b,fun id => by rw [c]; exact hl id⟩
  ·rename_i id s i f
   simp only [hl id]
   split at h
   ·rename_i blk hb
    simp only [hb]
    cases hm : zkj ti blk <;> simp only [hm,cond_true,cond_false] at h ⊢
    all_goals
     split at h
     ·rename_i hc
      obtain ⟨z,hz,he⟩ := Option.map_eq_some_iff.1 h
      injection he with h1 h2; subst h1 h2
      obtain ⟨a,b,c⟩ := zly (H := H) hz
      exact ⟨⟨hc,a⟩,b,fun id => by simp only [Out.and]; rw [c]; exact hl id⟩
     ·cases h
   ·cases h
  ·cases h
def yhz (blk : Blk) (i f : Nat) (x : AV) : Option Blk :=
 match blk with
 | .b bs => match x with
  | .w (.int .u8 m) => if f = 0 ∧ 0 ≤ m ∧ m < 256 then some (.b (bs.set i (UInt8.ofNat m.toNat))) else none
  | _ => none
 | .i ns => match x with
  | .w (.int .i64 m) => if f = 0 then some (.i (ns.set i m)) else none
  | _ => none
 | .g s xs => match slot xs i with
  | .agg ls => if f + x.leaves.length ≤ ls.length then some (.g s (setSlot xs i (.agg (splice ls f x.leaves)))) else none
  | _ => if f = 0 ∧ x.leaf = true then some (.g s (setSlot xs i x)) else none
 | .o _ => none
theorem ylj {blk : Blk} {i f : Nat} {x : AV} {b : Blk} (h : yhz blk i f x = some b) : (setB blk i f x).1 ∧ (setB blk i f x).2 = b := by
 cases blk with
 | b bs =>
  simp only [yhz] at h
  simp only [setB]
  split at h
  ·split at h <;> simp_all
  ·cases h
 | i ns =>
  simp only [yhz] at h
  simp only [setB]
  split at h
  ·split at h <;> simp_all
  ·cases h
 | g s xs =>
  simp only [yhz] at h
  simp only [setB]
  cases hs : slot xs i <;> simp only [hs] at h ⊢ <;> split at h <;> simp_all
 | o x => cases h
def ynv (blk : Blk) (i : Nat) (x : AV) : Option Blk :=
 match blk with
 | .b bs => match zox x.leaves with
  | some ys => if i + ys.length ≤ bs.length ∧ 0 < ys.length then some (.b (bs.take i ++ (ys ++ bs.drop (i + ys.length)))) else none
  | none => none
 | _ => none
theorem yln {blk : Blk} {i : Nat} {x : AV} {b : Blk} (h : ynv blk i x = some b) : (layB blk i x).1 ∧ (layB blk i x).2 = b := by
 unfold ynv at h
 unfold layB
 split at h
 ·split at h
  ·rename_i ys hy
   split at h
   ·rename_i hc
    injection h with h
    simp only [hy]
    exact ⟨hc,h⟩
   ·cases h
  ·cases h
 ·cases h
def yba (T : zab) (t : TypeId) (p x : AV) (lk : Nat → Option Blk) : Option (AV × Us) :=
 match T t,p with
 | some ti,.rf id s i f => match lk id with
  | some blk => bif zkj ti blk then (if s = 1 ∧ f = 0 ∧ x.leaves.length = ti.size ∧ x.okv = true then (ynv blk i x).map fun b => (.junk,[(id,some b)]) else none) else if s = blk.size ∧ i < blk.len ∧ x.leaves.length = ti.size ∧ x.okv = true then (yhz blk i f x).map fun b => (.junk,[(id,some b)]) else none
  | none => none
 | _,_ => none
theorem zal (hl : ∀ id,look H id = lk id) {nm : Nat} {b : Blk} (id : Nat) : look (put H nm b) id = upd [(nm,some b)] lk id := by
 rw [zao]; simp only [upd]; split <;> simp [hl]
include hl in
theorem yil {T : zab} {t : TypeId} {p x : AV} : Told (zit T t p x H) lk (yba T t p x lk) := by
 intro y us h
 unfold yba at h
 unfold zit
 split at h
 ·rename_i ti id s i f ht
  simp only [ht,hl id]
  split at h
  ·rename_i blk hb
   simp only [hb]
   cases hm : zkj ti blk <;> simp only [hm,cond_true,cond_false] at h ⊢
   case true =>
    split at h
    ·rename_i hc
     obtain ⟨z,hz,he⟩ := Option.map_eq_some_iff.1 h
     injection he with h1 h2; subst h1 h2
     obtain ⟨a,b⟩ := yln hz
     refine ⟨⟨hc.1,hc.2.1,hc.2.2.1,hc.2.2.2,a⟩,rfl,fun k => ?_⟩
     rw [b]; exact zal hl k
    ·cases h
   split at h
   ·rename_i hc
    obtain ⟨z,hz,he⟩ := Option.map_eq_some_iff.1 h
    injection he with h1 h2; subst h1 h2
    obtain ⟨a,b⟩ := ylj hz
    refine ⟨⟨hc.1,hc.2.1,hc.2.2.1,hc.2.2.2,a⟩,rfl,fun k => ?_⟩
    rw [b]; exact zal hl k
   ·cases h
  ·cases h
 ·cases h
def ydt (c a b : AV) : Option (AV × Us) :=
 match c with
 | .w (.bool t) => match a,b with
  | .w (.bool x),.w (.bool y) => some (.w (.bool (bif t then x else y)),[])
  | _,.w (.bool y) => if t = false then some (.w (.bool y),[]) else none
  | .w (.bool x),_ => if t = true then some (.w (.bool x),[]) else none
  | _,_ => none
 | _ => none
include hl in
theorem ylp {c a b : AV} : Told (zpx c a b H) lk (ydt c a b) := by
 intro y us h
 have key : ∀ t,ydt (.w (.bool t)) a b = some (y,us) → (zpx (.w (.bool t)) a b H).p ∧ (zpx (.w (.bool t)) a b H).x = y ∧ ∀ id,look (zpx (.w (.bool t)) a b H).H id = upd us lk id := by
  intro t h
  rcases hb : b with v | _ | _ | _ | _ | _ | _ | _ | _ | _ | _ | _ <;> subst hb <;> (try rcases hv : v with x | _ | _ | _ | _ | _ | _ | _ | _ | _ | _ | _ | _ | _ | _) <;> (try subst hv) <;>
   rcases ha : a with u | _ | _ | _ | _ | _ | _ | _ | _ | _ | _ | _ <;> subst ha <;> (try rcases hu : u with z | _ | _ | _ | _ | _ | _ | _ | _ | _ | _ | _ | _ | _ | _) <;> (try subst hu) <;>
   simp only [ydt] at h <;> first | (cases h; done) | (split at h <;> first | (cases h; done) | (injection h with h; injection h with h1 h2; subst h1 h2; exact ⟨by assumption,rfl,hl⟩)) | (injection h with h; injection h with h1 h2; subst h1 h2; exact ⟨trivial,rfl,hl⟩)
 unfold ydt at h
 split at h
 ·exact key _ h
 ·cases h
def ybl (T : zab) (nm : Nat) (e : TypeId) : Option (AV × Us) :=
 match T e with
 | some ti => bif zjs ti then (if 0 < ti.size then some (.rf nm 1 0 0,[(nm,some (.b (List.replicate ti.size 0)))]) else none) else (if 0 < ti.size then some (.rf nm ti.size 0 0,[(nm,some (.g ti.size [asv ti ti.zero]))]) else none)
 | none => none
include hl in
theorem yiu {T : zab} {nm : Nat} {e : TypeId} : Told (aAlloc T nm e H) lk (ybl T nm e) := by
 intro y us h
 unfold ybl at h
 unfold aAlloc
 split at h
 ·rename_i ti ht
  simp only [ht]
  cases hm : zjs ti <;> simp only [hm,cond_true,cond_false] at h ⊢
  all_goals
   split at h
   ·injection h with h; injection h with h1 h2; subst h1 h2
    exact ⟨by assumption,rfl,fun id => zal hl id⟩
   ·cases h
 ·cases h
def cBox (T : zab) (nm : Nat) (e : TypeId) (x : AV) : Option (AV × Us) :=
 match T e with
 | some ti => if 0 < ti.size ∧ x.leaves.length = ti.size ∧ x.okv = true then some (.rf nm ti.size 0 0,[(nm,some (.g ti.size [x]))]) else none
 | none => none
include hl in
theorem yoc {T : zab} {nm : Nat} {e : TypeId} {x : AV} : Told (aBox T nm e x H) lk (cBox T nm e x) := by
 intro y us h
 unfold cBox at h
 unfold aBox
 split at h
 ·rename_i ti ht
  simp only [ht]
  split at h
  ·injection h with h; injection h with h1 h2; subst h1 h2
   exact ⟨by assumption,rfl,fun id => zal hl id⟩
  ·cases h
 ·cases h
def yas (T : zab) (fs : List (Nat × TypeId)) : List (Nat × AV) → List AV → Option (List AV)
 | [],ls => some ls
 | (i,x) :: r,ls => match fs[i]? with
  | some (off,ty) => match T ty with
   | some ti => if x.leaves.length = ti.size ∧ x.okv = true ∧ off + ti.size ≤ ls.length then yas T fs r (splice ls off x.leaves) else none
   | none => none
  | none => none
theorem zvw {T : zab} {fs : List (Nat × TypeId)} : ∀ {ps : List (Nat × AV)} {ls zs : List AV},yas T fs ps ls = some zs → (fillS T fs ps ls).1 ∧ (fillS T fs ps ls).2 = zs
 | [],ls,zs,h => by injection h with h; exact ⟨trivial,h⟩
 | (i,x) :: r,ls,zs,h => by
  unfold yas at h
  unfold fillS
  split at h
  ·rename_i off ty hi
   simp only [hi]
   split at h
   ·rename_i ti ht
    simp only [ht]
    split at h
    ·rename_i hc
     obtain ⟨h1,h2⟩ := zvw h
     exact ⟨⟨hc.1,hc.2.1,hc.2.2,h1⟩,h2⟩
    ·cases h
   ·cases h
  ·cases h
def yaw (s : Nat) : List (Nat × AV) → List AV → Option (List AV)
 | [],ls => some ls
 | (i,x) :: r,ls => if x.leaves.length = s ∧ x.okv = true ∧ i * s + s ≤ ls.length then yaw s r (splice ls (i * s) x.leaves) else none
theorem zwa {s : Nat} : ∀ {ps : List (Nat × AV)} {ls zs : List AV},yaw s ps ls = some zs → (zpt s ps ls).1 ∧ (zpt s ps ls).2 = zs
 | [],ls,zs,h => by injection h with h; exact ⟨trivial,h⟩
 | (i,x) :: r,ls,zs,h => by
  unfold yaw at h
  unfold zpt
  split at h
  ·rename_i hc
   obtain ⟨h1,h2⟩ := zwa h
   exact ⟨⟨hc.1,hc.2.1,hc.2.2,h1⟩,h2⟩
  ·cases h
def zwd (T : zab) : List (Nat × TypeId) → Bool
 | [] => true
 | p :: r => match T p.2 with
  | some _ => zwd T r
  | none => false
theorem zwc {T : zab} : ∀ {l : List (Nat × TypeId)},zwd T l = true → allTy T l
 | [],_ => trivial
 | p :: r,h => by
  unfold zwd at h
  unfold allTy
  split at h
  ·rename_i x hx; simp only [hx]; exact zwc h
  ·cases h
def ybk (T : zab) (t : TypeId) (ps : List (Nat × AV)) : Option (AV × Us) :=
 match T t with
 | some ti => match ti.d with
  | .struct fs => bif zwd T fs then (yas T fs ps ti.zero).map fun l => (.agg l,[]) else none
  | .arr _ e => match T e with
   | some te => (yaw te.size ps ti.zero).map fun l => (.agg l,[])
   | none => none
  | _ => none
 | none => none
include hl in
theorem yit {T : zab} {t : TypeId} {ps : List (Nat × AV)} : Told (aBuild T t ps H) lk (ybk T t ps) := by
 intro y us h
 unfold ybk at h
 unfold aBuild
 split at h
 ·rename_i ti ht
  simp only [ht]
  split at h
  ·rename_i fs hd
   simp only [hd]
   cases hc : zwd T fs with
   | false => rw [hc] at h; cases h
   | true =>
    rw [hc] at h
    obtain ⟨z,hz,he⟩ := Option.map_eq_some_iff.1 h
    injection he with h1 h2; subst h1 h2
    obtain ⟨a,b⟩ := zvw hz
    exact ⟨⟨zwc hc,a⟩,by rw [b],hl⟩
  ·rename_i n e hd
   simp only [hd]
   split at h
   ·rename_i te hte
    simp only [hte]
    obtain ⟨z,hz,he⟩ := Option.map_eq_some_iff.1 h
    injection he with h1 h2; subst h1 h2
    obtain ⟨a,b⟩ := zwa hz
    exact ⟨a,by rw [b],hl⟩
   ·cases h
  ·cases h
 ·cases h
def yav : List (Nat × AV) → List UInt8 → Option (List UInt8)
 | [],bs => some bs
 | (i,x) :: r,bs => match x with
  | .w (.int .u8 m) => if i < bs.length ∧ 0 ≤ m ∧ m < 256 then yav r (bs.set i (UInt8.ofNat m.toNat)) else none
  | _ => none
theorem zvz : ∀ {ps : List (Nat × AV)} {ls zs : List UInt8},yav ps ls = some zs → (fillB ps ls).1 ∧ (fillB ps ls).2 = zs
 | [],ls,zs,h => by injection h with h; exact ⟨trivial,h⟩
 | (i,x) :: r,ls,zs,h => by
  unfold yav at h
  unfold fillB
  split at h
  ·split at h
   ·rename_i hc
    obtain ⟨h1,h2⟩ := zvz h
    exact ⟨⟨hc.1,hc.2.1,hc.2.2,h1⟩,h2⟩
   ·cases h
  ·cases h
def yat : List (Nat × AV) → List Int → Option (List Int)
 | [],ns => some ns
 | (i,x) :: r,ns => match x with
  | .w (.int .i64 m) => if i < ns.length then yat r (ns.set i m) else none
  | _ => none
theorem zvx : ∀ {ps : List (Nat × AV)} {ls zs : List Int},yat ps ls = some zs → (fillI ps ls).1 ∧ (fillI ps ls).2 = zs
 | [],ls,zs,h => by injection h with h; exact ⟨trivial,h⟩
 | (i,x) :: r,ls,zs,h => by
  unfold yat at h
  unfold fillI
  split at h
  ·split at h
   ·rename_i hc
    obtain ⟨h1,h2⟩ := zvx h
    exact ⟨⟨hc,h1⟩,h2⟩
   ·cases h
  ·cases h
def yau (s : Nat) : List (Nat × AV) → List AV → Option (List AV)
 | [],xs => some xs
 | (i,x) :: r,xs => if i < xs.length ∧ x.leaves.length = s ∧ x.okv = true then yau s r (setSlot xs i x) else none
theorem zvy {s : Nat} : ∀ {ps : List (Nat × AV)} {ls zs : List AV},yau s ps ls = some zs → (fillG s ps ls).1 ∧ (fillG s ps ls).2 = zs
 | [],ls,zs,h => by injection h with h; exact ⟨trivial,h⟩
 | (i,x) :: r,ls,zs,h => by
  unfold yau at h
  unfold fillG
  split at h
  ·rename_i hc
   obtain ⟨h1,h2⟩ := zvy h
   exact ⟨⟨hc.1,hc.2.1,hc.2.2,h1⟩,h2⟩
  ·cases h
def isZ (k : IntKind) : List AV → Bool
 | [.w (.int k' n)] => decide (k' = k) && decide (n = 0)
 | _ => false
theorem zup {k : IntKind} {l : List AV} (h : isZ k l = true) : l = [.w (.int k 0)] := by
 unfold isZ at h
 split at h
 ·simp only [Bool.and_eq_true,decide_eq_true_eq] at h
  obtain ⟨rfl,rfl⟩ := h; rfl
 ·cases h
def zgx (T : zab) (nm : Nat) (t : TypeId) (n : Nat) (ps : List (Nat × AV)) : Option (AV × Us) :=
 match T t with
 | some ti => match ti.d with
  | .slice e => match T e with
   | some te => match te.d with
    | .int .u8 => if te.size = 1 ∧ isZ .u8 te.zero = true ∧ n ≤ 16777216 then (yav ps (List.replicate n 0)).map fun l => (.ms nm 1 0 n,[(nm,some (.b l))]) else none
    | .int .i64 => if te.size = 1 ∧ isZ .i64 te.zero = true ∧ n ≤ 16777216 then (yat ps (List.replicate n 0)).map fun l => (.ms nm 1 0 n,[(nm,some (.i l))]) else none
    | _ => if 0 < te.size ∧ n * te.size ≤ 16777216 then (yau te.size ps (List.replicate n (asv te te.zero))).map fun l => (.ms nm te.size 0 n,[(nm,some (.g te.size l))]) else none
   | none => none
  | _ => none
 | none => none
include hl in
theorem zpv {T : zab} {nm : Nat} {t : TypeId} {n : Nat} {ps : List (Nat × AV)} : Told (aBuildSlice T nm t n ps H) lk (zgx T nm t n ps) := by
 intro y us h
 unfold zgx at h
 unfold aBuildSlice
 split at h
 ·rename_i ti ht
  simp only [ht]
  split at h
  ·rename_i e hd
   simp only [hd]
   split at h
   ·rename_i te hte
    simp only [hte]
    split at h
    ·rename_i hk
     simp only [hk]
     split at h
     ·rename_i hc
      obtain ⟨z,hz,he⟩ := Option.map_eq_some_iff.1 h
      injection he with h1 h2; subst h1 h2
      obtain ⟨a,b⟩ := zvz hz
      exact ⟨⟨hc.1,zup hc.2.1,hc.2.2,a⟩,rfl,fun id => by rw [b]; exact zal hl id⟩
     ·cases h
    ·rename_i hk
     simp only [hk]
     split at h
     ·rename_i hc
      obtain ⟨z,hz,he⟩ := Option.map_eq_some_iff.1 h
      injection he with h1 h2; subst h1 h2
      obtain ⟨a,b⟩ := zvx hz
      exact ⟨⟨hc.1,zup hc.2.1,hc.2.2,a⟩,rfl,fun id => by rw [b]; exact zal hl id⟩
     ·cases h
    ·rename_i hk1 hk2
     split
     ·rename_i he; exact (hk1 he).elim
     ·rename_i he; exact (hk2 he).elim
     ·split at h
      ·rename_i hc
       obtain ⟨z,hz,he⟩ := Option.map_eq_some_iff.1 h
       injection he with h1 h2; subst h1 h2
       obtain ⟨a,b⟩ := zvy hz
       exact ⟨⟨hc.1,hc.2,a⟩,rfl,fun id => by rw [b]; exact zal hl id⟩
      ·cases h
   ·cases h
  ·cases h
 ·cases h
def cNil (x : AV) (lk : Nat → Option Blk) : Option (AV × Us) :=
 match x with
 | .rf id s i f => match lk id with
  | some _ => if s ≠ 0 then some (.rf id s i f,[]) else none
  | none => none
 | .cp ls => some (.cp ls,[])
 | .fn f cs => some (.fn f cs,[])
 | _ => none
include hl in
theorem ynx {x : AV} : Told (aNil x H) lk (cNil x lk) := by
 intro y us h
 unfold cNil at h
 unfold aNil
 split at h
 ·rename_i id s i f
  simp only [hl id]
  split at h
  ·rename_i b hb
   simp only [hb]
   split at h
   ·injection h with h; injection h with h1 h2; subst h1 h2
    exact ⟨by assumption,rfl,hl⟩
   ·cases h
  ·cases h
 ·injection h with h; injection h with h1 h2; subst h1 h2; exact ⟨trivial,rfl,hl⟩
 ·injection h with h; injection h with h1 h2; subst h1 h2; exact ⟨trivial,rfl,hl⟩
 ·cases h
def cInt (op : BinOp) (k : IntKind) (a : Int) (k' : IntKind) (b : Int) : Option Value :=
 match op with
 | .shl => if 0 ≤ b then some (.int k (k.wrap (a * 2 ^ min b.toNat k.bits))) else none
 | .shr => if 0 ≤ b then some (.int k (a / 2 ^ min b.toNat k.bits)) else none
 | .add => if k = k' then some (.int k (k.wrap (a + b))) else none
 | .sub => if k = k' then some (.int k (k.wrap (a - b))) else none
 | .mul => if k = k' then some (.int k (k.wrap (a * b))) else none
 | .quo => if k = k' ∧ b ≠ 0 then some (.int k (k.wrap (a.tdiv b))) else none
 | .rem => if k = k' ∧ b ≠ 0 then some (.int k (a.tmod b)) else none
 | .and => if k = k' then some (.int k (bits .and k a b)) else none
 | .or => if k = k' then some (.int k (bits .or k a b)) else none
 | .xor => if k = k' then some (.int k (bits .xor k a b)) else none
 | .andNot => if k = k' then some (.int k (bits .andNot k a b)) else none
 | .eql => if k = k' then some (.bool (decide (a = b))) else none
 | .neq => if k = k' then some (.bool (!decide (a = b))) else none
 | .lss => if k = k' then some (.bool (decide (a < b))) else none
 | .leq => if k = k' then some (.bool (decide (a ≤ b))) else none
 | .gtr => if k = k' then some (.bool (decide (b < a))) else none
 | .geq => if k = k' then some (.bool (decide (b ≤ a))) else none
theorem yob {op : BinOp} {k k' : IntKind} {a b : Int} {v : Value} (h : cInt op k a k' b = some v) : (aInt op k a k' b).1 ∧ (aInt op k a k' b).2 = v := by
 cases op <;> simp only [cInt] at h <;> simp only [aInt] <;> split at h <;> first | (injection h with h; exact ⟨by assumption,h⟩) | cases h
def cStr (op : BinOp) (a b : List UInt8) : Option AV :=
 match op with
 | .add => if a.length + b.length ≤ 1099511627776 then some (.str (a ++ b)) else none
 | .eql => some (.w (.bool (decide (a = b))))
 | .neq => some (.w (.bool (!decide (a = b))))
 | .lss => some (.w (.bool (Op.bytesLess a b)))
 | .leq => some (.w (.bool (Op.bytesLess a b || decide (a = b))))
 | .gtr => some (.w (.bool (!(Op.bytesLess a b || decide (a = b)))))
 | .geq => some (.w (.bool (!(Op.bytesLess a b))))
 | _ => none
theorem ynw {op : BinOp} {a b : List UInt8} {v : AV} (h : cStr op a b = some v) : (aStr op a b).1 ∧ (aStr op a b).2 = v := by
 cases op <;> simp only [cStr] at h <;> simp only [aStr] <;> first | cases h | (split at h <;> first | cases h | (injection h with h; exact ⟨by assumption,h⟩)) | (injection h with h; exact ⟨trivial,h⟩)
 all_goals first | exact ⟨trivial,rfl⟩ | trivial
def cEq (op : BinOp) (r : Bool) : Option (AV × Us) :=
 match op with
 | .eql => some (.w (.bool r),[])
 | .neq => some (.w (.bool (!r)),[])
 | _ => none
include hl in
theorem ybh {op : BinOp} {r : Bool} : Told (aEq op r H) lk (cEq op r) := by
 intro y us h
 cases op <;> simp only [cEq] at h <;> first | cases h | skip
 all_goals (exact ⟨trivial,rfl,hl⟩)
def yar (T : zab) (t : TypeId) : Bool :=
 match T t with
 | some ti => match ti.d with
  | .ptr => true
  | _ => false
 | none => false
theorem zvv {T : zab} {t : TypeId} (h : yar T t = true) : isPtr T t := by
 unfold yar at h; unfold isPtr; split at h
 ·rename_i ti ht; simp only [ht]; split at h
  ·rename_i hd; simp only [hd]
  ·cases h
 ·cases h
def zyp (T : zab) (t : TypeId) : Bool :=
 match T t with
 | some ti => match ti.d with
  | .bool => true
  | _ => false
 | none => false
theorem ydq {T : zab} {t : TypeId} (h : zyp T t = true) : isBool T t := by
 unfold zyp at h; unfold isBool; split at h
 ·rename_i ti ht; simp only [ht]; split at h
  ·rename_i hd; simp only [hd]
  ·cases h
 ·cases h
def zla (T : zab) (t : TypeId) : Bool :=
 match T t with
 | some ti => match ti.d with
  | .struct _ => true
  | _ => false
 | none => false
theorem zvu {T : zab} {t : TypeId} (h : zla T t = true) : isStruct T t := by
 unfold zla at h; unfold isStruct; split at h
 ·rename_i ti ht; simp only [ht]; split at h
  ·rename_i hd; simp only [hd]
  ·cases h
 ·cases h
def ceqF (S : TypeId → AV → AV → Option Bool) (T : zab) : List (Nat × TypeId) → List AV → List AV → Option Bool
 | [],_,_ => some true
 | p :: r,xs,ys => match T p.2 with
  | none => none
  | some te => match csub te xs p.1,csub te ys p.1 with
   | some a,some b => match S p.2 a b with
    | some u => match ceqF S T r xs ys with
     | some v => some (u && v)
     | none => none
    | none => none
   | _,_ => none
def ceqV (T : zab) : Nat → TypeId → AV → AV → Option Bool
 | 0,_,_,_ => none
 | n + 1,t,x,y => match T t with
  | none => none
  | some i => match i.d with
   | .int _ => match x,y with
    | .w (.int k1 a),.w (.int k2 b) => if k1 = k2 then some (decide (a = b)) else none
    | _,_ => none
   | .bool => match x,y with
    | .w (.bool a),.w (.bool b) => some (a == b)
    | _,_ => none
   | .str => match x,y with
    | .str a,.str b => some (decide (a = b))
    | _,_ => none
   | .struct fs => match x,y with
    | .agg xs,.agg ys => ceqF (ceqV T n) T fs xs ys
    | _,_ => none
   | _ => none
theorem yii {T : zab} {S : TypeId → AV → AV → Prop × Bool} {S' : TypeId → AV → AV → Option Bool} (hS : ∀ t x y b,S' t x y = some b → (S t x y).1 ∧ (S t x y).2 = b) :
  ∀ {fs : List (Nat × TypeId)} {xs ys : List AV} {b : Bool},ceqF S' T fs xs ys = some b → (eqF S T fs xs ys).1 ∧ (eqF S T fs xs ys).2 = b
 | [],xs,ys,b,h => by injection h with h; exact ⟨trivial,h⟩
 | p :: r,xs,ys,b,h => by
  unfold ceqF at h
  unfold eqF
  split at h
  ·cases h
  ·rename_i te ht
   simp only [ht]
   split at h
   ·rename_i a c ha hc
    split at h
    ·rename_i u hu
     split at h
     ·rename_i v hv
      injection h with h
      obtain ⟨a1,a2,_⟩ := zly (H := []) ha
      obtain ⟨b1,b2,_⟩ := zly (H := []) hc
      obtain ⟨c1,c2⟩ := hS _ _ _ _ hu
      obtain ⟨d1,d2⟩ := yii hS hv
      rw [a2,b2]
      exact ⟨⟨a1,b1,c1,d1⟩,by rw [c2,d2,h]⟩
     ·cases h
    ·cases h
   ·cases h
theorem zow {T : zab} : ∀ (n : Nat) (t : TypeId) (x y : AV) (b : Bool),ceqV T n t x y = some b → (eqV T n t x y).1 ∧ (eqV T n t x y).2 = b
 | 0,t,x,y,b,h => by cases h
 | n + 1,t,x,y,b,h => by
  unfold ceqV at h
  unfold eqV
  split at h
  ·cases h
  ·rename_i i hi
   simp only [hi]
   split at h
   ·rename_i hd
    simp only [hd]
    split at h
    ·split at h
     ·injection h with h; exact ⟨by assumption,h⟩
     ·cases h
    ·cases h
   ·rename_i hd
    simp only [hd]
    split at h
    ·injection h with h; exact ⟨trivial,h⟩
    ·cases h
   ·rename_i hd
    simp only [hd]
    split at h
    ·injection h with h; exact ⟨trivial,h⟩
    ·cases h
   ·rename_i hd
    simp only [hd]
    split at h
    ·exact yii (zow n) h
    ·cases h
   ·cases h
def cBin (T : zab) (op : BinOp) (t : TypeId) (x y : AV) (lk : Nat → Option Blk) : Option (AV × Us) :=
 match x,y with
 | .w (.int k a),.w (.int k' b) => (cInt op k a k' b).map fun v => (.w v,[])
 | .str a,.str b => (cStr op a b).map fun v => (v,[])
 | .w (.bool a),.w (.bool b) => bif zyp T t then cEq op (a == b) else none
 | .rf id s _ _,.w (.pointer none) => match lk id with
  | some _ => bif decide (s ≠ 0) && yar T t then cEq op false else none
  | none => none
 | .w (.pointer none),.w (.pointer none) => bif yar T t then cEq op true else none
 | .agg xs,.agg ys => match ceqV T 4 t (.agg xs) (.agg ys) with
  | some r => bif zla T t then cEq op r else none
  | none => none
 | _,_ => none
theorem Told.and {q : Prop} {o : Out} {r : Option (AV × Us)} (h : Told o lk r) (hq : q) : Told (o.and q) lk r := fun x us e => let ⟨a,b,c⟩ := h x us e; ⟨⟨hq,a⟩,b,c⟩
theorem Told.cond {q : Prop} {b : Bool} {o : Out} {r : Option (AV × Us)} (h : Told o lk r) (hq : b = true → q) : Told (o.and q) lk (bif b then r else none) := by
 cases b with
 | true => exact h.and (hq rfl)
 | false => intro x us e; cases e
include hl in
theorem yod {T : zab} {op : BinOp} {t : TypeId} {x y : AV} : Told (aBin T op t x y H) lk (cBin T op t x y lk) := by
 intro z us h
 unfold cBin at h
 split at h
 ·obtain ⟨v,hv,he⟩ := Option.map_eq_some_iff.1 h
  injection he with h1 h2; subst h1 h2
  obtain ⟨a,b⟩ := yob hv
  exact ⟨a,by simp only [aBin,b],hl⟩
 ·obtain ⟨v,hv,he⟩ := Option.map_eq_some_iff.1 h
  injection he with h1 h2; subst h1 h2
  obtain ⟨a,b⟩ := ynw hv
  exact ⟨a,b,hl⟩
 ·exact ((ybh hl).cond (q := isBool T t) ydq) z us h
 ·rename_i id s _ _
  split at h
  ·rename_i bk hb
   have hb' : look H id = some bk := (hl id).trans hb
   have := ((ybh hl).cond (q := s ≠ 0 ∧ isPtr T t) fun h => by
    simp only [Bool.and_eq_true,decide_eq_true_eq] at h
    exact ⟨h.1,zvv h.2⟩) z us h
   simp only [aBin,hb']
   exact this
  ·cases h
 ·exact ((ybh hl).cond (q := isPtr T t) zvv) z us h
 ·rename_i xs ys
  split at h
  ·rename_i r hr
   obtain ⟨a,b⟩ := zow _ _ _ _ _ hr
   simp only [aBin]
   rw [b]
   cases hc : zla T t with
   | true =>
    rw [hc] at h
    exact (ybh hl).and ⟨zvu hc,a⟩ z us h
   | false => rw [hc] at h; cases h
  ·cases h
 ·cases h
def cUn (op : UnOp) (x : AV) : Option (AV × Us) :=
 match op,x with
 | .not,.w (.bool b) => some (.w (.bool (!b)),[])
 | .neg,.w (.int k n) => some (.w (.int k (k.wrap (0 - n))),[])
 | .xor,.w (.int k n) => some (.w (.int k (bits .xor k (bif k.signed then -1 else k.max) n)),[])
 | _,_ => none
include hl in
theorem ypy {op : UnOp} {x : AV} : Told (aUn op x H) lk (cUn op x) := by
 intro y us h
 unfold cUn at h
 unfold aUn
 split at h <;> first | cases h | (injection h with h; injection h with h1 h2; subst h1 h2; exact ⟨trivial,rfl,hl⟩)
 all_goals exact ⟨trivial,rfl,hl⟩
def zvo (lk : Nat → Option Blk) (x : AV) : Option (List UInt8) :=
 match x with
 | .sb bs _ => some bs
 | .sg _ [] _ => some []
 | .ms id s off len => match lk id with
  | some (.b bs) => if s = 1 ∧ off + len ≤ bs.length then some ((bs.drop off).take len) else none
  | _ => none
 | _ => none
include hl in
theorem zoq {x : AV} {l : List UInt8} (h : zvo lk x = some l) : (zer H x).1 ∧ (zer H x).2 = l := by
 unfold zvo at h
 unfold zer
 split at h
 ·injection h with h; exact ⟨trivial,h⟩
 ·injection h with h; exact ⟨trivial,h⟩
 ·rename_i id s off len
  simp only [hl id]
  split at h
  ·rename_i bs hb
   simp only [hb]
   split at h
   ·injection h with h; exact ⟨by assumption,h⟩
   ·cases h
  ·cases h
 ·cases h
def yhv (lk : Nat → Option Blk) (x : AV) : Option (List Int) :=
 match x with
 | .si ns _ => some ns
 | .sg _ [] _ => some []
 | .ms id s off len => match lk id with
  | some (.i ns) => if s = 1 ∧ off + len ≤ ns.length then some ((ns.drop off).take len) else none
  | _ => none
 | _ => none
include hl in
theorem yhu {x : AV} {l : List Int} (h : yhv lk x = some l) : (zhd H x).1 ∧ (zhd H x).2 = l := by
 unfold yhv at h
 unfold zhd
 split at h
 ·injection h with h; exact ⟨trivial,h⟩
 ·injection h with h; exact ⟨trivial,h⟩
 ·rename_i id s off len
  simp only [hl id]
  split at h
  ·rename_i bs hb
   simp only [hb]
   split at h
   ·injection h with h; exact ⟨by assumption,h⟩
   ·cases h
  ·cases h
 ·cases h
def yhx (s : Nat) (lk : Nat → Option Blk) (x : AV) : Option (List AV) :=
 match x with
 | .sg s' xs _ => bif xs.isEmpty || decide (s' = s) then some xs else none
 | .ms id s' off len => match lk id with
  | some (.g s'' xs) => if s' = s ∧ s'' = s ∧ off + len ≤ xs.length then some ((xs.drop off).take len) else none
  | _ => none
 | _ => none
include hl in
theorem yhw {s : Nat} {x : AV} {l : List AV} (h : yhx s lk x = some l) : (zeq s H x).1 ∧ (zeq s H x).2 = l := by
 unfold yhx at h
 unfold zeq
 split at h
 ·rename_i s' xs f
  cases hc : xs.isEmpty || decide (s' = s) with
  | true =>
   rw [hc] at h
   injection h with h
   refine ⟨?_,h⟩
   simp only [Bool.or_eq_true,List.isEmpty_iff,decide_eq_true_eq] at hc
   exact hc
  | false => rw [hc] at h; cases h
 ·rename_i id s off len
  simp only [hl id]
  split at h
  ·rename_i bs hb
   simp only [hb]
   split at h
   ·injection h with h; exact ⟨by assumption,h⟩
   ·cases h
  ·cases h
 ·cases h
def zfq (T : zab) (t : TypeId) : Bool :=
 match T t with
 | some ti => match ti.d with
  | .slice e => match T e with
   | some te => match te.d with
    | .int .u8 => true
    | _ => false
   | none => false
  | _ => false
 | none => false
theorem zjq {T : zab} {t : TypeId} (h : zfq T t = true) : isBytes T t := by
 unfold zfq at h; unfold isBytes; split at h
 ·rename_i ti ht; simp only [ht]; split at h
  ·rename_i e hd; simp only [hd]; split at h
   ·rename_i te hte; simp only [hte]; split at h
    ·rename_i hk; simp only [hk]
    ·cases h
   ·cases h
  ·cases h
 ·cases h
def ylx (T : zab) (src dst : TypeId) (nm : Nat) (x : AV) (lk : Nat → Option Blk) : Option (AV × Us) :=
 match T src,T dst with
 | some _,some b => match b.d with
  | .int k => match x with
   | .w (.int _ n) => some (.w (.int k (k.wrap n)),[])
   | _ => none
  | .str => match x with
   | .str bs => some (.str bs,[])
   | _ => bif zfq T src then (zvo lk x).map fun l => (.str l,[]) else none
  | .slice _ => match x with
   | .str bs => bif zfq T dst && decide (bs.length ≤ 9223372036854775807) then some (.ms nm 1 0 bs.length,[(nm,some (.b bs))]) else none
   | .ms id s off len => match lk id with
    | some blk => bif zfq T dst && (decide (src = dst) && (decide (0 < blk.len) && decide (blk.size = 1))) then some (.ms id s off len,[(id,some blk)]) else none
    | none => none
   | _ => none
  | _ => none
 | _,_ => none
include hl in
theorem ylw {T : zab} {src dst : TypeId} {nm : Nat} {x : AV} : Told (zjw T src dst nm x H) lk (ylx T src dst nm x lk) := by
 intro y us h
 unfold ylx at h
 unfold zjw
 split at h
 ·rename_i a b ha hb
  simp only [ha,hb]
  split at h
  ·rename_i k hk
   simp only [hk]
   split at h
   ·injection h with h; injection h with h1 h2; subst h1 h2; exact ⟨trivial,rfl,hl⟩
   ·cases h
  ·rename_i hk
   simp only [hk]
   split at h
   ·injection h with h; injection h with h1 h2; subst h1 h2; exact ⟨trivial,rfl,hl⟩
   ·rename_i hx
    split
    ·rename_i bs; exact (hx bs rfl).elim
    ·cases hc : zfq T src with
     | true =>
      rw [hc] at h
      obtain ⟨v,hv,he⟩ := Option.map_eq_some_iff.1 h
      injection he with h1 h2; subst h1 h2
      obtain ⟨p,q⟩ := zoq hl hv
      exact ⟨⟨zjq hc,p⟩,by simp only [q],hl⟩
     | false => rw [hc] at h; cases h
  ·rename_i e hk
   simp only [hk]
   split at h
   ·rename_i bs
    cases hc : (zfq T dst && decide (bs.length ≤ 9223372036854775807)) with
    | true =>
     rw [hc] at h
     injection h with h; injection h with h1 h2; subst h1 h2
     simp only [Bool.and_eq_true,decide_eq_true_eq] at hc
     exact ⟨⟨zjq hc.1,hc.2⟩,rfl,fun id => zal hl id⟩
    | false => rw [hc] at h; cases h
   ·rename_i id s off len
    simp only [hl id]
    split at h
    ·rename_i blk hbk
     simp only [hbk]
     cases hc : (zfq T dst && (decide (src = dst) && (decide (0 < blk.len) && decide (blk.size = 1)))) with
     | true =>
      rw [hc] at h
      injection h with h; injection h with h1 h2; subst h1 h2
      simp only [Bool.and_eq_true,decide_eq_true_eq] at hc
      exact ⟨⟨zjq hc.1,hc.2⟩,rfl,fun id => zal hl id⟩
     | false => rw [hc] at h; cases h
    ·cases h
   ·cases h
  ·cases h
 ·cases h
end
end Ax
end Go.Proofs.Ytffdpbbbdmmdlaa
namespace Go.Proofs.Ytffdpbbbdmmdlaa
namespace Ax
section
variable {H : Heap} {lk : Nat → Option Blk} (hl : ∀ id,look H id = lk id)
def yab : AV → AV → Bool
 | .w (.int k a),.w (.int k' b) => decide (k = k') && decide (a = b)
 | .w (.bool a),.w (.bool b) => a == b
 | .str a,.str b => decide (a = b)
 | _,_ => false
def zmu : List AV → List AV → Bool
 | [],[] => true
 | x :: xs,y :: ys => yab x y && zmu xs ys
 | _,_ => false
def yko : AV → AV → Bool
 | .agg xs,.agg ys => zmu xs ys
 | x,y => yab x y
theorem zun {x y : AV} (h : yab x y = true) : x = y := by
 unfold yab at h
 split at h
 ·simp only [Bool.and_eq_true,decide_eq_true_eq] at h
  obtain ⟨rfl,rfl⟩ := h; rfl
 ·simp only [beq_iff_eq] at h; subst h; rfl
 ·simp only [decide_eq_true_eq] at h; subst h; rfl
 ·cases h
theorem zny : ∀ {xs ys : List AV},zmu xs ys = true → xs = ys
 | [],[],_ => rfl
 | x :: xs,y :: ys,h => by
  simp only [zmu,Bool.and_eq_true] at h
  rw [zun h.1,zny h.2]
 | [],_ :: _,h => by cases h
 | _ :: _,[],h => by cases h
theorem ykn {x y : AV} (h : yko x y = true) : x = y := by
 unfold yko at h
 split at h
 ·rw [zny h]
 ·exact zun h
def zre (T : zab) (kt : TypeId) (k : AV) : List (AV × AV) → Nat → Option (Option (Nat × AV))
 | [],_ => some none
 | p :: r,i => match ceqV T 4 kt k p.1 with
  | some true => bif yko p.1 k then some (some (i,p.2)) else none
  | some false => zre T kt k r (i + 1)
  | none => none
theorem zlb {T : zab} {kt : TypeId} {k : AV} : ∀ {es : List (AV × AV)} {i : Nat} {z : Option (Nat × AV)},zre T kt k es i = some z → (zco T kt k es i).1 ∧ (zco T kt k es i).2 = z
 | [],i,z,h => by injection h with h; exact ⟨trivial,h⟩
 | p :: r,i,z,h => by
  unfold zre at h
  unfold zco
  split at h
  ·rename_i he
   obtain ⟨a,b⟩ := zow _ _ _ _ _ he
   cases hk : yko p.1 k with
   | true =>
    rw [hk] at h
    injection h with h
    simp only [b]
    exact ⟨⟨a,fun _ => ykn hk,fun h => by cases h⟩,h⟩
   | false => rw [hk] at h; cases h
  ·rename_i he
   obtain ⟨a,b⟩ := zow _ _ _ _ _ he
   obtain ⟨c,d⟩ := zlb h
   simp only [b]
   exact ⟨⟨a,(fun h => by cases h),fun _ => c⟩,d⟩
  ·cases h
def zsw (nm : Nat) (r : Option Operand) : Option (AV × Us) :=
 match r with
 | none => some (.rf nm 0 0 0,[(nm,some (.o (.mp [])))])
 | some _ => none
include hl in
theorem zys {nm : Nat} {r : Option Operand} : Told (zim nm r H) lk (zsw nm r) := by
 intro y us h
 cases r with
 | none => injection h with h; injection h with h1 h2; subst h1 h2; exact ⟨trivial,rfl,fun id => zal hl id⟩
 | some r => cases h
def zho (T : zab) (kt : TypeId) (k : AV) : Bool := k.pureK && (ceqV T 4 kt k k).isSome
theorem zlv {T : zab} {kt : TypeId} {k : AV} (h : zho T kt k = true) : k.pureK = true ∧ (eqV T 4 kt k k).1 := by
 unfold zho at h
 simp only [Bool.and_eq_true,Option.isSome_iff_exists] at h
 obtain ⟨h1,b,h2⟩ := h
 exact ⟨h1,(zow _ _ _ _ _ h2).1⟩
def zsx (T : zab) (t : TypeId) (x k : AV) (ok : Bool) (lk : Nat → Option Blk) : Option (AV × Us) :=
 match zsi T t with
 | some (kt,et) => match T et with
  | some te => match x with
   | .rf id s _ _ => match lk id with
    | some (.o (.mp es)) => bif decide (s = 0) && zho T kt k then (zre T kt k es 0).map fun r => (yhb te ok r,[]) else none
    | _ => none
   | _ => none
  | none => none
 | none => none
include hl in
theorem ydu {T : zab} {t : TypeId} {x k : AV} {ok : Bool} : Told (zft T t x k ok H) lk (zsx T t x k ok lk) := by
 intro y us h
 unfold zsx at h
 unfold zft
 split at h
 ·rename_i kt et hm
  simp only [hm]
  split at h
  ·rename_i te ht
   simp only [ht]
   split at h
   ·rename_i id s _ _
    simp only [hl id]
    split at h
    ·rename_i es hb
     simp only [hb]
     cases hc : (decide (s = 0) && zho T kt k) with
     | true =>
      rw [hc] at h
      obtain ⟨z,hz,he⟩ := Option.map_eq_some_iff.1 h
      injection he with h1 h2; subst h1 h2
      simp only [Bool.and_eq_true,decide_eq_true_eq] at hc
      obtain ⟨a,b⟩ := zlb hz
      obtain ⟨c,d⟩ := zlv hc.2
      exact ⟨⟨hc.1,c,d,a⟩,by simp only [b],hl⟩
     | false => rw [hc] at h; cases h
    ·cases h
   ·cases h
  ·cases h
 ·cases h
def zsv (T : zab) (t : TypeId) (x k v : AV) (lk : Nat → Option Blk) : Option (AV × Us) :=
 match zsi T t with
 | some (kt,_) => match x with
  | .rf id s _ _ => match lk id with
   | some (.o (.mp es)) => bif decide (s = 0) && (zho T kt k && v.pure) then (zre T kt k es 0).map fun r => (.junk,[(id,some (.o (.mp (putM es k v r))))]) else none
   | _ => none
  | _ => none
 | none => none
include hl in
theorem yds {T : zab} {t : TypeId} {x k v : AV} : Told (zfs T t x k v H) lk (zsv T t x k v lk) := by
 intro y us h
 unfold zsv at h
 unfold zfs
 split at h
 ·rename_i kt et hm
  simp only [hm]
  split at h
  ·rename_i id s _ _
   simp only [hl id]
   split at h
   ·rename_i es hb
    simp only [hb]
    cases hc : (decide (s = 0) && (zho T kt k && v.pure)) with
    | true =>
     rw [hc] at h
     obtain ⟨z,hz,he⟩ := Option.map_eq_some_iff.1 h
     injection he with h1 h2; subst h1 h2
     simp only [Bool.and_eq_true,decide_eq_true_eq] at hc
     obtain ⟨a,b⟩ := zlb hz
     obtain ⟨c,d⟩ := zlv hc.2.1
     exact ⟨⟨hc.1,c,hc.2.2,d,a⟩,rfl,fun id => by rw [b]; exact zal hl id⟩
    | false => rw [hc] at h; cases h
   ·cases h
  ·cases h
 ·cases h
def zta (T : zab) (t : TypeId) (x k : AV) (lk : Nat → Option Blk) : Option (AV × Us) :=
 match zsi T t with
 | some (kt,_) => match x with
  | .rf id s _ _ => match lk id with
   | some (.o (.mp es)) => bif decide (s = 0) && zho T kt k then (zre T kt k es 0).map fun r => (.junk,[(id,some (.o (.mp (cutM es r))))]) else none
   | _ => none
  | _ => none
 | none => none
include hl in
theorem ydv {T : zab} {t : TypeId} {x k : AV} : Told (zfu T t x k H) lk (zta T t x k lk) := by
 intro y us h
 unfold zta at h
 unfold zfu
 split at h
 ·rename_i kt et hm
  simp only [hm]
  split at h
  ·rename_i id s _ _
   simp only [hl id]
   split at h
   ·rename_i es hb
    simp only [hb]
    cases hc : (decide (s = 0) && zho T kt k) with
    | true =>
     rw [hc] at h
     obtain ⟨z,hz,he⟩ := Option.map_eq_some_iff.1 h
     injection he with h1 h2; subst h1 h2
     simp only [Bool.and_eq_true,decide_eq_true_eq] at hc
     obtain ⟨a,b⟩ := zlb hz
     obtain ⟨c,d⟩ := zlv hc.2
     exact ⟨⟨hc.1,c,d,a⟩,rfl,fun id => by rw [b]; exact zal hl id⟩
    | false => rw [hc] at h; cases h
   ·cases h
  ·cases h
 ·cases h
def ybi (x : AV) (lk : Nat → Option Blk) : Option (AV × Us) :=
 match x with
 | .rf id s i f => match lk id with
  | some (.o (.mi _ (some p))) => if (i = 0 ∧ f = 0) ∧ s ≠ 0 then some (.tup [p.1,p.2],[]) else none
  | _ => none
 | _ => none
include hl in
theorem yir {x : AV} : Told (ziv x H) lk (ybi x lk) := by
 intro y us h
 unfold ybi at h
 unfold ziv
 split at h
 ·rename_i id s i f
  simp only [hl id]
  split at h
  ·rename_i es p hb
   simp only [hb]
   split at h
   ·injection h with h; injection h with h1 h2; subst h1 h2; exact ⟨by assumption,rfl,hl⟩
   ·cases h
  ·cases h
 ·cases h
theorem zkl (hl : ∀ id,look H id = lk id) {nm k : Nat} {b : Blk} (id : Nat) : look (put (drop H k) nm b) id = upd [(nm,some b),(k,none)] lk id := by
 rw [zao,zex]; simp only [upd]; split
 ·rfl
 ·split <;> simp [hl]
def ybc (T : zab) (nm : Nat) (t : TypeId) (x : AV) (lk : Nat → Option Blk) : Option (AV × Us) :=
 match T t with
 | some ti => match ti.d with
  | .str => match x with
   | .str bs => some (.rf nm 1 0 0,[(nm,some (.o (.it bs 0)))])
   | _ => none
  | .map _ _ => match x with
   | .rf id s _ _ => match lk id with
    | some (.o (.mp es)) => if s = 0 then some (.rf nm 1 0 0,[(nm,some (.o (.mi es none))),(id,none)]) else none
    | _ => none
   | _ => none
  | _ => none
 | none => none
include hl in
theorem yin {T : zab} {nm : Nat} {t : TypeId} {x : AV} : Told (zhc T nm t x H) lk (ybc T nm t x lk) := by
 intro y us h
 unfold ybc at h
 unfold zhc
 split at h
 ·rename_i ti ht
  simp only [ht]
  split at h
  ·rename_i hd
   simp only [hd]
   split at h
   ·injection h with h; injection h with h1 h2; subst h1 h2; exact ⟨trivial,rfl,fun id => zal hl id⟩
   ·cases h
  ·rename_i hd
   simp only [hd]
   split at h
   ·rename_i id s _ _
    simp only [hl id]
    split at h
    ·rename_i es hb
     simp only [hb]
     split at h
     ·injection h with h; injection h with h1 h2; subst h1 h2; exact ⟨by assumption,rfl,fun id => zkl hl id⟩
     ·cases h
    ·cases h
   ·cases h
  ·cases h
 ·cases h
def ylr (x : AV) (isStr : Bool) (lk : Nat → Option Blk) : Option (AV × Us) :=
 match isStr,x with
 | true,.rf id s i f => match lk id with
  | some (.o (.it bs pos)) => if (i = 0 ∧ f = 0) ∧ s ≠ 0 then (bif decide (pos < bs.length) then some (.tup [.w (.bool true),.w (.int .i64 pos),.w (.int .i32 (decR bs pos))],[(id,some (.o (.it bs (pos + decW bs pos))))]) else some (.tup [.w (.bool false)],[])) else none
  | _ => none
 | false,.rf id s i f => match lk id with
  | some (.o (.mi [] _)) => if (i = 0 ∧ f = 0) ∧ s ≠ 0 then some (.tup [.w (.bool false)],[]) else none
  | some (.o (.mi [p] _)) => if (i = 0 ∧ f = 0) ∧ s ≠ 0 then some (.tup [.w (.bool true),p.1,p.2],[(id,some (.o (.mi [] (some p))))]) else none
  | _ => none
 | _,_ => none
include hl in
theorem ylq {x : AV} {b : Bool} : Told (zpy x b H) lk (ylr x b lk) := by
 intro y us h
 unfold ylr at h
 unfold zpy
 split at h
 ·rename_i id s i f
  simp only [hl id]
  split at h
  ·rename_i bs pos hb
   simp only [hb]
   split at h
   ·rename_i hc
    cases hp : decide (pos < bs.length) with
    | true =>
     simp only [hp,cond_true] at h ⊢
     injection h with h; injection h with h1 h2; subst h1 h2
     exact ⟨hc,rfl,fun id => zal hl id⟩
    | false =>
     simp only [hp,cond_false] at h ⊢
     injection h with h; injection h with h1 h2; subst h1 h2
     exact ⟨hc,rfl,hl⟩
   ·cases h
  ·cases h
 ·rename_i id s i f
  simp only [hl id]
  split at h
  ·rename_i hb
   simp only [hb]
   split at h
   ·injection h with h; injection h with h1 h2; subst h1 h2
    exact ⟨by assumption,rfl,hl⟩
   ·cases h
  ·rename_i hb
   simp only [hb]
   split at h
   ·injection h with h; injection h with h1 h2; subst h1 h2
    exact ⟨by assumption,rfl,fun id => zal hl id⟩
   ·cases h
  ·cases h
 ·cases h
def ylt (T : zab) (nm : Nat) (t : TypeId) (l c : AV) : Option (AV × Us) :=
 match T t with
 | some ti => match ti.d with
  | .slice e => match T e with
   | some te => match l,c with
    | .w (.int _ n),.w (.int _ m) => if 0 < te.size ∧ 0 < te.bytes ∧ 0 ≤ n ∧ n ≤ m ∧ m * te.bytes ≤ 1099511627776 then (match te.d with
      | .int .u8 => bif isZ .u8 te.zero then some (.ms nm te.size 0 n.toNat,[(nm,some (.b (List.replicate n.toNat 0)))]) else none
      | .int .i64 => bif isZ .i64 te.zero then some (.ms nm te.size 0 n.toNat,[(nm,some (.i (List.replicate n.toNat 0)))]) else none
      | _ => some (.ms nm te.size 0 n.toNat,[(nm,some (.g te.size (List.replicate n.toNat (asv te te.zero))))])) else none
    | _,_ => none
   | none => none
  | _ => none
 | none => none
include hl in
theorem yls {T : zab} {nm : Nat} {t : TypeId} {l c : AV} : Told (aMake T nm t l c H) lk (ylt T nm t l c) := by
 intro y us h
 unfold ylt at h
 unfold aMake
 split at h
 ·rename_i ti ht
  simp only [ht]
  split at h
  ·rename_i e hd
   simp only [hd]
   split at h
   ·rename_i te hte
    simp only [hte]
    split at h
    ·split at h
     ·rename_i hc
      split at h
      ·rename_i hk
       simp only [hk]
       cases hz : isZ .u8 te.zero with
       | true =>
        rw [hz] at h
        injection h with h; injection h with h1 h2; subst h1 h2
        exact ⟨⟨hc,zup hz⟩,rfl,fun id => zal hl id⟩
       | false => rw [hz] at h; cases h
      ·rename_i hk
       simp only [hk]
       cases hz : isZ .i64 te.zero with
       | true =>
        rw [hz] at h
        injection h with h; injection h with h1 h2; subst h1 h2
        exact ⟨⟨hc,zup hz⟩,rfl,fun id => zal hl id⟩
       | false => rw [hz] at h; cases h
      ·rename_i hk1 hk2
       injection h with h; injection h with h1 h2; subst h1 h2
       dsimp only
       split
       ·rename_i he; exact (hk1 he).elim
       ·rename_i he; exact (hk2 he).elim
       ·exact ⟨⟨hc,trivial⟩,rfl,fun id => zal hl id⟩
     ·cases h
    ·cases h
   ·cases h
  ·cases h
 ·cases h
def bndsB (lo hi mx : Option AV) (n : Nat) : Bool :=
 okB lo && (okB hi && (okB mx && (decide ((bnd lo 0).2 ≤ (bnd hi n).2) && (decide ((bnd hi n).2 ≤ (bnd mx n).2) && decide ((bnd mx n).2 ≤ n)))))
where okB : Option AV → Bool
 | none => true
 | some (.w (.int _ n)) => decide (0 ≤ n)
 | _ => false
theorem yfp {o : Option AV} {d : Nat} (h : bndsB.okB o = true) : (bnd o d).1 := by
 unfold bndsB.okB at h
 unfold bnd
 split at h
 ·trivial
 ·simpa using h
 ·cases h
theorem ztd {lo hi mx : Option AV} {n : Nat} (h : bndsB lo hi mx n = true) : bnds lo hi mx n := by
 unfold bndsB at h
 simp only [Bool.and_eq_true,decide_eq_true_eq] at h
 obtain ⟨h1,h2,h3,h4,h5,h6⟩ := h
 exact ⟨yfp h1,yfp h2,yfp h3,h4,h5,h6⟩
def ybb (T : zab) (t : TypeId) (x : AV) (lo hi mx : Option AV) (lk : Nat → Option Blk) : Option (AV × Us) :=
 match T t with
 | none => none
 | some ti => match ti.d with
  | .str => match x with
   | .str bs => bif mx.isNone && bndsB lo hi none bs.length then some (.str (cut bs lo hi),[]) else none
   | _ => none
  | .slice e => match T e with
   | none => none
   | some te => match x with
    | .sb bs full => bif decide (te.size = 1) && bndsB lo hi mx bs.length then some (.sb (cut bs lo hi) (zps full hi mx (bnd hi bs.length).2 (bnd mx bs.length).2),[]) else none
    | .si ns full => bif decide (te.size = 1) && bndsB lo hi mx ns.length then some (.si (cut ns lo hi) (zps full hi mx (bnd hi ns.length).2 (bnd mx ns.length).2),[]) else none
    | .sg s xs full => bif decide (te.size = s) && bndsB lo hi mx xs.length then some (.sg s (cut xs lo hi) (zps full hi mx (bnd hi xs.length).2 (bnd mx xs.length).2),[]) else none
    | .ms id s off len => match lk id with
     | some _ => bif decide (te.size = s) && bndsB lo hi mx len then some (.ms id s (off + (bnd lo 0).2) ((bnd hi len).2 - (bnd lo 0).2),[]) else none
     | none => none
    | _ => none
  | .arr n e => match T e with
   | none => none
   | some te => match x with
    | .rf id s i f => match lk id with
     | some blk => bif decide (te.size = 1) && (decide (s = 1) && decide (f = 0) && (decide (blk.size = 1) && ((decide (0 < n) && (decide (i + n ≤ blk.len) && decide (n ≤ 16777216))) && bndsB lo hi mx n))) then some (.ms id 1 (i + (bnd lo 0).2) ((bnd hi n).2 - (bnd lo 0).2),[]) else none
     | none => none
    | _ => none
  | _ => none
include hl in
theorem zid {b : Bool} {p : Prop} {x : AV} (hb : b = true → p) : Told ⟨p,x,H⟩ lk (bif b then some (x,[]) else none) := by
 cases b with
 | true => intro y us h; injection h with h; injection h with h1 h2; subst h1 h2; exact ⟨hb rfl,rfl,hl⟩
 | false => intro y us h; cases h
include hl in
theorem yim {T : zab} {t : TypeId} {x : AV} {lo hi mx : Option AV} : Told (ziu T t x lo hi mx H) lk (ybb T t x lo hi mx lk) := by
 intro y us h
 unfold ybb at h
 unfold ziu
 split at h
 ·cases h
 ·rename_i ti ht
  simp only [ht]
  split at h
  ·rename_i hd
   simp only [hd]
   split at h
   ·refine zid hl (fun hb => ?_) _ _ h
    simp only [Bool.and_eq_true] at hb
    exact ⟨hb.1,ztd hb.2⟩
   ·cases h
  ·rename_i e hd
   simp only [hd]
   split at h
   ·cases h
   ·rename_i te hte
    simp only [hte]
    have key : ∀ {s n : Nat},(decide (te.size = s) && bndsB lo hi mx n) = true → te.size = s ∧ bnds lo hi mx n := by
     intro s n hb
     simp only [Bool.and_eq_true,decide_eq_true_eq] at hb
     exact ⟨hb.1,ztd hb.2⟩
    split at h
    ·exact zid hl key _ _ h
    ·exact zid hl key _ _ h
    ·exact zid hl key _ _ h
    ·rename_i id s off len
     simp only [hl id]
     split at h
     ·rename_i b hb
      simp only [hb]
      exact zid hl key _ _ h
     ·cases h
    ·cases h
  ·rename_i n e hd
   simp only [hd]
   split at h
   ·cases h
   ·rename_i te hte
    simp only [hte]
    split at h
    ·rename_i id s i f
     simp only [hl id]
     split at h
     ·rename_i b hb
      simp only [hb]
      refine zid hl (fun hb => ?_) _ _ h
      simp only [Bool.and_eq_true,decide_eq_true_eq] at hb
      obtain ⟨h1,⟨h2,h3⟩,h4,⟨h5,h6,h7⟩,h8⟩ := hb
      exact ⟨h1,⟨h2,h3⟩,h4,⟨h5,h6,h7⟩,ztd h8⟩
     ·cases h
    ·cases h
  ·cases h
def zil (T : zab) (s : TypeId) (x : AV) (f : Nat) (lk : Nat → Option Blk) : Option (AV × Us) :=
 match T s with
 | none => none
 | some ti => match ti.d with
  | .struct fs => match fs[f]? with
   | some (off,ty) => match T ty with
    | none => none
    | some te => match x with
     | .rf id z i g => match lk id with
      | some _ => if z ≠ 0 ∧ 0 < te.size then some (.rf id z i (g + off),[]) else none
      | none => none
     | .cp ls => if 0 < te.size ∧ off < ls.length then some (.cp (ls.drop off),[]) else none
     | _ => none
   | none => none
  | _ => none
include hl in
theorem zsz {T : zab} {s : TypeId} {x : AV} {f : Nat} : Told (aFieldAddr T s x f H) lk (zil T s x f lk) := by
 intro y us h
 unfold zil at h
 unfold aFieldAddr
 split at h
 ·cases h
 ·rename_i ti ht
  simp only [ht]
  split at h
  ·rename_i fs hd
   simp only [hd]
   split at h
   ·rename_i off ty hf
    simp only [hf]
    split at h
    ·cases h
    ·rename_i te hte
     simp only [hte]
     split at h
     ·rename_i id z i g
      simp only [hl id]
      split at h
      ·rename_i b hb
       simp only [hb]
       split at h
       ·injection h with h; injection h with h1 h2; subst h1 h2; exact ⟨by assumption,rfl,hl⟩
       ·cases h
      ·cases h
     ·split at h
      ·injection h with h; injection h with h1 h2; subst h1 h2; exact ⟨by assumption,rfl,hl⟩
      ·cases h
     ·cases h
   ·cases h
  ·cases h
def ybg (T : zab) (t : TypeId) (x : AV) (f : Nat) : Option (AV × Us) :=
 match T t with
 | none => none
 | some ti => match ti.d with
  | .struct fs => match x with
   | .agg ls => match fs[f]? with
    | some (off,ty) => match T ty with
     | some te => (csub te ls off).map fun y => (y,[])
     | none => none
    | none => none
   | _ => none
  | _ => none
include hl in
theorem yiq {T : zab} {t : TypeId} {x : AV} {f : Nat} : Told (aField T t x f H) lk (ybg T t x f) := by
 intro y us h
 unfold ybg at h
 unfold aField
 split at h
 ·cases h
 ·rename_i ti ht
  simp only [ht]
  split at h
  ·rename_i fs hd
   simp only [hd]
   split at h
   ·split at h
    ·rename_i off ty hf
     simp only [hf]
     split at h
     ·rename_i te hte
      simp only [hte]
      obtain ⟨z,hz,he⟩ := Option.map_eq_some_iff.1 h
      injection he with h1 h2; subst h1 h2
      obtain ⟨a,b,c⟩ := zly (H := H) hz
      exact ⟨a,b,fun id => by rw [c]; exact hl id⟩
     ·cases h
    ·cases h
   ·cases h
  ·cases h
def zik (T : zab) (t : TypeId) (x i : AV) (lk : Nat → Option Blk) : Option (AV × Us) :=
 match T t,i with
 | some ti,.w (.int _ n) => match ti.d with
  | .slice e => match T e with
   | none => none
   | some te => match x with
    | .sb bs _ => if 0 ≤ n ∧ te.size = 1 ∧ n.toNat < bs.length then some (.cp [.w (byte (bs.getD n.toNat 0))],[]) else none
    | .si ns _ => if 0 ≤ n ∧ te.size = 1 ∧ n.toNat < ns.length then some (.cp [.w (word (ns.getD n.toNat 0))],[]) else none
    | .sg s xs _ => if 0 ≤ n ∧ te.size = s ∧ 0 < s ∧ n.toNat < xs.length then some (.cp (slot xs n.toNat).leaves,[]) else none
    | .ms id s off len => match lk id with
     | some _ => if s ≠ 0 ∧ 0 ≤ n ∧ te.size = s ∧ n.toNat < len then some (.rf id s (off + n.toNat) 0,[]) else none
     | none => none
    | _ => none
  | .arr m e => match T e with
   | none => none
   | some te => match x with
    | .rf id s j f => match lk id with
     | some _ => if s ≠ 0 ∧ 0 ≤ n ∧ n < m then some (.rf id s j (f + n.toNat * te.size),[]) else none
     | none => none
    | .cp ls => if 0 ≤ n ∧ n < m ∧ n.toNat * te.size < ls.length then some (.cp (ls.drop (n.toNat * te.size)),[]) else none
    | _ => none
  | _ => none
 | _,_ => none
include hl in
theorem zgn {p : Prop} [Decidable p] {x : AV} {y : AV} {us : Us} (h : (if p then some (x,([] : Us)) else none) = some (y,us)) : p ∧ x = y ∧ ∀ id,look H id = upd us lk id := by
 split at h
 ·injection h with h; injection h with h1 h2; subst h1 h2; exact ⟨by assumption,rfl,hl⟩
 ·cases h
include hl in
theorem zsy {T : zab} {t : TypeId} {x i : AV} : Told (zbw T t x i H) lk (zik T t x i lk) := by
 intro y us h
 unfold zik at h
 unfold zbw
 split at h
 ·rename_i ti k n ht
  simp only [ht]
  split at h
  ·rename_i e hd
   simp only [hd]
   split at h
   ·cases h
   ·rename_i te hte
    simp only [hte]
    split at h
    ·exact zgn hl h
    ·exact zgn hl h
    ·exact zgn hl h
    ·rename_i id s off len
     simp only [hl id]
     split at h
     ·rename_i b hb
      simp only [hb]
      exact zgn hl h
     ·cases h
    ·cases h
  ·rename_i m e hd
   simp only [hd]
   split at h
   ·cases h
   ·rename_i te hte
    simp only [hte]
    split at h
    ·rename_i id s j f
     simp only [hl id]
     split at h
     ·rename_i b hb
      simp only [hb]
      exact zgn hl h
     ·cases h
    ·exact zgn hl h
    ·cases h
  ·cases h
 ·cases h
def ybf (T : zab) (t : TypeId) (x i : AV) : Option (AV × Us) :=
 match T t,i with
 | some ti,.w (.int _ n) => match ti.d with
  | .str => match x with
   | .str bs => if 0 ≤ n ∧ n.toNat < bs.length then some (.w (byte (bs.getD n.toNat 0)),[]) else none
   | _ => none
  | .arr m e => match x with
   | .agg ls => match T e with
    | some te => if 0 ≤ n ∧ n < m then (csub te ls (n.toNat * te.size)).map fun y => (y,[]) else none
    | none => none
   | _ => none
  | _ => none
 | _,_ => none
include hl in
theorem yip {T : zab} {t : TypeId} {x i : AV} : Told (zib T t x i H) lk (ybf T t x i) := by
 intro y us h
 unfold ybf at h
 unfold zib
 split at h
 ·rename_i ti k n ht
  simp only [ht]
  split at h
  ·rename_i hd
   simp only [hd]
   split at h
   ·exact zgn hl h
   ·cases h
  ·rename_i m e hd
   simp only [hd]
   split at h
   ·split at h
    ·rename_i te hte
     simp only [hte]
     split at h
     ·rename_i hc
      obtain ⟨z,hz,he⟩ := Option.map_eq_some_iff.1 h
      injection he with h1 h2; subst h1 h2
      obtain ⟨a,b,c⟩ := zly (H := H) hz
      exact ⟨⟨hc,a⟩,b,fun id => by simp only [Out.and]; rw [c]; exact hl id⟩
     ·cases h
    ·cases h
   ·cases h
  ·cases h
 ·cases h
def zmy (x : AV) (i : Nat) : Option (AV × Us) :=
 match x with
 | .tup xs => if i < xs.length then some (slot xs i,[]) else none
 | _ => none
include hl in
theorem zyt {x : AV} {i : Nat} : Told (zdd x i H) lk (zmy x i) := by
 intro y us h
 unfold zmy at h
 unfold zdd
 split at h
 ·exact zgn hl h
 ·cases h
def cLen (T : zab) (t : TypeId) (x : AV) (lk : Nat → Option Blk) : Option (AV × Us) :=
 match T t with
 | none => none
 | some ti => match ti.d with
  | .str => match x with
   | .str bs => some (.w (word bs.length),[])
   | _ => none
  | .slice _ => match x with
   | .sb bs _ => some (.w (word bs.length),[])
   | .si ns _ => some (.w (word ns.length),[])
   | .sg _ xs _ => some (.w (word xs.length),[])
   | .ms id _ _ len => match lk id with
    | some _ => some (.w (word len),[])
    | none => none
   | _ => none
  | .arr n _ => some (.w (word n),[])
  | .map _ _ => match x with
   | .rf id s _ _ => match lk id with
    | some (.o (.mp es)) => if s = 0 then some (.w (word es.length),[]) else none
    | _ => none
   | _ => none
  | _ => none
theorem zby (hl : ∀ id,look H id = lk id) {x y : AV} {us : Us} (h : some (x,([] : Us)) = some (y,us)) : True ∧ x = y ∧ ∀ id,look H id = upd us lk id := by
 injection h with h; injection h with h1 h2; subst h1 h2; exact ⟨trivial,rfl,hl⟩
include hl in
theorem yoa {T : zab} {t : TypeId} {x : AV} : Told (aLen T t x H) lk (cLen T t x lk) := by
 intro y us h
 unfold cLen at h
 unfold aLen
 split at h
 ·cases h
 ·rename_i ti ht
  simp only [ht]
  split at h
  ·rename_i hd
   simp only [hd]
   split at h
   ·exact zby hl h
   ·cases h
  ·rename_i hd
   simp only [hd]
   split at h
   ·exact zby hl h
   ·exact zby hl h
   ·exact zby hl h
   ·rename_i id _ _ len
    simp only [hl id]
    split at h
    ·rename_i b hb
     simp only [hb]
     exact zby hl h
    ·cases h
   ·cases h
  ·rename_i hd
   simp only [hd]
   exact zby hl h
  ·rename_i hd
   simp only [hd]
   split at h
   ·rename_i id s _ _
    simp only [hl id]
    split at h
    ·rename_i es hb
     simp only [hb]
     exact zgn hl h
    ·cases h
   ·cases h
  ·cases h
def cMin (l : List AV) : Option (AV × Us) :=
 match l with
 | [.w (.int k x),.w (.int _ y)] => some (.w (.int k (if y < x then y else x)),[])
 | _ => none
def cMax (l : List AV) : Option (AV × Us) :=
 match l with
 | [.w (.int k x),.w (.int _ y)] => some (.w (.int k (if y > x then y else x)),[])
 | _ => none
include hl in
theorem yny {l : List AV} : Told (aMin l H) lk (cMin l) := by
 intro y us h
 unfold cMin at h
 unfold aMin
 split at h
 ·exact zby hl h
 ·cases h
include hl in
theorem ynz {l : List AV} : Told (aMax l H) lk (cMax l) := by
 intro y us h
 unfold cMax at h
 unfold aMax
 split at h
 ·exact zby hl h
 ·cases h
def zlc (nm : Nat) (d : AV) (ys : List UInt8) (lk : Nat → Option Blk) : Option (AV × Us) :=
 match d with
 | .sb bs full => bif full && ((bs.isEmpty || !ys.isEmpty) && decide (bs.length + ys.length ≤ top)) then some (.ms nm 1 0 (bs.length + ys.length),[(nm,some (.b (bs ++ ys)))]) else none
 | .sg _ [] full => bif full && decide (ys.length ≤ top) then some (.ms nm 1 0 ys.length,[(nm,some (.b ys))]) else none
 | .ms id s off len => match lk id with
  | some (.b bs) => if s = 1 ∧ off = 0 ∧ len = bs.length ∧ bs.length + ys.length ≤ top then some (.ms nm 1 0 (bs.length + ys.length),[(nm,some (.b (bs ++ ys))),(id,none)]) else none
  | _ => none
 | _ => none
include hl in
theorem zka {b : Bool} {p : Prop} {nm : Nat} {x : AV} {k : Blk} (hb : b = true → p) {y : AV} {us : Us} (h : (bif b then some (x,[(nm,some k)]) else none) = some (y,us)) : p ∧ x = y ∧ ∀ id,look (put H nm k) id = upd us lk id := by
 cases b with
 | true => injection h with h; injection h with h1 h2; subst h1 h2; exact ⟨hb rfl,rfl,fun id => zal hl id⟩
 | false => cases h
include hl in
theorem zrx {p : Prop} [Decidable p] {nm k : Nat} {x : AV} {b : Blk} {y : AV} {us : Us} (h : (if p then some (x,[(nm,some b),(k,none)]) else none) = some (y,us)) : p ∧ x = y ∧ ∀ id,look (put (drop H k) nm b) id = upd us lk id := by
 split at h
 ·injection h with h; injection h with h1 h2; subst h1 h2; exact ⟨by assumption,rfl,fun id => zkl hl id⟩
 ·cases h
include hl in
theorem zjr {nm : Nat} {d : AV} {ys : List UInt8} : Told (zcl nm d ys H) lk (zlc nm d ys lk) := by
 intro y us h
 unfold zlc at h
 unfold zcl
 split at h
 ·refine zka hl (fun hb => ?_) h
  simp only [Bool.and_eq_true,Bool.or_eq_true,List.isEmpty_iff,decide_eq_true_eq,Bool.not_eq_true',List.isEmpty_eq_false_iff] at hb
  exact hb
 ·refine zka hl (fun hb => ?_) h
  simp only [Bool.and_eq_true,decide_eq_true_eq] at hb
  exact hb
 ·rename_i id s off len
  simp only [hl id]
  split at h
  ·rename_i bs hb
   simp only [hb]
   exact zrx hl h
  ·cases h
 ·cases h
def zst (nm : Nat) (d : AV) (ys : List Int) (lk : Nat → Option Blk) : Option (AV × Us) :=
 match d with
 | .si bs full => bif full && ((bs.isEmpty || !ys.isEmpty) && decide (bs.length + ys.length ≤ top)) then some (.ms nm 1 0 (bs.length + ys.length),[(nm,some (.i (bs ++ ys)))]) else none
 | .sg _ [] full => bif full && decide (ys.length ≤ top) then some (.ms nm 1 0 ys.length,[(nm,some (.i ys))]) else none
 | .ms id s off len => match lk id with
  | some (.i bs) => if s = 1 ∧ off = 0 ∧ len = bs.length ∧ bs.length + ys.length ≤ top then some (.ms nm 1 0 (bs.length + ys.length),[(nm,some (.i (bs ++ ys))),(id,none)]) else none
  | _ => none
 | _ => none
include hl in
theorem zyq {nm : Nat} {d : AV} {ys : List Int} : Told (zdp nm d ys H) lk (zst nm d ys lk) := by
 intro y us h
 unfold zst at h
 unfold zdp
 split at h
 ·refine zka hl (fun hb => ?_) h
  simp only [Bool.and_eq_true,Bool.or_eq_true,List.isEmpty_iff,decide_eq_true_eq,Bool.not_eq_true',List.isEmpty_eq_false_iff] at hb
  exact hb
 ·refine zka hl (fun hb => ?_) h
  simp only [Bool.and_eq_true,decide_eq_true_eq] at hb
  exact hb
 ·rename_i id s off len
  simp only [hl id]
  split at h
  ·rename_i bs hb
   simp only [hb]
   exact zrx hl h
  ·cases h
 ·cases h
def zsu (s : Nat) (nm : Nat) (d : AV) (ys : List AV) (lk : Nat → Option Blk) : Option (AV × Us) :=
 match d with
 | .sg s' xs full => bif full && ((xs.isEmpty || (decide (s' = s) && !ys.isEmpty)) && decide (xs.length + ys.length ≤ top)) then some (.ms nm s 0 (xs.length + ys.length),[(nm,some (.g s (xs ++ ys)))]) else none
 | .ms id s' off len => match lk id with
  | some (.g s'' xs) => if s' = s ∧ s'' = s ∧ off = 0 ∧ len = xs.length ∧ xs.length + ys.length ≤ top then some (.ms nm s 0 (xs.length + ys.length),[(nm,some (.g s (xs ++ ys))),(id,none)]) else none
  | _ => none
 | _ => none
include hl in
theorem zyr {s nm : Nat} {d : AV} {ys : List AV} : Told (zck s nm d ys H) lk (zsu s nm d ys lk) := by
 intro y us h
 unfold zsu at h
 unfold zck
 split at h
 ·refine zka hl (fun hb => ?_) h
  simp only [Bool.and_eq_true,Bool.or_eq_true,List.isEmpty_iff,decide_eq_true_eq,Bool.not_eq_true',List.isEmpty_eq_false_iff] at hb
  exact hb
 ·rename_i id s off len
  simp only [hl id]
  split at h
  ·rename_i bs hb
   simp only [hb]
   exact zrx hl h
  ·cases h
 ·cases h
def ztc (T : zab) (nm : Nat) (ts : List TypeId) (d x : AV) (lk : Nat → Option Blk) : Option (AV × Us) :=
 match ts with
 | [t,u] => match T t,T u with
  | some ti,some tu => match ti.d with
   | .slice e => match T e with
    | none => none
    | some te => match te.d with
     | .int .u8 => match tu.d with
      | .str => match x with
       | .str ys => if te.size = 1 ∧ te.bytes ≤ 1024 then zlc nm d ys lk else none
       | _ => none
      | .slice _ => match zvo lk x with
       | some ys => if te.size = 1 ∧ te.bytes ≤ 1024 then zlc nm d ys lk else none
       | none => none
      | .int _ => match x with
       | .w (.int _ n) => if te.size = 1 ∧ te.bytes ≤ 1024 ∧ isZ .u8 te.zero = true ∧ 0 ≤ n then zlc nm d (List.replicate n.toNat 0) lk else none
       | _ => none
      | _ => none
     | .int .i64 => match tu.d with
      | .slice _ => match yhv lk x with
       | some ys => if te.size = 1 ∧ te.bytes ≤ 1024 then zst nm d ys lk else none
       | none => none
      | _ => none
     | _ => match tu.d with
      | .slice _ => match yhx te.size lk x with
       | some ys => if 0 < te.size ∧ te.bytes ≤ 1024 then zsu te.size nm d ys lk else none
       | none => none
      | _ => none
   | _ => none
  | _,_ => none
 | _ => none
include hl in
theorem ydw {T : zab} {nm : Nat} {ts : List TypeId} {d x : AV} : Told (zfv T nm ts d x H) lk (ztc T nm ts d x lk) := by
 intro y us h
 unfold ztc at h
 unfold zfv
 split at h
 ·rename_i t u
  split at h
  ·rename_i ti tu ht hu
   simp only [ht,hu]
   split at h
   ·rename_i e hd
    simp only [hd]
    split at h
    ·cases h
    ·rename_i te hte
     simp only [hte]
     split at h
     ·rename_i hk
      simp only [hk]
      split at h
      ·rename_i hq
       simp only [hq]
       split at h
       ·split at h
        ·exact (zjr hl).and (by assumption) _ _ h
        ·cases h
       ·cases h
      ·rename_i hq
       simp only [hq]
       split at h
       ·rename_i ys hy
        obtain ⟨a,b⟩ := zoq hl hy
        rw [b]
        split at h
        ·rename_i hc
         exact (zjr hl).and ⟨hc.1,hc.2,a⟩ _ _ h
        ·cases h
       ·cases h
      ·rename_i hq
       simp only [hq]
       split at h
       ·split at h
        ·rename_i hc
         exact (zjr hl).and ⟨hc.1,hc.2.1,zup hc.2.2.1,hc.2.2.2⟩ _ _ h
        ·cases h
       ·cases h
      ·cases h
     ·rename_i hk
      simp only [hk]
      split at h
      ·rename_i hq
       simp only [hq]
       split at h
       ·rename_i ys hy
        obtain ⟨a,b⟩ := yhu hl hy
        rw [b]
        split at h
        ·rename_i hc
         exact (zyq hl).and ⟨hc.1,hc.2,a⟩ _ _ h
        ·cases h
       ·cases h
      ·cases h
     ·rename_i hk1 hk2
      split
      ·rename_i he; exact (hk1 he).elim
      ·rename_i he; exact (hk2 he).elim
      ·split at h
       ·rename_i hq
        simp only [hq]
        split at h
        ·rename_i ys hy
         obtain ⟨a,b⟩ := yhw hl hy
         rw [b]
         split at h
         ·rename_i hc
          exact (zyr hl).and ⟨hc.1,hc.2,a⟩ _ _ h
         ·cases h
        ·cases h
       ·cases h
   ·cases h
  ·cases h
 ·cases h
def ybj (T : zab) (t : TypeId) (x : AV) (lk : Nat → Option Blk) : Option (AV × Us) :=
 match T t with
 | some ti => match ti.d with
  | .slice e => match T e with
   | some te => match x with
    | .ms id s off len => match lk id with
     | some (.g s' xs) => if te.size = s ∧ s' = s ∧ off + len ≤ xs.length then some (.junk,[(id,some (.g s' (xs.take off ++ (List.replicate len (asv te te.zero) ++ xs.drop (off + len)))))]) else none
     | _ => none
    | _ => none
   | none => none
  | _ => none
 | none => none
include hl in
theorem zzf {p : Prop} [Decidable p] {nm : Nat} {x : AV} {b : Blk} {y : AV} {us : Us} (h : (if p then some (x,[(nm,some b)]) else none) = some (y,us)) : p ∧ x = y ∧ ∀ id,look (put H nm b) id = upd us lk id := by
 split at h
 ·injection h with h; injection h with h1 h2; subst h1 h2; exact ⟨by assumption,rfl,fun id => zal hl id⟩
 ·cases h
include hl in
theorem yis {T : zab} {t : TypeId} {x : AV} : Told (ziw T t x H) lk (ybj T t x lk) := by
 intro y us h
 unfold ybj at h
 unfold ziw
 split at h
 ·rename_i ti ht
  simp only [ht]
  split at h
  ·rename_i e hd
   simp only [hd]
   split at h
   ·rename_i te hte
    simp only [hte]
    split at h
    ·rename_i id s off len
     simp only [hl id]
     split at h
     ·rename_i s' xs hb
      simp only [hb]
      exact zzf hl h
     ·cases h
    ·cases h
   ·cases h
  ·cases h
 ·cases h
def ynp (lk : Nat → Option Blk) (x : AV) : Option (List UInt8) :=
 match x with
 | .str bs => some bs
 | _ => zvo lk x
include hl in
theorem ylg {x : AV} {l : List UInt8} (h : ynp lk x = some l) : (srcB H x).1 ∧ (srcB H x).2 = l := by
 unfold ynp at h
 unfold srcB
 split at h
 ·injection h with h; exact ⟨trivial,h⟩
 ·rename_i hx
  split
  ·rename_i bs; exact (hx bs rfl).elim
  ·exact zoq hl h
def ylv (T : zab) (ts : List TypeId) (d x : AV) (lk : Nat → Option Blk) : Option (AV × Us) :=
 match ts with
 | t :: _ => match T t with
  | some ti => match ti.d with
   | .slice e => match T e with
    | some te => match d with
     | .ms id s off len => match lk id with
      | some (.b bs) => match ynp lk x with
       | some ys => if te.size = 1 ∧ s = 1 ∧ off + len ≤ bs.length ∧ bs.length ≤ top then some (.w (word ((min ys.length len : Nat) : Int)),[(id,some (.b (bs.take off ++ (ys.take len ++ bs.drop (off + min ys.length len)))))]) else none
       | none => none
      | _ => none
     | _ => none
    | none => none
   | _ => none
  | none => none
 | _ => none
include hl in
theorem ylu {T : zab} {ts : List TypeId} {d x : AV} : Told (zpz T ts d x H) lk (ylv T ts d x lk) := by
 intro y us h
 unfold ylv at h
 unfold zpz
 split at h
 ·rename_i t _
  split at h
  ·rename_i ti ht
   simp only [ht]
   split at h
   ·rename_i e hd
    simp only [hd]
    split at h
    ·rename_i te hte
     simp only [hte]
     split at h
     ·rename_i id s off len
      simp only [hl id]
      split at h
      ·rename_i bs hb
       simp only [hb]
       split at h
       ·rename_i ys hy
        obtain ⟨a,b⟩ := ylg hl hy
        rw [b]
        obtain ⟨h1,h2,h3⟩ := zzf hl h
        exact ⟨⟨h1.1,h1.2.1,h1.2.2.1,h1.2.2.2,a⟩,h2,h3⟩
       ·cases h
      ·cases h
     ·cases h
    ·cases h
   ·cases h
  ·cases h
 ·cases h
def cFn (fn : Fn) (first : List Operand) (caps : List AV) : Option (AV × Us) :=
 match fn,first with
 | .func f,[] => some (.fn f caps,[])
 | _,_ => none
include hl in
theorem ypz {fn : Fn} {first : List Operand} {caps : List AV} : Told (aFn fn first caps H) lk (cFn fn first caps) := by
 intro y us h
 unfold cFn at h
 unfold aFn
 split at h
 ·exact zby hl h
 ·cases h
def ykq : AV → Bool
 | .ms _ _ _ _ => true
 | _ => false
theorem ykp {x : AV} (h : ykq x = false) : ynf x := by
 cases x <;> first | trivial | cases h
def ztb (T : zab) (nm : Nat) (sl : List AV) (b : Builtin) (args : List Operand) (ts : List TypeId) (e : Operand → AV) (lk : Nat → Option Blk) : Option (AV × Us) :=
 match b with
 | .len => match args,ts with
  | [x],[t] => cLen T t (e x) lk
  | _,_ => none
 | .min => cMin (args.map e)
 | .max => cMax (args.map e)
 | .append => match args with
  | [d,x] => ztc T nm ts (e d) (e x) lk
  | _ => none
 | .delete => match args,ts with
  | [d,x],t :: _ => zta T t (e d) (e x) lk
  | _,_ => none
 | .clear => match args,ts with
  | [x],[t] => ybj T t (e x) lk
  | _,_ => none
 | .copy => match args with
  | [d,x] => ylv T ts (e d) (e x) lk
  | _ => none
 | _ => none
def cop (T : zab) (nm : Nat) (e : Operand → AV) (lk : Nat → Option Blk) (op : Op) : Option (AV × Us) :=
 match op with
 | .move x => some (e x,[])
 | .assign x => some (e x,[])
 | .pick c a b => ydt (e c) (e a) (e b)
 | .alloc t => ybl T nm t
 | .box t x => cBox T nm t (e x)
 | .build t ps => ybk T t (ps.toList.map fun p => (p.1,e p.2))
 | .buildSlice t n ps => zgx T nm t n (ps.toList.map fun p => (p.1,e p.2))
 | .load t a => yio T t (e a) lk
 | .store t a x => yba T t (e a) (e x) lk
 | .nilCheck x => cNil (e x) lk
 | .binOp op t x y _ => cBin T op t (e x) (e y) lk
 | .unOp op _ x => cUn op (e x)
 | .convert s d x => bif coldStr T d && ykq (e x) then none else ylx T s d nm (e x) lk
 | .makeSlice t l c => ylt T nm t (e l) (e c)
 | .slice t x lo hi mx => bif mx.isSome && hi.isNone then none else ybb T t (e x) (lo.map e) (hi.map e) (mx.map e) lk
 | .fieldAddr s x f => zil T s (e x) f lk
 | .field t x f => ybg T t (e x) f
 | .indexAddr t x i => zik T t (e x) (e i) lk
 | .index t x i => ybf T t (e x) (e i)
 | .extract x i => zmy (e x) i
 | .makeFunc fn first caps => cFn fn first.toList (caps.toList.map e)
 | .range t x => ybc T nm t (e x) lk
 | .next x b => ylr (e x) b lk
 | .makeMap _ r => zsw nm r
 | .lookup t x k ok => zsx T t (e x) (e k) ok lk
 | .mapUpdate t x k v => zsv T t (e x) (e k) (e v) lk
 | .entry x => ybi (e x) lk
 | .call c => match c.callee with
  | .builtin b => ztb T nm [] b c.args.toList c.argTypes.toList e lk
  | _ => none
 | _ => none
theorem zoo (sl : List AV) (l : List Operand) : evs sl l = l.map (ev sl) := by
 induction l with
 | nil => rfl
 | cons x r ih => simp [evs,ih]
theorem yao (sl : List AV) (l : List (Nat × Operand)) : evps sl l = l.map fun p => (p.1,ev sl p.2) := by
 induction l with
 | nil => rfl
 | cons x r ih => simp [evps,ih]
theorem ynn (sl : List AV) (o : Option Operand) : evo sl o = o.map (ev sl) := by cases o <;> rfl
include hl in
theorem ypq {S : zae} {T : zab} {nm : Nat} {sl : List AV} {e : Operand → AV} (he : ∀ x,ev sl x = e x) {op : Op} : Told (aop S T nm sl op H) lk (cop T nm e lk op) := by
 have he' : ev sl = e := funext he
 subst he'
 cases op with
 | move x => intro y us h; exact zby hl h
 | assign x => intro y us h; exact zby hl h
 | pick c a b => exact ylp hl
 | alloc t => exact yiu hl
 | box t x => exact yoc hl
 | build t ps => simp only [aop,cop,yao]; exact yit hl
 | buildSlice t n ps => simp only [aop,cop,yao]; exact zpv hl
 | load t a => exact ybd hl
 | store t a x => exact yil hl
 | nilCheck x => exact ynx hl
 | binOp op t x y u => exact yod hl
 | unOp op t x => exact ypy hl
 | convert s d x =>
  simp only [aop,cop]
  cases hc : coldStr T d && ykq (ev sl x) with
  | true => intro y us h; cases h
  | false =>
   refine (ylw hl).and fun h => ?_
   rw [h] at hc
   exact ykp (by simpa using hc)
 | makeSlice t l c => exact yls hl
 | slice t x lo hi mx =>
  simp only [aop,cop,ynn]
  cases hc : mx.isSome && hi.isNone with
  | true => intro y us h; cases h
  | false =>
   refine (yim hl).and fun h => ?_
   rw [h] at hc
   cases hi with
   | none => simp at hc
   | some _ => rfl
 | fieldAddr s x f => exact zsz hl
 | field t x f => exact yiq hl
 | indexAddr t x i => exact zsy hl
 | index t x i => exact yip hl
 | extract x i => exact zyt hl
 | makeFunc fn first caps => simp only [aop,cop,zoo]; exact ypz hl
 | range t x => exact yin hl
 | next x b => exact ylq hl
 | makeMap t r => exact zys hl
 | lookup t x k ok => exact ydu hl
 | mapUpdate t x k v => exact yds hl
 | entry x => exact yir hl
 | call c =>
  obtain ⟨callee,args,argTypes⟩ := c
  cases callee with
  | builtin b =>
   intro y us h
   simp only [cop] at h
   simp only [aop,aCall]
   cases b <;> simp only [ztb] at h <;> simp only <;> first | (cases h; done) | skip
   case len =>
    split at h
    ·rename_i x t hx ht; simp only [hx,ht]; exact yoa hl _ _ h
    ·cases h
   case min => rw [zoo]; exact yny hl _ _ h
   case max => rw [zoo]; exact ynz hl _ _ h
   case append =>
    split at h
    ·rename_i d x hx; simp only [hx]; exact ydw hl _ _ h
    ·cases h
   case delete =>
    split at h
    ·rename_i d x t _ hx ht; simp only [hx,ht]; exact ydv hl _ _ h
    ·cases h
   case clear =>
    split at h
    ·rename_i x t hx ht; simp only [hx,ht]; exact yis hl _ _ h
    ·cases h
   case copy =>
    split at h
    ·rename_i d x hx; simp only [hx]; exact ylu hl _ _ h
    ·cases h
  | _ => intro y us h; cases h
 | _ => intro y us h; cases h
end
end Ax
end Go.Proofs.Ytffdpbbbdmmdlaa
