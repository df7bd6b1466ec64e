/- What the proofs of this seat stand on; it asks nothing. -/
import Derived.Test.YtdfgfdcfcdgadaaZa08
set_option linter.unusedSimpArgs false
set_option linter.unusedVariables false
namespace Go.Proofs.Ytdfgfdcfcdgadaa
open Ax
theorem zmj : ∀ {l : List AV} {x : AV},closedL l = true → x.closed = true → closedL (l ++ [x]) = true
 | [],x,_,h => by simp [closedL,h]
 | y :: l,x,h,h2 => by
  have h3 : y.closed = true ∧ closedL l = true := by simpa [closedL] using h
  show (y.closed && closedL (l ++ [x])) = true
  rw [h3.1,zmj h3.2 h2]; rfl
def zgz : zcc
 | [.w (.int .i64 p),.sg 6 ys f,.rf 0 1 0 0],[.g 1 [.sg 1 [] true]] => ⟨∃ rs : List Rec,ys = rs.map rv,.tup [],[.g 1 [.ms 1 1 0 1],.g 1 [.sg 6 ys f]]⟩
 | [.w (.int .i64 p),.sg 6 ys f,.rf 0 1 0 0],[.g 1 [.ms 1 1 0 n],.g 1 ls] => ⟨0 < n ∧ n = ls.length ∧ n ≤ 1000 ∧ closedL ls = true ∧ ∃ rs : List Rec,ys = rs.map rv,.tup [],[.g 1 [.ms 2 1 0 (n + 1)],gone,.g 1 (ls ++ [.sg 6 ys f])]⟩
 | _,_ => zkn
section
set_option maxRecDepth 100000
set_option maxHeartbeats 4000000 in
theorem ycy : zfr Try.prog 13 zgz := by
 refine zdg (S := noS) (SO := noO) (T := ty) mixed ty_ok znp ymz Try.func13 (c := Try.f13.body.getD .skip) (by kernel_rfl) (fun xs pins hp => ?_)
 unfold zgz at hp ⊢
 split at hp
 ·rename_i p ys f
  obtain ⟨rs,rfl⟩ := hp
  have hc1 : ∀ f,coe ty 22 (.sg 6 (rs.map rv) f) = .sg 6 (rs.map rv) f := fun f => by cases rs <;> rfl
  refine ⟨by simp,fun _ => .std,by kernel_rfl,?_⟩
  unfold Try.f13
  simp only [go_sem,zaa,↓reduceIte,lcT,ty,noS,noO,hc1,zah,show top = 4294967296 from rfl]
  refine ⟨_,Weak.refl _,?_⟩
  simp only [go_sem,zaa,↓reduceIte,lcT,ty,noS,noO]
 ·rename_i p ys f n ls
  obtain ⟨h0,rfl,hn,hcl,rs,rfl⟩ := hp
  have hc1 : ∀ f,coe ty 22 (.sg 6 (rs.map rv) f) = .sg 6 (rs.map rv) f := fun f => by cases rs <;> rfl
  have ht : top = 4294967296 := rfl
  have hca : closedL (ls ++ [.sg 6 (rs.map rv) f]) = true := zmj hcl rfl
  have hra : ∀ g,renL g (ls ++ [.sg 6 (rs.map rv) f]) = ls ++ [.sg 6 (rs.map rv) f] := fun g => renL_closed g _ hca
  refine ⟨by simp,fun _ => .std,by kernel_rfl,?_⟩
  unfold Try.f13
  simp only [go_sem,zaa,↓reduceIte,lcT,ty,noS,noO,hc1,zah,ht,h0,hcl]
  refine And.intro (by omega) ?_
  refine ⟨_,Weak.refl _,?_⟩
  simp only [go_sem,zaa,↓reduceIte,lcT,ty,noS,noO,hca,hra,cond_true]
 ·exact hp.elim
end
end Go.Proofs.Ytdfgfdcfcdgadaa
namespace Go.Proofs.Ytdfgfdcfcdgadaa
open Ax
def nbR (L : List Rec) : AV := .sg 6 ((nbL 0 L).map rv) false
theorem zas : ∀ Ls : List (List Rec),closedL (Ls.map nbR) = true
 | [] => rfl
 | L :: Ls => by
  show ((nbR L).closed && closedL (Ls.map nbR)) = true
  rw [zas Ls]
  simp only [nbR,AV.closed,zah,Bool.and_self]
def sgR (L : List Rec) : AV := .sg 6 (L.map rv) false
theorem zbj (g : Nat → Nat) (Ls : List (List Rec)) : renL g (Ls.map sgR) = Ls.map sgR := by
 refine renL_closed g _ ?_
 induction Ls with
 | nil => rfl
 | cons L Ls ih =>
  show ((sgR L).closed && closedL (Ls.map sgR)) = true
  rw [ih]
  simp only [sgR,AV.closed,zah,Bool.and_self]
theorem fgLm (id s : Nat) (zs : List AV) (rs : List Rec) : fgL id s zs (rs.map rv) = rs.map rv := by
 induction rs with
 | nil => rfl
 | cons r l ih => simp only [List.map_cons,fgL,ih]; rfl
theorem ylx (p : Int) : clP ((clP p : Nat) : Int) = clP p := by unfold clP; omega
def stp (P : Nat) (s : Nat × List (List Rec)) (r : Rec) : Nat × List (List Rec) :=
 if r.k = true then (s.1,s.2.set (ofP r.key P) (s.2.getD (ofP r.key P) [] ++ [r])) else ((s.1 + 1) % P,s.2.set s.1 (s.2.getD s.1 [] ++ [r]))
def splS (P : Nat) : zcc
 | [.sg 6 xs f,.w (.int .i64 parts),.w (.int .i64 turn),.fn id [.rf 0 1 0 0]],[.g 1 [.sg 1 [] true]] => ⟨id = 13 ∧ clP parts = P ∧ xs.length ≤ 1000 ∧ ∃ rs : List Rec,xs = rs.map rv ∧ ∀ r ∈ rs,r.key.length ≤ 1000000,
   .w (.int .i64 ((xs.map rrec).foldl (stp P) ((max turn 0).toNat % P,List.replicate P [])).1),[.g 1 [.ms 1 1 0 P],.g 1 (((xs.map rrec).foldl (stp P) ((max turn 0).toNat % P,List.replicate P [])).2.map fun L => .sg 6 ((nbL 0 L).map rv) false)]⟩
 | _,_ => zkn
def zaf (f : FuncId) : Option zcc :=
 match f with
 | 15 => some zma
 | 7 => some zam
 | 17 => some nmbS
 | _ => none
theorem zei : Fns Try.prog zaf := by
 intro f s h
 unfold zaf at h
 split at h
 ·injection h with h; subst h; exact ⟨⟨_,Try.func15,by kernel_rfl,by kernel_rfl⟩,zos⟩
 ·injection h with h; subst h; exact ⟨⟨_,Try.func7,by kernel_rfl,by kernel_rfl⟩,znl⟩
 ·injection h with h; subst h; exact ⟨⟨_,Try.func17,by kernel_rfl,by kernel_rfl⟩,yep⟩
 ·cases h
def zag (f : FuncId) : Option zcc :=
 match f with
 | 13 => some zgz
 | _ => none
theorem zej : FnsO Try.prog zag := by
 intro f s h
 unfold zag at h
 split at h
 ·injection h with h; subst h; exact ⟨⟨_,Try.func13,by kernel_rfl,by kernel_rfl⟩,ycy⟩
 ·cases h
def zhq : zlh := fun id => match id with
 | 16 => .opn [] 4
 | _ => .std
section
set_option maxRecDepth 100000
set_option maxHeartbeats 32000000 in
theorem ybr : zfr Try.prog 12 (splS 1) := by
 refine zdg (S := zaf) (SO := zag) (T := ty) mixed ty_ok zei zej Try.func12 (c := Try.f12.body.getD .skip) (by kernel_rfl) (fun xs pins hp => ?_)
 unfold splS at hp ⊢
 split at hp
 · rename_i xs f parts turn id
   obtain ⟨rfl,hP,hL,rs,rfl,hk⟩ := hp
   rw [List.length_map] at hL
   have hlr : (rs.map rv).length = rs.length := by simp
   have ht : top = 4294967296 := rfl
   have hP2 : ((clP parts : Nat) : Int) = 1 := by rw [hP]; rfl
   rw [zaz]
   obtain ⟨T0,hT0⟩ : ∃ T,max turn 0 = ((T : Nat) : Int) := ⟨(max turn 0).toNat,by omega⟩
   have hT1 : (max turn 0).toNat = T0 := by omega
   have hmx : (if (0 : Int) > turn then (0 : Int) else turn) = ((T0 : Nat) : Int) := by rw [← hT0]; split <;> omega
   have hrm : Int.tmod ((T0 : Nat) : Int) 1 = ((T0 % 1 : Nat) : Int) := rfl
   rw [hT1]
   obtain ⟨X,hX⟩ : ∃ X,rs.foldl (stp 1) (T0 % 1,[[]]) = X := ⟨_,rfl⟩
   have hX0 : rs.foldl (stp 1) (T0 % 1,List.replicate 1 []) = X := hX
   rw [hX0]
   refine ⟨by simp,zhq,by kernel_rfl,?_⟩
   unfold Try.f12
   simp only [go_sem,zaa,↓reduceIte,lcT,ty,zaf,zag,zhq,zma,hP2,hlr,hmx,hrm]
   repeat (first | refine And.intro (by decide) ?_ | refine And.intro (by omega) ?_)
   refine zbe ⟨fun m σ => ∃ (i t : Nat) (L0 : List Rec),m = rs.length - i ∧ i ≤ rs.length ∧ t < 1 ∧ (L0.length ≤ i) ∧ (rs.drop i).foldl (stp 1) (t,[L0]) = X ∧
       σ = ⟨[.junk,.w (.int .i64 1),.w (.int .i64 t),.fn 13 [.rf 0 1 0 0],.junk,.junk,.junk,.junk,.junk,.ms 4 1 0 1,.junk,.junk,.junk,.junk,.junk,.junk,.junk,.junk,.junk,.junk,.junk,.junk,.junk,.sg 6 (rs.map rv) f,.w (.int .i64 rs.length),.w (.int .i64 i),.junk,.junk,.junk,.junk,.junk,.junk,.junk,.junk,.junk,.junk,.junk,.junk,.junk,.junk,.junk,.junk,.junk,.junk,.junk,.junk,.junk,.junk,.junk,.junk,.junk,.junk,.junk,.junk,.junk,.junk,.junk,.junk,.junk,.junk,.junk,.junk,.junk,.junk,.junk],[(0,.g 1 [.sg 1 [] true]),(4,.g 1 [.ms 5 6 0 L0.length]),(5,.g 6 (L0.map rv))],6⟩,?_,?_⟩
   · refine ⟨_,_,(zao 84 0 6 [.sg 6 [] true] rfl (by simp [AV.leaves]) (by decide) (by exact trivial) (by decide)).trans (zab [0,1,2,3,84,124] rfl rfl rfl ?_ ?_),0,T0 % 1,[],rfl,by omega,Nat.mod_lt _ (by omega),by simp,by rw [List.drop_zero]; exact hX,rfl⟩
     · simp only [ssT,zad,zae,setSlot,gOf,AV.ren,renL,Blk.ren,Ax.look,Ax.put,reduceCtorEq,↓reduceIte,Nat.reduceEqDiff,Nat.reduceLT,Nat.reduceAdd,List.length_append,List.length_cons,List.length_nil,Option.some.injEq]; try simp
     · simp only [ssT,zad,zae,setSlot,gOf,AV.ren,renL,Blk.ren,Ax.look,Ax.put,reduceCtorEq,↓reduceIte,Nat.reduceEqDiff,Nat.reduceLT,Nat.reduceAdd,List.length_append,List.length_cons,List.length_nil,Option.some.injEq]; try simp [renL]
   · rintro m σ ⟨i,t,L0,rfl,hi,ht3,hlen,hI,rfl⟩
     have e1 : ((i : Int) + 1 + 9223372036854775808) % 18446744073709551616 - 9223372036854775808 = ((i + 1 : Nat) : Int) := by omega
     by_cases hil : i < rs.length
     · have d4 : decide ((i : Int) < rs.length) = true := decide_eq_true (by omega)
       have hs1 := zba rv rs i hil
       have hkr := hk rs[i] (List.getElem_mem hil)
       have hdr : rs.drop i = rs[i] :: rs.drop (i + 1) := List.drop_eq_getElem_cons hil
       obtain ⟨r,hr⟩ : ∃ r,rs[i] = r := ⟨_,rfl⟩
       rw [hr] at hs1 hdr hkr
       rw [hdr,List.foldl_cons] at hI
       obtain ⟨d,tt,kd,key,dd,val⟩ := r
       simp only [rv] at hs1
       simp only at hkr
       cases kd with
       | true =>
         have hlt := zkl key 1
         have hcl : clP 1 = 1 := by decide
         rw [hcl] at hlt
         obtain ⟨to,hto⟩ : ∃ to,ofP key 1 = to := ⟨_,rfl⟩
         rw [hto] at hlt
         have hI : (rs.drop (i + 1)).foldl (stp 1) (t,([L0] : List (List Rec)).set to (([L0] : List (List Rec)).getD to [] ++ [⟨d,tt,true,key,dd,val⟩])) = X := by
           rw [← hI]; unfold stp; rw [if_pos rfl]; simp only; rw [show ofP key (((1 : Nat)) : Int) = to from hto]
         have hcs : to = 0 := by omega
         rcases hcs with rfl
         · have hat : L0.map rv ++ [.agg [.w (.int .i64 d),.w (.int .i64 tt),.w (.bool true),.str key,.w (.bool dd),.str val]] = (L0 ++ [(⟨d,tt,true,key,dd,val⟩ : Rec)]).map rv := by rw [List.map_append]; rfl
           have hlm : (L0.map rv).length = L0.length := by simp
           simp only [go_sem,zaa,↓reduceIte,lcT,ty,zaf,zag,zhq,zam,hlr,d4,hs1,e1,ht,Int.toNat_natCast,Bool.not_true,Bool.not_false,hat,hlm,hto,hkr]
           repeat (first | refine And.intro (by omega) ?_ | refine And.intro ⟨by omega,by omega⟩ ?_ | refine And.intro (by decide) ?_)
           refine ⟨rs.length - (i + 1),_,by omega,zab [0,1,2,3,4,182] rfl rfl rfl ?_ ?_,i + 1,t,L0 ++ [(⟨d,tt,true,key,dd,val⟩ : Rec)],rfl,by omega,by omega,by simp only [List.length_append,List.length_cons,List.length_nil]; omega,hI,rfl⟩
           · simp only [ssT,zad,zae,setSlot,gOf,AV.ren,renL,Blk.ren,Ax.look,Ax.put,reduceCtorEq,↓reduceIte,Nat.reduceEqDiff,Nat.reduceLT,Nat.reduceAdd,List.length_append,List.length_cons,List.length_nil,Option.some.injEq]; try simp
           · simp only [ssT,zad,zae,setSlot,gOf,AV.ren,renL,Blk.ren,Ax.look,Ax.put,reduceCtorEq,↓reduceIte,Nat.reduceEqDiff,Nat.reduceLT,Nat.reduceAdd,List.length_append,List.length_cons,List.length_nil,Option.some.injEq,zak]; try simp
       | false =>
         have hI : (rs.drop (i + 1)).foldl (stp 1) ((t + 1) % 1,([L0] : List (List Rec)).set t (([L0] : List (List Rec)).getD t [] ++ [⟨d,tt,false,key,dd,val⟩])) = X := hI
         have hcs : t = 0 := by omega
         rcases hcs with rfl
         · have hw : (((0 : Nat) : Int) + 1 + 9223372036854775808) % 18446744073709551616 - 9223372036854775808 = ((1 : Nat) : Int) := by omega
           have hrt : Int.tmod ((1 : Nat) : Int) 1 = ((0 : Nat) : Int) := rfl
           have hat : L0.map rv ++ [.agg [.w (.int .i64 d),.w (.int .i64 tt),.w (.bool false),.str key,.w (.bool dd),.str val]] = (L0 ++ [(⟨d,tt,false,key,dd,val⟩ : Rec)]).map rv := by rw [List.map_append]; rfl
           have hlm : (L0.map rv).length = L0.length := by simp
           simp only [go_sem,zaa,↓reduceIte,lcT,ty,zaf,zag,zhq,zam,hlr,d4,hs1,e1,ht,Int.toNat_natCast,Bool.not_true,Bool.not_false,hat,hlm,hw,hrt]
           repeat (first | refine And.intro (by omega) ?_ | refine And.intro ⟨by omega,by omega⟩ ?_ | refine And.intro (by decide) ?_)
           refine ⟨rs.length - (i + 1),_,by omega,zab [0,1,2,3,4,182] rfl rfl rfl ?_ ?_,i + 1,0,L0 ++ [(⟨d,tt,false,key,dd,val⟩ : Rec)],rfl,by omega,by omega,by simp only [List.length_append,List.length_cons,List.length_nil]; omega,hI,rfl⟩
           · simp only [ssT,zad,zae,setSlot,gOf,AV.ren,renL,Blk.ren,Ax.look,Ax.put,reduceCtorEq,↓reduceIte,Nat.reduceEqDiff,Nat.reduceLT,Nat.reduceAdd,List.length_append,List.length_cons,List.length_nil,Option.some.injEq]; try simp
           · simp only [ssT,zad,zae,setSlot,gOf,AV.ren,renL,Blk.ren,Ax.look,Ax.put,reduceCtorEq,↓reduceIte,Nat.reduceEqDiff,Nat.reduceLT,Nat.reduceAdd,List.length_append,List.length_cons,List.length_nil,Option.some.injEq,zak]; try simp
     · have d4 : decide ((i : Int) < rs.length) = false := decide_eq_false (by omega)
       have hdr : rs.drop i = [] := List.drop_eq_nil_of_le (by omega)
       rw [hdr,List.foldl_nil] at hI
       subst hI
       simp only [go_sem,zaa,↓reduceIte,lcT,ty,zaf,zag,zhq,hlr,d4]
       have hd0 : decide (0 + L0.length ≤ (L0.map rv).length) = true := decide_eq_true (by simp)
       have ht0 : (L0.map rv).take L0.length = L0.map rv := List.take_of_length_le (by simp)
       refine ⟨_,(zav 5 6 9 4 (L0.map rv) (.g 1 [.ms 5 6 0 L0.length]) rfl (zah _) rfl (by simp [slot,AV.ids]) (by simp [Blk.idsB,Blk.closed,closedL,AV.closed,idsL,AV.ids])).trans (by simp only [fgL,fgH,AV.fg,Blk.fg,fgLm,Nat.reduceBEq,cond_true,cond_false,hd0,ht0,Bool.and_true,beq_self_eq_true,Bool.true_and,List.drop_zero]; exact zez 4 1 9 [.sg 6 (L0.map rv) false] rfl (by simp only [closedL,AV.closed,zah,Bool.and_self]) (by simp [slot,AV.ids])),?_⟩
       simp only [fgL,fgH,AV.fg,Blk.fg,fgLm,Nat.reduceBEq,cond_true,cond_false,hd0,ht0,Bool.and_true,beq_self_eq_true,Bool.true_and,List.drop_zero,List.take_succ_cons,List.take_zero,List.length_cons,List.length_nil,Nat.reduceAdd,Nat.reduceLeDiff,decide_true]
       have hml : ∀ L ∈ [L0],L.length ≤ 1000 := by
         intro L hL
         simp only [List.mem_cons,List.not_mem_nil,or_false] at hL
         rcases hL with rfl <;> omega
       obtain ⟨Ls,hLs⟩ : ∃ Ls : List (List Rec),[L0] = Ls := ⟨_,rfl⟩
       have hsg : [.sg 6 (L0.map rv) false] = Ls.map sgR := by rw [← hLs]; rfl
       have hPl : Ls.length = 1 := by rw [← hLs]; rfl
       have hbl : [.sg 6 ((nbL 0 L0).map rv) false] = Ls.map nbR := by rw [← hLs]; rfl
       rw [hsg,hbl]
       rw [hLs] at hml
       clear hLs hsg hbl hlen
       have hPm : (Ls.map sgR).length = 1 := by rw [List.length_map]; exact hPl
       simp only [go_sem,zaa,↓reduceIte,lcT,ty,zaf,zag,zhq,hPm]
       refine zbe ⟨fun m σ => ∃ j : Nat,m = 1 - j ∧ j ≤ 1 ∧
           ((j = 0 ∧ σ = ⟨[.junk,.junk,.w (.int .i64 t),.fn 13 [.rf 0 1 0 0],.junk,.junk,.junk,.junk,.junk,.junk,.junk,.junk,.junk,.junk,.junk,.junk,.junk,.junk,.junk,.junk,.junk,.junk,.junk,.junk,.junk,.junk,.junk,.junk,.junk,.junk,.junk,.junk,.junk,.junk,.junk,.junk,.junk,.junk,.junk,.junk,.junk,.junk,.junk,.junk,.junk,.junk,.junk,.junk,.junk,.junk,.junk,.sg 1 (Ls.map sgR) false,.w (.int .i64 1),.w (.int .i64 j),.junk,.junk,.junk,.junk,.junk,.junk,.junk,.junk,.junk,.junk,.junk],[(0,.g 1 [.sg 1 [] true])],4⟩) ∨
            (0 < j ∧ σ = ⟨[.junk,.junk,.w (.int .i64 t),.fn 13 [.rf 0 1 0 0],.junk,.junk,.junk,.junk,.junk,.junk,.junk,.junk,.junk,.junk,.junk,.junk,.junk,.junk,.junk,.junk,.junk,.junk,.junk,.junk,.junk,.junk,.junk,.junk,.junk,.junk,.junk,.junk,.junk,.junk,.junk,.junk,.junk,.junk,.junk,.junk,.junk,.junk,.junk,.junk,.junk,.junk,.junk,.junk,.junk,.junk,.junk,.sg 1 (Ls.map sgR) false,.w (.int .i64 1),.w (.int .i64 j),.junk,.junk,.junk,.junk,.junk,.junk,.junk,.junk,.junk,.junk,.junk],[(0,.g 1 [.ms 4 1 0 j]),(4,.g 1 ((Ls.take j).map nbR))],5⟩)),?_,?_⟩
       · refine ⟨_,_,zab [0,1,2,3] rfl rfl rfl ?_ ?_,0,rfl,by omega,.inl ⟨rfl,rfl⟩⟩
         · simp only [ssT,zad,zae,setSlot,gOf,AV.ren,renL,Blk.ren,Ax.look,Ax.put,reduceCtorEq,↓reduceIte,Nat.reduceEqDiff,Nat.reduceLT,Nat.reduceAdd,List.length_append,List.length_cons,List.length_nil,Option.some.injEq,zbj]; try simp
         · simp only [ssT,zad,zae,setSlot,gOf,AV.ren,renL,Blk.ren,Ax.look,Ax.put,reduceCtorEq,↓reduceIte,Nat.reduceEqDiff,Nat.reduceLT,Nat.reduceAdd,List.length_append,List.length_cons,List.length_nil,Option.some.injEq]; try simp
       · rintro m σ ⟨j,rfl,hj,hσ⟩
         have e2 : ((j : Int) + 1 + 9223372036854775808) % 18446744073709551616 - 9223372036854775808 = ((j + 1 : Nat) : Int) := by omega
         by_cases hjl : j < 1
         · have d5 : decide ((j : Int) < 1) = true := decide_eq_true (by omega)
           have hjL : j < Ls.length := by omega
           have hs2 : slot (Ls.map sgR) j = sgR Ls[j] := zba sgR Ls j hjL
           have htk : Ls.take (j + 1) = Ls.take j ++ [Ls[j]] := List.take_succ_eq_append_getElem hjL
           have hm2 := hml Ls[j] (List.getElem_mem hjL)
           obtain ⟨L,hL2⟩ : ∃ L,Ls[j] = L := ⟨_,rfl⟩
           rw [hL2] at hs2 htk hm2
           have hs2 : slot (Ls.map sgR) j = .sg 6 (L.map rv) false := hs2
           have hlm : (L.map rv).length = L.length := by simp
           have hL6 : L.length ≤ 1000000 := by omega
           have hxL : ∃ q : List Rec,L.map rv = q.map rv := ⟨L,rfl⟩
           have hxN : ∃ q : List Rec,(nbL 0 L).map rv = q.map rv := ⟨_,rfl⟩
           have hcL : ∀ f,coe ty 22 (.sg 6 (L.map rv) f) = .sg 6 (L.map rv) f := fun f => by cases L <;> rfl
           have hcN : ∀ f,coe ty 22 (.sg 6 ((nbL 0 L).map rv) f) = .sg 6 ((nbL 0 L).map rv) f := fun f => by cases (nbL 0 L) <;> rfl
           have hat : (Ls.take j).map nbR ++ [.sg 6 ((nbL 0 L).map rv) false] = (Ls.take (j + 1)).map nbR := by rw [htk,List.map_append]; rfl
           have htl : ((Ls.take j).map nbR).length = j := by rw [List.length_map,List.length_take]; omega
           have hcb := zas (Ls.take j)
           have hcb1 := zas (Ls.take (j + 1))
           have hrb1 : ∀ g,renL g ((Ls.take (j + 1)).map nbR) = (Ls.take (j + 1)).map nbR := fun g => renL_closed g _ hcb1
           rcases hσ with ⟨rfl,rfl⟩ | ⟨hj0,rfl⟩
           · simp only [go_sem,zaa,↓reduceIte,lcT,ty,zaf,zag,zhq,hPm,d5,hs2,e2,nmbS,zgz,hlm,hL6,hxL,hxN,hcL,hcN,zaz,zah,Int.toNat_natCast]
             repeat (first | refine And.intro (by omega) ?_ | refine And.intro ⟨by omega,by omega⟩ ?_ | refine And.intro (by decide) ?_)
             have hat0 : (Ls.take (0 + 1)).map nbR = [.sg 6 ((nbL 0 L).map rv) false] := by rw [htk]; rfl
             refine ⟨1 - (0 + 1),_,by omega,zab [0,1,2,3,84] rfl rfl rfl ?_ ?_,0 + 1,rfl,by omega,.inr ⟨by omega,rfl⟩⟩
             · simp only [ssT,zad,zae,setSlot,gOf,AV.ren,renL,Blk.ren,Ax.look,Ax.put,reduceCtorEq,↓reduceIte,Nat.reduceEqDiff,Nat.reduceLT,Nat.reduceAdd,List.length_append,List.length_cons,List.length_nil,Option.some.injEq,zbj]; try simp
             · simp only [ssT,zad,zae,setSlot,gOf,AV.ren,renL,Blk.ren,Ax.look,Ax.put,reduceCtorEq,↓reduceIte,Nat.reduceEqDiff,Nat.reduceLT,Nat.reduceAdd,List.length_append,List.length_cons,List.length_nil,Option.some.injEq,zak,hat0]; try simp [renL,zak]
           · have dj : decide (0 < j) = true := decide_eq_true hj0
             have hj1 : j ≤ 1000 := by omega
             simp only [go_sem,zaa,↓reduceIte,lcT,ty,zaf,zag,zhq,hPm,d5,hs2,e2,nmbS,zgz,hlm,hL6,hxL,hxN,hcL,hcN,zaz,zah,htl,hcb,hcb1,hat,hj0,dj,hj1,cond_true,Int.toNat_natCast]
             repeat (first | refine And.intro (by omega) ?_ | refine And.intro ⟨by omega,by omega⟩ ?_ | refine And.intro (by decide) ?_)
             refine ⟨1 - (j + 1),_,by omega,zab [0,1,2,3,85] rfl rfl rfl ?_ ?_,j + 1,rfl,by omega,.inr ⟨by omega,rfl⟩⟩
             · simp only [ssT,zad,zae,setSlot,gOf,AV.ren,renL,Blk.ren,Ax.look,Ax.put,reduceCtorEq,↓reduceIte,Nat.reduceEqDiff,Nat.reduceLT,Nat.reduceAdd,List.length_append,List.length_cons,List.length_nil,Option.some.injEq,zbj]; try simp
             · simp only [ssT,zad,zae,setSlot,gOf,AV.ren,renL,Blk.ren,Ax.look,Ax.put,reduceCtorEq,↓reduceIte,Nat.reduceEqDiff,Nat.reduceLT,Nat.reduceAdd,List.length_append,List.length_cons,List.length_nil,Option.some.injEq,hrb1]; try simp
         · have d5 : decide ((j : Int) < 1) = false := decide_eq_false (by omega)
           obtain rfl : j = 1 := by omega
           have htk : Ls.take 1 = Ls := List.take_of_length_le (by omega)
           rcases hσ with ⟨h0,_⟩ | ⟨_,rfl⟩
           · omega
           · rw [htk]
             have hcb := zas Ls
             have hrb : ∀ g,renL g (Ls.map nbR) = Ls.map nbR := fun g => renL_closed g _ hcb
             simp only [go_sem,zaa,↓reduceIte,lcT,ty,zaf,zag,zhq,hPm,d5]
             refine ⟨_,Weak.refl _,?_⟩
             simp only [go_sem,zaa,↓reduceIte,lcT,ty,zaf,zag,zhq]
             refine ⟨_,Weak.refl _,?_⟩
             simp only [go_sem,zaa,↓reduceIte,lcT,ty,zaf,zag,zhq,hcb,hrb,cond_true]
 · exact hp.elim
end
end Go.Proofs.Ytdfgfdcfcdgadaa
namespace Go.Proofs.Ytdfgfdcfcdgadaa
open Ax
def zgi : zlh := fun id => match id with
 | 16 => .opn [] 4
 | _ => .std
section
set_option maxRecDepth 100000
set_option maxHeartbeats 32000000 in
theorem ybq : zfr Try.prog 12 (splS 2) := by
 refine zdg (S := zaf) (SO := zag) (T := ty) mixed ty_ok zei zej Try.func12 (c := Try.f12.body.getD .skip) (by kernel_rfl) (fun xs pins hp => ?_)
 unfold splS at hp ⊢
 split at hp
 · rename_i xs f parts turn id
   obtain ⟨rfl,hP,hL,rs,rfl,hk⟩ := hp
   rw [List.length_map] at hL
   have hlr : (rs.map rv).length = rs.length := by simp
   have ht : top = 4294967296 := rfl
   have hP2 : ((clP parts : Nat) : Int) = 2 := by rw [hP]; rfl
   rw [zaz]
   obtain ⟨T0,hT0⟩ : ∃ T,max turn 0 = ((T : Nat) : Int) := ⟨(max turn 0).toNat,by omega⟩
   have hT1 : (max turn 0).toNat = T0 := by omega
   have hmx : (if (0 : Int) > turn then (0 : Int) else turn) = ((T0 : Nat) : Int) := by rw [← hT0]; split <;> omega
   have hrm : Int.tmod ((T0 : Nat) : Int) 2 = ((T0 % 2 : Nat) : Int) := rfl
   rw [hT1]
   obtain ⟨X,hX⟩ : ∃ X,rs.foldl (stp 2) (T0 % 2,[[],[]]) = X := ⟨_,rfl⟩
   have hX0 : rs.foldl (stp 2) (T0 % 2,List.replicate 2 []) = X := hX
   rw [hX0]
   refine ⟨by simp,zgi,by kernel_rfl,?_⟩
   unfold Try.f12
   simp only [go_sem,zaa,↓reduceIte,lcT,ty,zaf,zag,zgi,zma,hP2,hlr,hmx,hrm]
   repeat (first | refine And.intro (by decide) ?_ | refine And.intro (by omega) ?_)
   refine zbe ⟨fun m σ => ∃ (i t : Nat) (L0 L1 : List Rec),m = rs.length - i ∧ i ≤ rs.length ∧ t < 2 ∧ (L0.length ≤ i ∧ L1.length ≤ i) ∧ (rs.drop i).foldl (stp 2) (t,[L0,L1]) = X ∧
       σ = ⟨[.junk,.w (.int .i64 2),.w (.int .i64 t),.fn 13 [.rf 0 1 0 0],.junk,.junk,.junk,.junk,.junk,.ms 4 1 0 2,.junk,.junk,.junk,.junk,.junk,.junk,.junk,.junk,.junk,.junk,.junk,.junk,.junk,.sg 6 (rs.map rv) f,.w (.int .i64 rs.length),.w (.int .i64 i),.junk,.junk,.junk,.junk,.junk,.junk,.junk,.junk,.junk,.junk,.junk,.junk,.junk,.junk,.junk,.junk,.junk,.junk,.junk,.junk,.junk,.junk,.junk,.junk,.junk,.junk,.junk,.junk,.junk,.junk,.junk,.junk,.junk,.junk,.junk,.junk,.junk,.junk,.junk],[(0,.g 1 [.sg 1 [] true]),(4,.g 1 [.ms 5 6 0 L0.length,.ms 6 6 0 L1.length]),(5,.g 6 (L0.map rv)),(6,.g 6 (L1.map rv))],7⟩,?_,?_⟩
   · refine ⟨_,_,(zao 84 0 6 [.sg 6 [] true,.sg 6 [] true] rfl (by simp [AV.leaves]) (by decide) (by exact trivial) (by decide)).trans ((zao 84 1 6 [.ms 124 6 0 0,.sg 6 [] true] rfl (by simp [AV.leaves]) (by decide) (by exact trivial) (by decide)).trans (zab [0,1,2,3,84,124,125] rfl rfl rfl ?_ ?_)),0,T0 % 2,[],[],rfl,by omega,Nat.mod_lt _ (by omega),by simp,by rw [List.drop_zero]; exact hX,rfl⟩
     · simp only [ssT,zad,zae,setSlot,gOf,AV.ren,renL,Blk.ren,Ax.look,Ax.put,reduceCtorEq,↓reduceIte,Nat.reduceEqDiff,Nat.reduceLT,Nat.reduceAdd,List.length_append,List.length_cons,List.length_nil,Option.some.injEq]; try simp
     · simp only [ssT,zad,zae,setSlot,gOf,AV.ren,renL,Blk.ren,Ax.look,Ax.put,reduceCtorEq,↓reduceIte,Nat.reduceEqDiff,Nat.reduceLT,Nat.reduceAdd,List.length_append,List.length_cons,List.length_nil,Option.some.injEq]; try simp [renL]
   · rintro m σ ⟨i,t,L0,L1,rfl,hi,ht3,hlen,hI,rfl⟩
     have e1 : ((i : Int) + 1 + 9223372036854775808) % 18446744073709551616 - 9223372036854775808 = ((i + 1 : Nat) : Int) := by omega
     by_cases hil : i < rs.length
     · have d4 : decide ((i : Int) < rs.length) = true := decide_eq_true (by omega)
       have hs1 := zba rv rs i hil
       have hkr := hk rs[i] (List.getElem_mem hil)
       have hdr : rs.drop i = rs[i] :: rs.drop (i + 1) := List.drop_eq_getElem_cons hil
       obtain ⟨r,hr⟩ : ∃ r,rs[i] = r := ⟨_,rfl⟩
       rw [hr] at hs1 hdr hkr
       rw [hdr,List.foldl_cons] at hI
       obtain ⟨d,tt,kd,key,dd,val⟩ := r
       simp only [rv] at hs1
       simp only at hkr
       cases kd with
       | true =>
         have hlt := zkl key 2
         have hcl : clP 2 = 2 := by decide
         rw [hcl] at hlt
         obtain ⟨to,hto⟩ : ∃ to,ofP key 2 = to := ⟨_,rfl⟩
         rw [hto] at hlt
         have hI : (rs.drop (i + 1)).foldl (stp 2) (t,([L0,L1] : List (List Rec)).set to (([L0,L1] : List (List Rec)).getD to [] ++ [⟨d,tt,true,key,dd,val⟩])) = X := by
           rw [← hI]; unfold stp; rw [if_pos rfl]; simp only; rw [show ofP key (((2 : Nat)) : Int) = to from hto]
         have hcs : to = 0 ∨ to = 1 := by omega
         rcases hcs with rfl | rfl
         · have hat : L0.map rv ++ [.agg [.w (.int .i64 d),.w (.int .i64 tt),.w (.bool true),.str key,.w (.bool dd),.str val]] = (L0 ++ [(⟨d,tt,true,key,dd,val⟩ : Rec)]).map rv := by rw [List.map_append]; rfl
           have hlm : (L0.map rv).length = L0.length := by simp
           simp only [go_sem,zaa,↓reduceIte,lcT,ty,zaf,zag,zgi,zam,hlr,d4,hs1,e1,ht,Int.toNat_natCast,Bool.not_true,Bool.not_false,hat,hlm,hto,hkr]
           repeat (first | refine And.intro (by omega) ?_ | refine And.intro ⟨by omega,by omega⟩ ?_ | refine And.intro (by decide) ?_)
           refine ⟨rs.length - (i + 1),_,by omega,zab [0,1,2,3,4,183,6] rfl rfl rfl ?_ ?_,i + 1,t,L0 ++ [(⟨d,tt,true,key,dd,val⟩ : Rec)],L1,rfl,by omega,by omega,by simp only [List.length_append,List.length_cons,List.length_nil]; omega,hI,rfl⟩
           · simp only [ssT,zad,zae,setSlot,gOf,AV.ren,renL,Blk.ren,Ax.look,Ax.put,reduceCtorEq,↓reduceIte,Nat.reduceEqDiff,Nat.reduceLT,Nat.reduceAdd,List.length_append,List.length_cons,List.length_nil,Option.some.injEq]; try simp
           · simp only [ssT,zad,zae,setSlot,gOf,AV.ren,renL,Blk.ren,Ax.look,Ax.put,reduceCtorEq,↓reduceIte,Nat.reduceEqDiff,Nat.reduceLT,Nat.reduceAdd,List.length_append,List.length_cons,List.length_nil,Option.some.injEq,zak]; try simp
         · have hat : L1.map rv ++ [.agg [.w (.int .i64 d),.w (.int .i64 tt),.w (.bool true),.str key,.w (.bool dd),.str val]] = (L1 ++ [(⟨d,tt,true,key,dd,val⟩ : Rec)]).map rv := by rw [List.map_append]; rfl
           have hlm : (L1.map rv).length = L1.length := by simp
           simp only [go_sem,zaa,↓reduceIte,lcT,ty,zaf,zag,zgi,zam,hlr,d4,hs1,e1,ht,Int.toNat_natCast,Bool.not_true,Bool.not_false,hat,hlm,hto,hkr]
           repeat (first | refine And.intro (by omega) ?_ | refine And.intro ⟨by omega,by omega⟩ ?_ | refine And.intro (by decide) ?_)
           refine ⟨rs.length - (i + 1),_,by omega,zab [0,1,2,3,4,5,183] rfl rfl rfl ?_ ?_,i + 1,t,L0,L1 ++ [(⟨d,tt,true,key,dd,val⟩ : Rec)],rfl,by omega,by omega,by simp only [List.length_append,List.length_cons,List.length_nil]; omega,hI,rfl⟩
           · simp only [ssT,zad,zae,setSlot,gOf,AV.ren,renL,Blk.ren,Ax.look,Ax.put,reduceCtorEq,↓reduceIte,Nat.reduceEqDiff,Nat.reduceLT,Nat.reduceAdd,List.length_append,List.length_cons,List.length_nil,Option.some.injEq]; try simp
           · simp only [ssT,zad,zae,setSlot,gOf,AV.ren,renL,Blk.ren,Ax.look,Ax.put,reduceCtorEq,↓reduceIte,Nat.reduceEqDiff,Nat.reduceLT,Nat.reduceAdd,List.length_append,List.length_cons,List.length_nil,Option.some.injEq,zak]; try simp
       | false =>
         have hI : (rs.drop (i + 1)).foldl (stp 2) ((t + 1) % 2,([L0,L1] : List (List Rec)).set t (([L0,L1] : List (List Rec)).getD t [] ++ [⟨d,tt,false,key,dd,val⟩])) = X := hI
         have hcs : t = 0 ∨ t = 1 := by omega
         rcases hcs with rfl | rfl
         · have hw : (((0 : Nat) : Int) + 1 + 9223372036854775808) % 18446744073709551616 - 9223372036854775808 = ((1 : Nat) : Int) := by omega
           have hrt : Int.tmod ((1 : Nat) : Int) 2 = ((1 : Nat) : Int) := rfl
           have hat : L0.map rv ++ [.agg [.w (.int .i64 d),.w (.int .i64 tt),.w (.bool false),.str key,.w (.bool dd),.str val]] = (L0 ++ [(⟨d,tt,false,key,dd,val⟩ : Rec)]).map rv := by rw [List.map_append]; rfl
           have hlm : (L0.map rv).length = L0.length := by simp
           simp only [go_sem,zaa,↓reduceIte,lcT,ty,zaf,zag,zgi,zam,hlr,d4,hs1,e1,ht,Int.toNat_natCast,Bool.not_true,Bool.not_false,hat,hlm,hw,hrt]
           repeat (first | refine And.intro (by omega) ?_ | refine And.intro ⟨by omega,by omega⟩ ?_ | refine And.intro (by decide) ?_)
           refine ⟨rs.length - (i + 1),_,by omega,zab [0,1,2,3,4,183,6] rfl rfl rfl ?_ ?_,i + 1,1,L0 ++ [(⟨d,tt,false,key,dd,val⟩ : Rec)],L1,rfl,by omega,by omega,by simp only [List.length_append,List.length_cons,List.length_nil]; omega,hI,rfl⟩
           · simp only [ssT,zad,zae,setSlot,gOf,AV.ren,renL,Blk.ren,Ax.look,Ax.put,reduceCtorEq,↓reduceIte,Nat.reduceEqDiff,Nat.reduceLT,Nat.reduceAdd,List.length_append,List.length_cons,List.length_nil,Option.some.injEq]; try simp
           · simp only [ssT,zad,zae,setSlot,gOf,AV.ren,renL,Blk.ren,Ax.look,Ax.put,reduceCtorEq,↓reduceIte,Nat.reduceEqDiff,Nat.reduceLT,Nat.reduceAdd,List.length_append,List.length_cons,List.length_nil,Option.some.injEq,zak]; try simp
         · have hw : (((1 : Nat) : Int) + 1 + 9223372036854775808) % 18446744073709551616 - 9223372036854775808 = ((2 : Nat) : Int) := by omega
           have hrt : Int.tmod ((2 : Nat) : Int) 2 = ((0 : Nat) : Int) := rfl
           have hat : L1.map rv ++ [.agg [.w (.int .i64 d),.w (.int .i64 tt),.w (.bool false),.str key,.w (.bool dd),.str val]] = (L1 ++ [(⟨d,tt,false,key,dd,val⟩ : Rec)]).map rv := by rw [List.map_append]; rfl
           have hlm : (L1.map rv).length = L1.length := by simp
           simp only [go_sem,zaa,↓reduceIte,lcT,ty,zaf,zag,zgi,zam,hlr,d4,hs1,e1,ht,Int.toNat_natCast,Bool.not_true,Bool.not_false,hat,hlm,hw,hrt]
           repeat (first | refine And.intro (by omega) ?_ | refine And.intro ⟨by omega,by omega⟩ ?_ | refine And.intro (by decide) ?_)
           refine ⟨rs.length - (i + 1),_,by omega,zab [0,1,2,3,4,5,183] rfl rfl rfl ?_ ?_,i + 1,0,L0,L1 ++ [(⟨d,tt,false,key,dd,val⟩ : Rec)],rfl,by omega,by omega,by simp only [List.length_append,List.length_cons,List.length_nil]; omega,hI,rfl⟩
           · simp only [ssT,zad,zae,setSlot,gOf,AV.ren,renL,Blk.ren,Ax.look,Ax.put,reduceCtorEq,↓reduceIte,Nat.reduceEqDiff,Nat.reduceLT,Nat.reduceAdd,List.length_append,List.length_cons,List.length_nil,Option.some.injEq]; try simp
           · simp only [ssT,zad,zae,setSlot,gOf,AV.ren,renL,Blk.ren,Ax.look,Ax.put,reduceCtorEq,↓reduceIte,Nat.reduceEqDiff,Nat.reduceLT,Nat.reduceAdd,List.length_append,List.length_cons,List.length_nil,Option.some.injEq,zak]; try simp
     · have d4 : decide ((i : Int) < rs.length) = false := decide_eq_false (by omega)
       have hdr : rs.drop i = [] := List.drop_eq_nil_of_le (by omega)
       rw [hdr,List.foldl_nil] at hI
       subst hI
       simp only [go_sem,zaa,↓reduceIte,lcT,ty,zaf,zag,zgi,hlr,d4]
       have hd0 : decide (0 + L0.length ≤ (L0.map rv).length) = true := decide_eq_true (by simp)
       have ht0 : (L0.map rv).take L0.length = L0.map rv := List.take_of_length_le (by simp)
       have hd1 : decide (0 + L1.length ≤ (L1.map rv).length) = true := decide_eq_true (by simp)
       have ht1 : (L1.map rv).take L1.length = L1.map rv := List.take_of_length_le (by simp)
       refine ⟨_,(zav 5 6 9 4 (L0.map rv) (.g 1 [.ms 5 6 0 L0.length,.ms 6 6 0 L1.length]) rfl (zah _) rfl (by simp [slot,AV.ids]) (by simp [Blk.idsB,Blk.closed,closedL,AV.closed,idsL,AV.ids])).trans (by simp only [fgL,fgH,AV.fg,Blk.fg,fgLm,Nat.reduceBEq,cond_true,cond_false,hd0,ht0,Bool.and_true,beq_self_eq_true,Bool.true_and,List.drop_zero]; exact (zav 6 6 9 4 (L1.map rv) (.g 1 [.sg 6 (L0.map rv) false,.ms 6 6 0 L1.length]) rfl (zah _) rfl (by simp [slot,AV.ids]) (by simp [Blk.idsB,Blk.closed,closedL,AV.closed,idsL,AV.ids])).trans (by simp only [fgL,fgH,AV.fg,Blk.fg,fgLm,Nat.reduceBEq,cond_true,cond_false,hd1,ht1,Bool.and_true,beq_self_eq_true,Bool.true_and,List.drop_zero]; exact zez 4 1 9 [.sg 6 (L0.map rv) false,.sg 6 (L1.map rv) false] rfl (by simp only [closedL,AV.closed,zah,Bool.and_self]) (by simp [slot,AV.ids]))),?_⟩
       simp only [fgL,fgH,AV.fg,Blk.fg,fgLm,Nat.reduceBEq,cond_true,cond_false,hd0,ht0,hd1,ht1,Bool.and_true,beq_self_eq_true,Bool.true_and,List.drop_zero,List.take_succ_cons,List.take_zero,List.length_cons,List.length_nil,Nat.reduceAdd,Nat.reduceLeDiff,decide_true]
       have hml : ∀ L ∈ [L0,L1],L.length ≤ 1000 := by
         intro L hL
         simp only [List.mem_cons,List.not_mem_nil,or_false] at hL
         rcases hL with rfl | rfl <;> omega
       obtain ⟨Ls,hLs⟩ : ∃ Ls : List (List Rec),[L0,L1] = Ls := ⟨_,rfl⟩
       have hsg : [.sg 6 (L0.map rv) false,.sg 6 (L1.map rv) false] = Ls.map sgR := by rw [← hLs]; rfl
       have hPl : Ls.length = 2 := by rw [← hLs]; rfl
       have hbl : [.sg 6 ((nbL 0 L0).map rv) false,.sg 6 ((nbL 0 L1).map rv) false] = Ls.map nbR := by rw [← hLs]; rfl
       rw [hsg,hbl]
       rw [hLs] at hml
       clear hLs hsg hbl hlen
       have hPm : (Ls.map sgR).length = 2 := by rw [List.length_map]; exact hPl
       simp only [go_sem,zaa,↓reduceIte,lcT,ty,zaf,zag,zgi,hPm]
       refine zbe ⟨fun m σ => ∃ j : Nat,m = 2 - j ∧ j ≤ 2 ∧
           ((j = 0 ∧ σ = ⟨[.junk,.junk,.w (.int .i64 t),.fn 13 [.rf 0 1 0 0],.junk,.junk,.junk,.junk,.junk,.junk,.junk,.junk,.junk,.junk,.junk,.junk,.junk,.junk,.junk,.junk,.junk,.junk,.junk,.junk,.junk,.junk,.junk,.junk,.junk,.junk,.junk,.junk,.junk,.junk,.junk,.junk,.junk,.junk,.junk,.junk,.junk,.junk,.junk,.junk,.junk,.junk,.junk,.junk,.junk,.junk,.junk,.sg 1 (Ls.map sgR) false,.w (.int .i64 2),.w (.int .i64 j),.junk,.junk,.junk,.junk,.junk,.junk,.junk,.junk,.junk,.junk,.junk],[(0,.g 1 [.sg 1 [] true])],4⟩) ∨
            (0 < j ∧ σ = ⟨[.junk,.junk,.w (.int .i64 t),.fn 13 [.rf 0 1 0 0],.junk,.junk,.junk,.junk,.junk,.junk,.junk,.junk,.junk,.junk,.junk,.junk,.junk,.junk,.junk,.junk,.junk,.junk,.junk,.junk,.junk,.junk,.junk,.junk,.junk,.junk,.junk,.junk,.junk,.junk,.junk,.junk,.junk,.junk,.junk,.junk,.junk,.junk,.junk,.junk,.junk,.junk,.junk,.junk,.junk,.junk,.junk,.sg 1 (Ls.map sgR) false,.w (.int .i64 2),.w (.int .i64 j),.junk,.junk,.junk,.junk,.junk,.junk,.junk,.junk,.junk,.junk,.junk],[(0,.g 1 [.ms 4 1 0 j]),(4,.g 1 ((Ls.take j).map nbR))],5⟩)),?_,?_⟩
       · refine ⟨_,_,zab [0,1,2,3] rfl rfl rfl ?_ ?_,0,rfl,by omega,.inl ⟨rfl,rfl⟩⟩
         · simp only [ssT,zad,zae,setSlot,gOf,AV.ren,renL,Blk.ren,Ax.look,Ax.put,reduceCtorEq,↓reduceIte,Nat.reduceEqDiff,Nat.reduceLT,Nat.reduceAdd,List.length_append,List.length_cons,List.length_nil,Option.some.injEq,zbj]; try simp
         · simp only [ssT,zad,zae,setSlot,gOf,AV.ren,renL,Blk.ren,Ax.look,Ax.put,reduceCtorEq,↓reduceIte,Nat.reduceEqDiff,Nat.reduceLT,Nat.reduceAdd,List.length_append,List.length_cons,List.length_nil,Option.some.injEq]; try simp
       · rintro m σ ⟨j,rfl,hj,hσ⟩
         have e2 : ((j : Int) + 1 + 9223372036854775808) % 18446744073709551616 - 9223372036854775808 = ((j + 1 : Nat) : Int) := by omega
         by_cases hjl : j < 2
         · have d5 : decide ((j : Int) < 2) = true := decide_eq_true (by omega)
           have hjL : j < Ls.length := by omega
           have hs2 : slot (Ls.map sgR) j = sgR Ls[j] := zba sgR Ls j hjL
           have htk : Ls.take (j + 1) = Ls.take j ++ [Ls[j]] := List.take_succ_eq_append_getElem hjL
           have hm2 := hml Ls[j] (List.getElem_mem hjL)
           obtain ⟨L,hL2⟩ : ∃ L,Ls[j] = L := ⟨_,rfl⟩
           rw [hL2] at hs2 htk hm2
           have hs2 : slot (Ls.map sgR) j = .sg 6 (L.map rv) false := hs2
           have hlm : (L.map rv).length = L.length := by simp
           have hL6 : L.length ≤ 1000000 := by omega
           have hxL : ∃ q : List Rec,L.map rv = q.map rv := ⟨L,rfl⟩
           have hxN : ∃ q : List Rec,(nbL 0 L).map rv = q.map rv := ⟨_,rfl⟩
           have hcL : ∀ f,coe ty 22 (.sg 6 (L.map rv) f) = .sg 6 (L.map rv) f := fun f => by cases L <;> rfl
           have hcN : ∀ f,coe ty 22 (.sg 6 ((nbL 0 L).map rv) f) = .sg 6 ((nbL 0 L).map rv) f := fun f => by cases (nbL 0 L) <;> rfl
           have hat : (Ls.take j).map nbR ++ [.sg 6 ((nbL 0 L).map rv) false] = (Ls.take (j + 1)).map nbR := by rw [htk,List.map_append]; rfl
           have htl : ((Ls.take j).map nbR).length = j := by rw [List.length_map,List.length_take]; omega
           have hcb := zas (Ls.take j)
           have hcb1 := zas (Ls.take (j + 1))
           have hrb1 : ∀ g,renL g ((Ls.take (j + 1)).map nbR) = (Ls.take (j + 1)).map nbR := fun g => renL_closed g _ hcb1
           rcases hσ with ⟨rfl,rfl⟩ | ⟨hj0,rfl⟩
           · simp only [go_sem,zaa,↓reduceIte,lcT,ty,zaf,zag,zgi,hPm,d5,hs2,e2,nmbS,zgz,hlm,hL6,hxL,hxN,hcL,hcN,zaz,zah,Int.toNat_natCast]
             repeat (first | refine And.intro (by omega) ?_ | refine And.intro ⟨by omega,by omega⟩ ?_ | refine And.intro (by decide) ?_)
             have hat0 : (Ls.take (0 + 1)).map nbR = [.sg 6 ((nbL 0 L).map rv) false] := by rw [htk]; rfl
             refine ⟨2 - (0 + 1),_,by omega,zab [0,1,2,3,84] rfl rfl rfl ?_ ?_,0 + 1,rfl,by omega,.inr ⟨by omega,rfl⟩⟩
             · simp only [ssT,zad,zae,setSlot,gOf,AV.ren,renL,Blk.ren,Ax.look,Ax.put,reduceCtorEq,↓reduceIte,Nat.reduceEqDiff,Nat.reduceLT,Nat.reduceAdd,List.length_append,List.length_cons,List.length_nil,Option.some.injEq,zbj]; try simp
             · simp only [ssT,zad,zae,setSlot,gOf,AV.ren,renL,Blk.ren,Ax.look,Ax.put,reduceCtorEq,↓reduceIte,Nat.reduceEqDiff,Nat.reduceLT,Nat.reduceAdd,List.length_append,List.length_cons,List.length_nil,Option.some.injEq,zak,hat0]; try simp [renL,zak]
           · have dj : decide (0 < j) = true := decide_eq_true hj0
             have hj1 : j ≤ 1000 := by omega
             simp only [go_sem,zaa,↓reduceIte,lcT,ty,zaf,zag,zgi,hPm,d5,hs2,e2,nmbS,zgz,hlm,hL6,hxL,hxN,hcL,hcN,zaz,zah,htl,hcb,hcb1,hat,hj0,dj,hj1,cond_true,Int.toNat_natCast]
             repeat (first | refine And.intro (by omega) ?_ | refine And.intro ⟨by omega,by omega⟩ ?_ | refine And.intro (by decide) ?_)
             refine ⟨2 - (j + 1),_,by omega,zab [0,1,2,3,85] rfl rfl rfl ?_ ?_,j + 1,rfl,by omega,.inr ⟨by omega,rfl⟩⟩
             · simp only [ssT,zad,zae,setSlot,gOf,AV.ren,renL,Blk.ren,Ax.look,Ax.put,reduceCtorEq,↓reduceIte,Nat.reduceEqDiff,Nat.reduceLT,Nat.reduceAdd,List.length_append,List.length_cons,List.length_nil,Option.some.injEq,zbj]; try simp
             · simp only [ssT,zad,zae,setSlot,gOf,AV.ren,renL,Blk.ren,Ax.look,Ax.put,reduceCtorEq,↓reduceIte,Nat.reduceEqDiff,Nat.reduceLT,Nat.reduceAdd,List.length_append,List.length_cons,List.length_nil,Option.some.injEq,hrb1]; try simp
         · have d5 : decide ((j : Int) < 2) = false := decide_eq_false (by omega)
           obtain rfl : j = 2 := by omega
           have htk : Ls.take 2 = Ls := List.take_of_length_le (by omega)
           rcases hσ with ⟨h0,_⟩ | ⟨_,rfl⟩
           · omega
           · rw [htk]
             have hcb := zas Ls
             have hrb : ∀ g,renL g (Ls.map nbR) = Ls.map nbR := fun g => renL_closed g _ hcb
             simp only [go_sem,zaa,↓reduceIte,lcT,ty,zaf,zag,zgi,hPm,d5]
             refine ⟨_,Weak.refl _,?_⟩
             simp only [go_sem,zaa,↓reduceIte,lcT,ty,zaf,zag,zgi]
             refine ⟨_,Weak.refl _,?_⟩
             simp only [go_sem,zaa,↓reduceIte,lcT,ty,zaf,zag,zgi,hcb,hrb,cond_true]
 · exact hp.elim
end
end Go.Proofs.Ytdfgfdcfcdgadaa
namespace Go.Proofs.Ytdfgfdcfcdgadaa
open Ax
def zfc : zlh := fun id => match id with
 | 16 => .opn [] 4
 | _ => .std
section
set_option maxRecDepth 100000
set_option maxHeartbeats 32000000 in
theorem ybp : zfr Try.prog 12 (splS 3) := by
 refine zdg (S := zaf) (SO := zag) (T := ty) mixed ty_ok zei zej Try.func12 (c := Try.f12.body.getD .skip) (by kernel_rfl) (fun xs pins hp => ?_)
 unfold splS at hp ⊢
 split at hp
 · rename_i xs f parts turn id
   obtain ⟨rfl,hP,hL,rs,rfl,hk⟩ := hp
   rw [List.length_map] at hL
   have hlr : (rs.map rv).length = rs.length := by simp
   have ht : top = 4294967296 := rfl
   have hP2 : ((clP parts : Nat) : Int) = 3 := by rw [hP]; rfl
   rw [zaz]
   obtain ⟨T0,hT0⟩ : ∃ T,max turn 0 = ((T : Nat) : Int) := ⟨(max turn 0).toNat,by omega⟩
   have hT1 : (max turn 0).toNat = T0 := by omega
   have hmx : (if (0 : Int) > turn then (0 : Int) else turn) = ((T0 : Nat) : Int) := by rw [← hT0]; split <;> omega
   have hrm : Int.tmod ((T0 : Nat) : Int) 3 = ((T0 % 3 : Nat) : Int) := rfl
   rw [hT1]
   obtain ⟨X,hX⟩ : ∃ X,rs.foldl (stp 3) (T0 % 3,[[],[],[]]) = X := ⟨_,rfl⟩
   have hX0 : rs.foldl (stp 3) (T0 % 3,List.replicate 3 []) = X := hX
   rw [hX0]
   refine ⟨by simp,zfc,by kernel_rfl,?_⟩
   unfold Try.f12
   simp only [go_sem,zaa,↓reduceIte,lcT,ty,zaf,zag,zfc,zma,hP2,hlr,hmx,hrm]
   repeat (first | refine And.intro (by decide) ?_ | refine And.intro (by omega) ?_)
   refine zbe ⟨fun m σ => ∃ (i t : Nat) (L0 L1 L2 : List Rec),m = rs.length - i ∧ i ≤ rs.length ∧ t < 3 ∧ (L0.length ≤ i ∧ L1.length ≤ i ∧ L2.length ≤ i) ∧ (rs.drop i).foldl (stp 3) (t,[L0,L1,L2]) = X ∧
       σ = ⟨[.junk,.w (.int .i64 3),.w (.int .i64 t),.fn 13 [.rf 0 1 0 0],.junk,.junk,.junk,.junk,.junk,.ms 4 1 0 3,.junk,.junk,.junk,.junk,.junk,.junk,.junk,.junk,.junk,.junk,.junk,.junk,.junk,.sg 6 (rs.map rv) f,.w (.int .i64 rs.length),.w (.int .i64 i),.junk,.junk,.junk,.junk,.junk,.junk,.junk,.junk,.junk,.junk,.junk,.junk,.junk,.junk,.junk,.junk,.junk,.junk,.junk,.junk,.junk,.junk,.junk,.junk,.junk,.junk,.junk,.junk,.junk,.junk,.junk,.junk,.junk,.junk,.junk,.junk,.junk,.junk,.junk],[(0,.g 1 [.sg 1 [] true]),(4,.g 1 [.ms 5 6 0 L0.length,.ms 6 6 0 L1.length,.ms 7 6 0 L2.length]),(5,.g 6 (L0.map rv)),(6,.g 6 (L1.map rv)),(7,.g 6 (L2.map rv))],8⟩,?_,?_⟩
   · refine ⟨_,_,(zao 84 0 6 [.sg 6 [] true,.sg 6 [] true,.sg 6 [] true] rfl (by simp [AV.leaves]) (by decide) (by exact trivial) (by decide)).trans ((zao 84 1 6 [.ms 124 6 0 0,.sg 6 [] true,.sg 6 [] true] rfl (by simp [AV.leaves]) (by decide) (by exact trivial) (by decide)).trans ((zao 84 2 6 [.ms 124 6 0 0,.ms 125 6 0 0,.sg 6 [] true] rfl (by simp [AV.leaves]) (by decide) (by exact trivial) (by decide)).trans (zab [0,1,2,3,84,124,125,126] rfl rfl rfl ?_ ?_))),0,T0 % 3,[],[],[],rfl,by omega,Nat.mod_lt _ (by omega),by simp,by rw [List.drop_zero]; exact hX,rfl⟩
     · simp only [ssT,zad,zae,setSlot,gOf,AV.ren,renL,Blk.ren,Ax.look,Ax.put,reduceCtorEq,↓reduceIte,Nat.reduceEqDiff,Nat.reduceLT,Nat.reduceAdd,List.length_append,List.length_cons,List.length_nil,Option.some.injEq]; try simp
     · simp only [ssT,zad,zae,setSlot,gOf,AV.ren,renL,Blk.ren,Ax.look,Ax.put,reduceCtorEq,↓reduceIte,Nat.reduceEqDiff,Nat.reduceLT,Nat.reduceAdd,List.length_append,List.length_cons,List.length_nil,Option.some.injEq]; try simp [renL]
   · rintro m σ ⟨i,t,L0,L1,L2,rfl,hi,ht3,hlen,hI,rfl⟩
     have e1 : ((i : Int) + 1 + 9223372036854775808) % 18446744073709551616 - 9223372036854775808 = ((i + 1 : Nat) : Int) := by omega
     by_cases hil : i < rs.length
     · have d4 : decide ((i : Int) < rs.length) = true := decide_eq_true (by omega)
       have hs1 := zba rv rs i hil
       have hkr := hk rs[i] (List.getElem_mem hil)
       have hdr : rs.drop i = rs[i] :: rs.drop (i + 1) := List.drop_eq_getElem_cons hil
       obtain ⟨r,hr⟩ : ∃ r,rs[i] = r := ⟨_,rfl⟩
       rw [hr] at hs1 hdr hkr
       rw [hdr,List.foldl_cons] at hI
       obtain ⟨d,tt,kd,key,dd,val⟩ := r
       simp only [rv] at hs1
       simp only at hkr
       cases kd with
       | true =>
         have hlt := zkl key 3
         have hcl : clP 3 = 3 := by decide
         rw [hcl] at hlt
         obtain ⟨to,hto⟩ : ∃ to,ofP key 3 = to := ⟨_,rfl⟩
         rw [hto] at hlt
         have hI : (rs.drop (i + 1)).foldl (stp 3) (t,([L0,L1,L2] : List (List Rec)).set to (([L0,L1,L2] : List (List Rec)).getD to [] ++ [⟨d,tt,true,key,dd,val⟩])) = X := by
           rw [← hI]; unfold stp; rw [if_pos rfl]; simp only; rw [show ofP key (((3 : Nat)) : Int) = to from hto]
         have hcs : to = 0 ∨ to = 1 ∨ to = 2 := by omega
         rcases hcs with rfl | rfl | rfl
         · have hat : L0.map rv ++ [.agg [.w (.int .i64 d),.w (.int .i64 tt),.w (.bool true),.str key,.w (.bool dd),.str val]] = (L0 ++ [(⟨d,tt,true,key,dd,val⟩ : Rec)]).map rv := by rw [List.map_append]; rfl
           have hlm : (L0.map rv).length = L0.length := by simp
           simp only [go_sem,zaa,↓reduceIte,lcT,ty,zaf,zag,zfc,zam,hlr,d4,hs1,e1,ht,Int.toNat_natCast,Bool.not_true,Bool.not_false,hat,hlm,hto,hkr]
           repeat (first | refine And.intro (by omega) ?_ | refine And.intro ⟨by omega,by omega⟩ ?_ | refine And.intro (by decide) ?_)
           refine ⟨rs.length - (i + 1),_,by omega,zab [0,1,2,3,4,184,6,7] rfl rfl rfl ?_ ?_,i + 1,t,L0 ++ [(⟨d,tt,true,key,dd,val⟩ : Rec)],L1,L2,rfl,by omega,by omega,by simp only [List.length_append,List.length_cons,List.length_nil]; omega,hI,rfl⟩
           · simp only [ssT,zad,zae,setSlot,gOf,AV.ren,renL,Blk.ren,Ax.look,Ax.put,reduceCtorEq,↓reduceIte,Nat.reduceEqDiff,Nat.reduceLT,Nat.reduceAdd,List.length_append,List.length_cons,List.length_nil,Option.some.injEq]; try simp
           · simp only [ssT,zad,zae,setSlot,gOf,AV.ren,renL,Blk.ren,Ax.look,Ax.put,reduceCtorEq,↓reduceIte,Nat.reduceEqDiff,Nat.reduceLT,Nat.reduceAdd,List.length_append,List.length_cons,List.length_nil,Option.some.injEq,zak]; try simp
         · have hat : L1.map rv ++ [.agg [.w (.int .i64 d),.w (.int .i64 tt),.w (.bool true),.str key,.w (.bool dd),.str val]] = (L1 ++ [(⟨d,tt,true,key,dd,val⟩ : Rec)]).map rv := by rw [List.map_append]; rfl
           have hlm : (L1.map rv).length = L1.length := by simp
           simp only [go_sem,zaa,↓reduceIte,lcT,ty,zaf,zag,zfc,zam,hlr,d4,hs1,e1,ht,Int.toNat_natCast,Bool.not_true,Bool.not_false,hat,hlm,hto,hkr]
           repeat (first | refine And.intro (by omega) ?_ | refine And.intro ⟨by omega,by omega⟩ ?_ | refine And.intro (by decide) ?_)
           refine ⟨rs.length - (i + 1),_,by omega,zab [0,1,2,3,4,5,184,7] rfl rfl rfl ?_ ?_,i + 1,t,L0,L1 ++ [(⟨d,tt,true,key,dd,val⟩ : Rec)],L2,rfl,by omega,by omega,by simp only [List.length_append,List.length_cons,List.length_nil]; omega,hI,rfl⟩
           · simp only [ssT,zad,zae,setSlot,gOf,AV.ren,renL,Blk.ren,Ax.look,Ax.put,reduceCtorEq,↓reduceIte,Nat.reduceEqDiff,Nat.reduceLT,Nat.reduceAdd,List.length_append,List.length_cons,List.length_nil,Option.some.injEq]; try simp
           · simp only [ssT,zad,zae,setSlot,gOf,AV.ren,renL,Blk.ren,Ax.look,Ax.put,reduceCtorEq,↓reduceIte,Nat.reduceEqDiff,Nat.reduceLT,Nat.reduceAdd,List.length_append,List.length_cons,List.length_nil,Option.some.injEq,zak]; try simp
         · have hat : L2.map rv ++ [.agg [.w (.int .i64 d),.w (.int .i64 tt),.w (.bool true),.str key,.w (.bool dd),.str val]] = (L2 ++ [(⟨d,tt,true,key,dd,val⟩ : Rec)]).map rv := by rw [List.map_append]; rfl
           have hlm : (L2.map rv).length = L2.length := by simp
           simp only [go_sem,zaa,↓reduceIte,lcT,ty,zaf,zag,zfc,zam,hlr,d4,hs1,e1,ht,Int.toNat_natCast,Bool.not_true,Bool.not_false,hat,hlm,hto,hkr]
           repeat (first | refine And.intro (by omega) ?_ | refine And.intro ⟨by omega,by omega⟩ ?_ | refine And.intro (by decide) ?_)
           refine ⟨rs.length - (i + 1),_,by omega,zab [0,1,2,3,4,5,6,184] rfl rfl rfl ?_ ?_,i + 1,t,L0,L1,L2 ++ [(⟨d,tt,true,key,dd,val⟩ : Rec)],rfl,by omega,by omega,by simp only [List.length_append,List.length_cons,List.length_nil]; omega,hI,rfl⟩
           · simp only [ssT,zad,zae,setSlot,gOf,AV.ren,renL,Blk.ren,Ax.look,Ax.put,reduceCtorEq,↓reduceIte,Nat.reduceEqDiff,Nat.reduceLT,Nat.reduceAdd,List.length_append,List.length_cons,List.length_nil,Option.some.injEq]; try simp
           · simp only [ssT,zad,zae,setSlot,gOf,AV.ren,renL,Blk.ren,Ax.look,Ax.put,reduceCtorEq,↓reduceIte,Nat.reduceEqDiff,Nat.reduceLT,Nat.reduceAdd,List.length_append,List.length_cons,List.length_nil,Option.some.injEq,zak]; try simp
       | false =>
         have hI : (rs.drop (i + 1)).foldl (stp 3) ((t + 1) % 3,([L0,L1,L2] : List (List Rec)).set t (([L0,L1,L2] : List (List Rec)).getD t [] ++ [⟨d,tt,false,key,dd,val⟩])) = X := hI
         have hcs : t = 0 ∨ t = 1 ∨ t = 2 := by omega
         rcases hcs with rfl | rfl | rfl
         · have hw : (((0 : Nat) : Int) + 1 + 9223372036854775808) % 18446744073709551616 - 9223372036854775808 = ((1 : Nat) : Int) := by omega
           have hrt : Int.tmod ((1 : Nat) : Int) 3 = ((1 : Nat) : Int) := rfl
           have hat : L0.map rv ++ [.agg [.w (.int .i64 d),.w (.int .i64 tt),.w (.bool false),.str key,.w (.bool dd),.str val]] = (L0 ++ [(⟨d,tt,false,key,dd,val⟩ : Rec)]).map rv := by rw [List.map_append]; rfl
           have hlm : (L0.map rv).length = L0.length := by simp
           simp only [go_sem,zaa,↓reduceIte,lcT,ty,zaf,zag,zfc,zam,hlr,d4,hs1,e1,ht,Int.toNat_natCast,Bool.not_true,Bool.not_false,hat,hlm,hw,hrt]
           repeat (first | refine And.intro (by omega) ?_ | refine And.intro ⟨by omega,by omega⟩ ?_ | refine And.intro (by decide) ?_)
           refine ⟨rs.length - (i + 1),_,by omega,zab [0,1,2,3,4,184,6,7] rfl rfl rfl ?_ ?_,i + 1,1,L0 ++ [(⟨d,tt,false,key,dd,val⟩ : Rec)],L1,L2,rfl,by omega,by omega,by simp only [List.length_append,List.length_cons,List.length_nil]; omega,hI,rfl⟩
           · simp only [ssT,zad,zae,setSlot,gOf,AV.ren,renL,Blk.ren,Ax.look,Ax.put,reduceCtorEq,↓reduceIte,Nat.reduceEqDiff,Nat.reduceLT,Nat.reduceAdd,List.length_append,List.length_cons,List.length_nil,Option.some.injEq]; try simp
           · simp only [ssT,zad,zae,setSlot,gOf,AV.ren,renL,Blk.ren,Ax.look,Ax.put,reduceCtorEq,↓reduceIte,Nat.reduceEqDiff,Nat.reduceLT,Nat.reduceAdd,List.length_append,List.length_cons,List.length_nil,Option.some.injEq,zak]; try simp
         · have hw : (((1 : Nat) : Int) + 1 + 9223372036854775808) % 18446744073709551616 - 9223372036854775808 = ((2 : Nat) : Int) := by omega
           have hrt : Int.tmod ((2 : Nat) : Int) 3 = ((2 : Nat) : Int) := rfl
           have hat : L1.map rv ++ [.agg [.w (.int .i64 d),.w (.int .i64 tt),.w (.bool false),.str key,.w (.bool dd),.str val]] = (L1 ++ [(⟨d,tt,false,key,dd,val⟩ : Rec)]).map rv := by rw [List.map_append]; rfl
           have hlm : (L1.map rv).length = L1.length := by simp
           simp only [go_sem,zaa,↓reduceIte,lcT,ty,zaf,zag,zfc,zam,hlr,d4,hs1,e1,ht,Int.toNat_natCast,Bool.not_true,Bool.not_false,hat,hlm,hw,hrt]
           repeat (first | refine And.intro (by omega) ?_ | refine And.intro ⟨by omega,by omega⟩ ?_ | refine And.intro (by decide) ?_)
           refine ⟨rs.length - (i + 1),_,by omega,zab [0,1,2,3,4,5,184,7] rfl rfl rfl ?_ ?_,i + 1,2,L0,L1 ++ [(⟨d,tt,false,key,dd,val⟩ : Rec)],L2,rfl,by omega,by omega,by simp only [List.length_append,List.length_cons,List.length_nil]; omega,hI,rfl⟩
           · simp only [ssT,zad,zae,setSlot,gOf,AV.ren,renL,Blk.ren,Ax.look,Ax.put,reduceCtorEq,↓reduceIte,Nat.reduceEqDiff,Nat.reduceLT,Nat.reduceAdd,List.length_append,List.length_cons,List.length_nil,Option.some.injEq]; try simp
           · simp only [ssT,zad,zae,setSlot,gOf,AV.ren,renL,Blk.ren,Ax.look,Ax.put,reduceCtorEq,↓reduceIte,Nat.reduceEqDiff,Nat.reduceLT,Nat.reduceAdd,List.length_append,List.length_cons,List.length_nil,Option.some.injEq,zak]; try simp
         · have hw : (((2 : Nat) : Int) + 1 + 9223372036854775808) % 18446744073709551616 - 9223372036854775808 = ((3 : Nat) : Int) := by omega
           have hrt : Int.tmod ((3 : Nat) : Int) 3 = ((0 : Nat) : Int) := rfl
           have hat : L2.map rv ++ [.agg [.w (.int .i64 d),.w (.int .i64 tt),.w (.bool false),.str key,.w (.bool dd),.str val]] = (L2 ++ [(⟨d,tt,false,key,dd,val⟩ : Rec)]).map rv := by rw [List.map_append]; rfl
           have hlm : (L2.map rv).length = L2.length := by simp
           simp only [go_sem,zaa,↓reduceIte,lcT,ty,zaf,zag,zfc,zam,hlr,d4,hs1,e1,ht,Int.toNat_natCast,Bool.not_true,Bool.not_false,hat,hlm,hw,hrt]
           repeat (first | refine And.intro (by omega) ?_ | refine And.intro ⟨by omega,by omega⟩ ?_ | refine And.intro (by decide) ?_)
           refine ⟨rs.length - (i + 1),_,by omega,zab [0,1,2,3,4,5,6,184] rfl rfl rfl ?_ ?_,i + 1,0,L0,L1,L2 ++ [(⟨d,tt,false,key,dd,val⟩ : Rec)],rfl,by omega,by omega,by simp only [List.length_append,List.length_cons,List.length_nil]; omega,hI,rfl⟩
           · simp only [ssT,zad,zae,setSlot,gOf,AV.ren,renL,Blk.ren,Ax.look,Ax.put,reduceCtorEq,↓reduceIte,Nat.reduceEqDiff,Nat.reduceLT,Nat.reduceAdd,List.length_append,List.length_cons,List.length_nil,Option.some.injEq]; try simp
           · simp only [ssT,zad,zae,setSlot,gOf,AV.ren,renL,Blk.ren,Ax.look,Ax.put,reduceCtorEq,↓reduceIte,Nat.reduceEqDiff,Nat.reduceLT,Nat.reduceAdd,List.length_append,List.length_cons,List.length_nil,Option.some.injEq,zak]; try simp
     · have d4 : decide ((i : Int) < rs.length) = false := decide_eq_false (by omega)
       have hdr : rs.drop i = [] := List.drop_eq_nil_of_le (by omega)
       rw [hdr,List.foldl_nil] at hI
       subst hI
       simp only [go_sem,zaa,↓reduceIte,lcT,ty,zaf,zag,zfc,hlr,d4]
       have hd0 : decide (0 + L0.length ≤ (L0.map rv).length) = true := decide_eq_true (by simp)
       have ht0 : (L0.map rv).take L0.length = L0.map rv := List.take_of_length_le (by simp)
       have hd1 : decide (0 + L1.length ≤ (L1.map rv).length) = true := decide_eq_true (by simp)
       have ht1 : (L1.map rv).take L1.length = L1.map rv := List.take_of_length_le (by simp)
       have hd2 : decide (0 + L2.length ≤ (L2.map rv).length) = true := decide_eq_true (by simp)
       have ht2 : (L2.map rv).take L2.length = L2.map rv := List.take_of_length_le (by simp)
       refine ⟨_,(zav 5 6 9 4 (L0.map rv) (.g 1 [.ms 5 6 0 L0.length,.ms 6 6 0 L1.length,.ms 7 6 0 L2.length]) rfl (zah _) rfl (by simp [slot,AV.ids]) (by simp [Blk.idsB,Blk.closed,closedL,AV.closed,idsL,AV.ids])).trans (by simp only [fgL,fgH,AV.fg,Blk.fg,fgLm,Nat.reduceBEq,cond_true,cond_false,hd0,ht0,Bool.and_true,beq_self_eq_true,Bool.true_and,List.drop_zero]; exact (zav 6 6 9 4 (L1.map rv) (.g 1 [.sg 6 (L0.map rv) false,.ms 6 6 0 L1.length,.ms 7 6 0 L2.length]) rfl (zah _) rfl (by simp [slot,AV.ids]) (by simp [Blk.idsB,Blk.closed,closedL,AV.closed,idsL,AV.ids])).trans (by simp only [fgL,fgH,AV.fg,Blk.fg,fgLm,Nat.reduceBEq,cond_true,cond_false,hd1,ht1,Bool.and_true,beq_self_eq_true,Bool.true_and,List.drop_zero]; exact (zav 7 6 9 4 (L2.map rv) (.g 1 [.sg 6 (L0.map rv) false,.sg 6 (L1.map rv) false,.ms 7 6 0 L2.length]) rfl (zah _) rfl (by simp [slot,AV.ids]) (by simp [Blk.idsB,Blk.closed,closedL,AV.closed,idsL,AV.ids])).trans (by simp only [fgL,fgH,AV.fg,Blk.fg,fgLm,Nat.reduceBEq,cond_true,cond_false,hd2,ht2,Bool.and_true,beq_self_eq_true,Bool.true_and,List.drop_zero]; exact zez 4 1 9 [.sg 6 (L0.map rv) false,.sg 6 (L1.map rv) false,.sg 6 (L2.map rv) false] rfl (by simp only [closedL,AV.closed,zah,Bool.and_self]) (by simp [slot,AV.ids])))),?_⟩
       simp only [fgL,fgH,AV.fg,Blk.fg,fgLm,Nat.reduceBEq,cond_true,cond_false,hd0,ht0,hd1,ht1,hd2,ht2,Bool.and_true,beq_self_eq_true,Bool.true_and,List.drop_zero,List.take_succ_cons,List.take_zero,List.length_cons,List.length_nil,Nat.reduceAdd,Nat.reduceLeDiff,decide_true]
       have hml : ∀ L ∈ [L0,L1,L2],L.length ≤ 1000 := by
         intro L hL
         simp only [List.mem_cons,List.not_mem_nil,or_false] at hL
         rcases hL with rfl | rfl | rfl <;> omega
       obtain ⟨Ls,hLs⟩ : ∃ Ls : List (List Rec),[L0,L1,L2] = Ls := ⟨_,rfl⟩
       have hsg : [.sg 6 (L0.map rv) false,.sg 6 (L1.map rv) false,.sg 6 (L2.map rv) false] = Ls.map sgR := by rw [← hLs]; rfl
       have hPl : Ls.length = 3 := by rw [← hLs]; rfl
       have hbl : [.sg 6 ((nbL 0 L0).map rv) false,.sg 6 ((nbL 0 L1).map rv) false,.sg 6 ((nbL 0 L2).map rv) false] = Ls.map nbR := by rw [← hLs]; rfl
       rw [hsg,hbl]
       rw [hLs] at hml
       clear hLs hsg hbl hlen
       have hPm : (Ls.map sgR).length = 3 := by rw [List.length_map]; exact hPl
       simp only [go_sem,zaa,↓reduceIte,lcT,ty,zaf,zag,zfc,hPm]
       refine zbe ⟨fun m σ => ∃ j : Nat,m = 3 - j ∧ j ≤ 3 ∧
           ((j = 0 ∧ σ = ⟨[.junk,.junk,.w (.int .i64 t),.fn 13 [.rf 0 1 0 0],.junk,.junk,.junk,.junk,.junk,.junk,.junk,.junk,.junk,.junk,.junk,.junk,.junk,.junk,.junk,.junk,.junk,.junk,.junk,.junk,.junk,.junk,.junk,.junk,.junk,.junk,.junk,.junk,.junk,.junk,.junk,.junk,.junk,.junk,.junk,.junk,.junk,.junk,.junk,.junk,.junk,.junk,.junk,.junk,.junk,.junk,.junk,.sg 1 (Ls.map sgR) false,.w (.int .i64 3),.w (.int .i64 j),.junk,.junk,.junk,.junk,.junk,.junk,.junk,.junk,.junk,.junk,.junk],[(0,.g 1 [.sg 1 [] true])],4⟩) ∨
            (0 < j ∧ σ = ⟨[.junk,.junk,.w (.int .i64 t),.fn 13 [.rf 0 1 0 0],.junk,.junk,.junk,.junk,.junk,.junk,.junk,.junk,.junk,.junk,.junk,.junk,.junk,.junk,.junk,.junk,.junk,.junk,.junk,.junk,.junk,.junk,.junk,.junk,.junk,.junk,.junk,.junk,.junk,.junk,.junk,.junk,.junk,.junk,.junk,.junk,.junk,.junk,.junk,.junk,.junk,.junk,.junk,.junk,.junk,.junk,.junk,.sg 1 (Ls.map sgR) false,.w (.int .i64 3),.w (.int .i64 j),.junk,.junk,.junk,.junk,.junk,.junk,.junk,.junk,.junk,.junk,.junk],[(0,.g 1 [.ms 4 1 0 j]),(4,.g 1 ((Ls.take j).map nbR))],5⟩)),?_,?_⟩
       · refine ⟨_,_,zab [0,1,2,3] rfl rfl rfl ?_ ?_,0,rfl,by omega,.inl ⟨rfl,rfl⟩⟩
         · simp only [ssT,zad,zae,setSlot,gOf,AV.ren,renL,Blk.ren,Ax.look,Ax.put,reduceCtorEq,↓reduceIte,Nat.reduceEqDiff,Nat.reduceLT,Nat.reduceAdd,List.length_append,List.length_cons,List.length_nil,Option.some.injEq,zbj]; try simp
         · simp only [ssT,zad,zae,setSlot,gOf,AV.ren,renL,Blk.ren,Ax.look,Ax.put,reduceCtorEq,↓reduceIte,Nat.reduceEqDiff,Nat.reduceLT,Nat.reduceAdd,List.length_append,List.length_cons,List.length_nil,Option.some.injEq]; try simp
       · rintro m σ ⟨j,rfl,hj,hσ⟩
         have e2 : ((j : Int) + 1 + 9223372036854775808) % 18446744073709551616 - 9223372036854775808 = ((j + 1 : Nat) : Int) := by omega
         by_cases hjl : j < 3
         · have d5 : decide ((j : Int) < 3) = true := decide_eq_true (by omega)
           have hjL : j < Ls.length := by omega
           have hs2 : slot (Ls.map sgR) j = sgR Ls[j] := zba sgR Ls j hjL
           have htk : Ls.take (j + 1) = Ls.take j ++ [Ls[j]] := List.take_succ_eq_append_getElem hjL
           have hm2 := hml Ls[j] (List.getElem_mem hjL)
           obtain ⟨L,hL2⟩ : ∃ L,Ls[j] = L := ⟨_,rfl⟩
           rw [hL2] at hs2 htk hm2
           have hs2 : slot (Ls.map sgR) j = .sg 6 (L.map rv) false := hs2
           have hlm : (L.map rv).length = L.length := by simp
           have hL6 : L.length ≤ 1000000 := by omega
           have hxL : ∃ q : List Rec,L.map rv = q.map rv := ⟨L,rfl⟩
           have hxN : ∃ q : List Rec,(nbL 0 L).map rv = q.map rv := ⟨_,rfl⟩
           have hcL : ∀ f,coe ty 22 (.sg 6 (L.map rv) f) = .sg 6 (L.map rv) f := fun f => by cases L <;> rfl
           have hcN : ∀ f,coe ty 22 (.sg 6 ((nbL 0 L).map rv) f) = .sg 6 ((nbL 0 L).map rv) f := fun f => by cases (nbL 0 L) <;> rfl
           have hat : (Ls.take j).map nbR ++ [.sg 6 ((nbL 0 L).map rv) false] = (Ls.take (j + 1)).map nbR := by rw [htk,List.map_append]; rfl
           have htl : ((Ls.take j).map nbR).length = j := by rw [List.length_map,List.length_take]; omega
           have hcb := zas (Ls.take j)
           have hcb1 := zas (Ls.take (j + 1))
           have hrb1 : ∀ g,renL g ((Ls.take (j + 1)).map nbR) = (Ls.take (j + 1)).map nbR := fun g => renL_closed g _ hcb1
           rcases hσ with ⟨rfl,rfl⟩ | ⟨hj0,rfl⟩
           · simp only [go_sem,zaa,↓reduceIte,lcT,ty,zaf,zag,zfc,hPm,d5,hs2,e2,nmbS,zgz,hlm,hL6,hxL,hxN,hcL,hcN,zaz,zah,Int.toNat_natCast]
             repeat (first | refine And.intro (by omega) ?_ | refine And.intro ⟨by omega,by omega⟩ ?_ | refine And.intro (by decide) ?_)
             have hat0 : (Ls.take (0 + 1)).map nbR = [.sg 6 ((nbL 0 L).map rv) false] := by rw [htk]; rfl
             refine ⟨3 - (0 + 1),_,by omega,zab [0,1,2,3,84] rfl rfl rfl ?_ ?_,0 + 1,rfl,by omega,.inr ⟨by omega,rfl⟩⟩
             · simp only [ssT,zad,zae,setSlot,gOf,AV.ren,renL,Blk.ren,Ax.look,Ax.put,reduceCtorEq,↓reduceIte,Nat.reduceEqDiff,Nat.reduceLT,Nat.reduceAdd,List.length_append,List.length_cons,List.length_nil,Option.some.injEq,zbj]; try simp
             · simp only [ssT,zad,zae,setSlot,gOf,AV.ren,renL,Blk.ren,Ax.look,Ax.put,reduceCtorEq,↓reduceIte,Nat.reduceEqDiff,Nat.reduceLT,Nat.reduceAdd,List.length_append,List.length_cons,List.length_nil,Option.some.injEq,zak,hat0]; try simp [renL,zak]
           · have dj : decide (0 < j) = true := decide_eq_true hj0
             have hj1 : j ≤ 1000 := by omega
             simp only [go_sem,zaa,↓reduceIte,lcT,ty,zaf,zag,zfc,hPm,d5,hs2,e2,nmbS,zgz,hlm,hL6,hxL,hxN,hcL,hcN,zaz,zah,htl,hcb,hcb1,hat,hj0,dj,hj1,cond_true,Int.toNat_natCast]
             repeat (first | refine And.intro (by omega) ?_ | refine And.intro ⟨by omega,by omega⟩ ?_ | refine And.intro (by decide) ?_)
             refine ⟨3 - (j + 1),_,by omega,zab [0,1,2,3,85] rfl rfl rfl ?_ ?_,j + 1,rfl,by omega,.inr ⟨by omega,rfl⟩⟩
             · simp only [ssT,zad,zae,setSlot,gOf,AV.ren,renL,Blk.ren,Ax.look,Ax.put,reduceCtorEq,↓reduceIte,Nat.reduceEqDiff,Nat.reduceLT,Nat.reduceAdd,List.length_append,List.length_cons,List.length_nil,Option.some.injEq,zbj]; try simp
             · simp only [ssT,zad,zae,setSlot,gOf,AV.ren,renL,Blk.ren,Ax.look,Ax.put,reduceCtorEq,↓reduceIte,Nat.reduceEqDiff,Nat.reduceLT,Nat.reduceAdd,List.length_append,List.length_cons,List.length_nil,Option.some.injEq,hrb1]; try simp
         · have d5 : decide ((j : Int) < 3) = false := decide_eq_false (by omega)
           obtain rfl : j = 3 := by omega
           have htk : Ls.take 3 = Ls := List.take_of_length_le (by omega)
           rcases hσ with ⟨h0,_⟩ | ⟨_,rfl⟩
           · omega
           · rw [htk]
             have hcb := zas Ls
             have hrb : ∀ g,renL g (Ls.map nbR) = Ls.map nbR := fun g => renL_closed g _ hcb
             simp only [go_sem,zaa,↓reduceIte,lcT,ty,zaf,zag,zfc,hPm,d5]
             refine ⟨_,Weak.refl _,?_⟩
             simp only [go_sem,zaa,↓reduceIte,lcT,ty,zaf,zag,zfc]
             refine ⟨_,Weak.refl _,?_⟩
             simp only [go_sem,zaa,↓reduceIte,lcT,ty,zaf,zag,zfc,hcb,hrb,cond_true]
 · exact hp.elim
end
end Go.Proofs.Ytdfgfdcfcdgadaa
namespace Go.Proofs.Ytdfgfdcfcdgadaa
open Ax
def zec : zlh := fun id => match id with
 | 16 => .opn [] 4
 | _ => .std
section
set_option maxRecDepth 100000
set_option maxHeartbeats 32000000 in
theorem ybo : zfr Try.prog 12 (splS 4) := by
 refine zdg (S := zaf) (SO := zag) (T := ty) mixed ty_ok zei zej Try.func12 (c := Try.f12.body.getD .skip) (by kernel_rfl) (fun xs pins hp => ?_)
 unfold splS at hp ⊢
 split at hp
 · rename_i xs f parts turn id
   obtain ⟨rfl,hP,hL,rs,rfl,hk⟩ := hp
   rw [List.length_map] at hL
   have hlr : (rs.map rv).length = rs.length := by simp
   have ht : top = 4294967296 := rfl
   have hP2 : ((clP parts : Nat) : Int) = 4 := by rw [hP]; rfl
   rw [zaz]
   obtain ⟨T0,hT0⟩ : ∃ T,max turn 0 = ((T : Nat) : Int) := ⟨(max turn 0).toNat,by omega⟩
   have hT1 : (max turn 0).toNat = T0 := by omega
   have hmx : (if (0 : Int) > turn then (0 : Int) else turn) = ((T0 : Nat) : Int) := by rw [← hT0]; split <;> omega
   have hrm : Int.tmod ((T0 : Nat) : Int) 4 = ((T0 % 4 : Nat) : Int) := rfl
   rw [hT1]
   obtain ⟨X,hX⟩ : ∃ X,rs.foldl (stp 4) (T0 % 4,[[],[],[],[]]) = X := ⟨_,rfl⟩
   have hX0 : rs.foldl (stp 4) (T0 % 4,List.replicate 4 []) = X := hX
   rw [hX0]
   refine ⟨by simp,zec,by kernel_rfl,?_⟩
   unfold Try.f12
   simp only [go_sem,zaa,↓reduceIte,lcT,ty,zaf,zag,zec,zma,hP2,hlr,hmx,hrm]
   repeat (first | refine And.intro (by decide) ?_ | refine And.intro (by omega) ?_)
   refine zbe ⟨fun m σ => ∃ (i t : Nat) (L0 L1 L2 L3 : List Rec),m = rs.length - i ∧ i ≤ rs.length ∧ t < 4 ∧ (L0.length ≤ i ∧ L1.length ≤ i ∧ L2.length ≤ i ∧ L3.length ≤ i) ∧ (rs.drop i).foldl (stp 4) (t,[L0,L1,L2,L3]) = X ∧
       σ = ⟨[.junk,.w (.int .i64 4),.w (.int .i64 t),.fn 13 [.rf 0 1 0 0],.junk,.junk,.junk,.junk,.junk,.ms 4 1 0 4,.junk,.junk,.junk,.junk,.junk,.junk,.junk,.junk,.junk,.junk,.junk,.junk,.junk,.sg 6 (rs.map rv) f,.w (.int .i64 rs.length),.w (.int .i64 i),.junk,.junk,.junk,.junk,.junk,.junk,.junk,.junk,.junk,.junk,.junk,.junk,.junk,.junk,.junk,.junk,.junk,.junk,.junk,.junk,.junk,.junk,.junk,.junk,.junk,.junk,.junk,.junk,.junk,.junk,.junk,.junk,.junk,.junk,.junk,.junk,.junk,.junk,.junk],[(0,.g 1 [.sg 1 [] true]),(4,.g 1 [.ms 5 6 0 L0.length,.ms 6 6 0 L1.length,.ms 7 6 0 L2.length,.ms 8 6 0 L3.length]),(5,.g 6 (L0.map rv)),(6,.g 6 (L1.map rv)),(7,.g 6 (L2.map rv)),(8,.g 6 (L3.map rv))],9⟩,?_,?_⟩
   · refine ⟨_,_,(zao 84 0 6 [.sg 6 [] true,.sg 6 [] true,.sg 6 [] true,.sg 6 [] true] rfl (by simp [AV.leaves]) (by decide) (by exact trivial) (by decide)).trans ((zao 84 1 6 [.ms 124 6 0 0,.sg 6 [] true,.sg 6 [] true,.sg 6 [] true] rfl (by simp [AV.leaves]) (by decide) (by exact trivial) (by decide)).trans ((zao 84 2 6 [.ms 124 6 0 0,.ms 125 6 0 0,.sg 6 [] true,.sg 6 [] true] rfl (by simp [AV.leaves]) (by decide) (by exact trivial) (by decide)).trans ((zao 84 3 6 [.ms 124 6 0 0,.ms 125 6 0 0,.ms 126 6 0 0,.sg 6 [] true] rfl (by simp [AV.leaves]) (by decide) (by exact trivial) (by decide)).trans (zab [0,1,2,3,84,124,125,126,127] rfl rfl rfl ?_ ?_)))),0,T0 % 4,[],[],[],[],rfl,by omega,Nat.mod_lt _ (by omega),by simp,by rw [List.drop_zero]; exact hX,rfl⟩
     · simp only [ssT,zad,zae,setSlot,gOf,AV.ren,renL,Blk.ren,Ax.look,Ax.put,reduceCtorEq,↓reduceIte,Nat.reduceEqDiff,Nat.reduceLT,Nat.reduceAdd,List.length_append,List.length_cons,List.length_nil,Option.some.injEq]; try simp
     · simp only [ssT,zad,zae,setSlot,gOf,AV.ren,renL,Blk.ren,Ax.look,Ax.put,reduceCtorEq,↓reduceIte,Nat.reduceEqDiff,Nat.reduceLT,Nat.reduceAdd,List.length_append,List.length_cons,List.length_nil,Option.some.injEq]; try simp [renL]
   · rintro m σ ⟨i,t,L0,L1,L2,L3,rfl,hi,ht3,hlen,hI,rfl⟩
     have e1 : ((i : Int) + 1 + 9223372036854775808) % 18446744073709551616 - 9223372036854775808 = ((i + 1 : Nat) : Int) := by omega
     by_cases hil : i < rs.length
     · have d4 : decide ((i : Int) < rs.length) = true := decide_eq_true (by omega)
       have hs1 := zba rv rs i hil
       have hkr := hk rs[i] (List.getElem_mem hil)
       have hdr : rs.drop i = rs[i] :: rs.drop (i + 1) := List.drop_eq_getElem_cons hil
       obtain ⟨r,hr⟩ : ∃ r,rs[i] = r := ⟨_,rfl⟩
       rw [hr] at hs1 hdr hkr
       rw [hdr,List.foldl_cons] at hI
       obtain ⟨d,tt,kd,key,dd,val⟩ := r
       simp only [rv] at hs1
       simp only at hkr
       cases kd with
       | true =>
         have hlt := zkl key 4
         have hcl : clP 4 = 4 := by decide
         rw [hcl] at hlt
         obtain ⟨to,hto⟩ : ∃ to,ofP key 4 = to := ⟨_,rfl⟩
         rw [hto] at hlt
         have hI : (rs.drop (i + 1)).foldl (stp 4) (t,([L0,L1,L2,L3] : List (List Rec)).set to (([L0,L1,L2,L3] : List (List Rec)).getD to [] ++ [⟨d,tt,true,key,dd,val⟩])) = X := by
           rw [← hI]; unfold stp; rw [if_pos rfl]; simp only; rw [show ofP key (((4 : Nat)) : Int) = to from hto]
         have hcs : to = 0 ∨ to = 1 ∨ to = 2 ∨ to = 3 := by omega
         rcases hcs with rfl | rfl | rfl | rfl
         · have hat : L0.map rv ++ [.agg [.w (.int .i64 d),.w (.int .i64 tt),.w (.bool true),.str key,.w (.bool dd),.str val]] = (L0 ++ [(⟨d,tt,true,key,dd,val⟩ : Rec)]).map rv := by rw [List.map_append]; rfl
           have hlm : (L0.map rv).length = L0.length := by simp
           simp only [go_sem,zaa,↓reduceIte,lcT,ty,zaf,zag,zec,zam,hlr,d4,hs1,e1,ht,Int.toNat_natCast,Bool.not_true,Bool.not_false,hat,hlm,hto,hkr]
           repeat (first | refine And.intro (by omega) ?_ | refine And.intro ⟨by omega,by omega⟩ ?_ | refine And.intro (by decide) ?_)
           refine ⟨rs.length - (i + 1),_,by omega,zab [0,1,2,3,4,185,6,7,8] rfl rfl rfl ?_ ?_,i + 1,t,L0 ++ [(⟨d,tt,true,key,dd,val⟩ : Rec)],L1,L2,L3,rfl,by omega,by omega,by simp only [List.length_append,List.length_cons,List.length_nil]; omega,hI,rfl⟩
           · simp only [ssT,zad,zae,setSlot,gOf,AV.ren,renL,Blk.ren,Ax.look,Ax.put,reduceCtorEq,↓reduceIte,Nat.reduceEqDiff,Nat.reduceLT,Nat.reduceAdd,List.length_append,List.length_cons,List.length_nil,Option.some.injEq]; try simp
           · simp only [ssT,zad,zae,setSlot,gOf,AV.ren,renL,Blk.ren,Ax.look,Ax.put,reduceCtorEq,↓reduceIte,Nat.reduceEqDiff,Nat.reduceLT,Nat.reduceAdd,List.length_append,List.length_cons,List.length_nil,Option.some.injEq,zak]; try simp
         · have hat : L1.map rv ++ [.agg [.w (.int .i64 d),.w (.int .i64 tt),.w (.bool true),.str key,.w (.bool dd),.str val]] = (L1 ++ [(⟨d,tt,true,key,dd,val⟩ : Rec)]).map rv := by rw [List.map_append]; rfl
           have hlm : (L1.map rv).length = L1.length := by simp
           simp only [go_sem,zaa,↓reduceIte,lcT,ty,zaf,zag,zec,zam,hlr,d4,hs1,e1,ht,Int.toNat_natCast,Bool.not_true,Bool.not_false,hat,hlm,hto,hkr]
           repeat (first | refine And.intro (by omega) ?_ | refine And.intro ⟨by omega,by omega⟩ ?_ | refine And.intro (by decide) ?_)
           refine ⟨rs.length - (i + 1),_,by omega,zab [0,1,2,3,4,5,185,7,8] rfl rfl rfl ?_ ?_,i + 1,t,L0,L1 ++ [(⟨d,tt,true,key,dd,val⟩ : Rec)],L2,L3,rfl,by omega,by omega,by simp only [List.length_append,List.length_cons,List.length_nil]; omega,hI,rfl⟩
           · simp only [ssT,zad,zae,setSlot,gOf,AV.ren,renL,Blk.ren,Ax.look,Ax.put,reduceCtorEq,↓reduceIte,Nat.reduceEqDiff,Nat.reduceLT,Nat.reduceAdd,List.length_append,List.length_cons,List.length_nil,Option.some.injEq]; try simp
           · simp only [ssT,zad,zae,setSlot,gOf,AV.ren,renL,Blk.ren,Ax.look,Ax.put,reduceCtorEq,↓reduceIte,Nat.reduceEqDiff,Nat.reduceLT,Nat.reduceAdd,List.length_append,List.length_cons,List.length_nil,Option.some.injEq,zak]; try simp
         · have hat : L2.map rv ++ [.agg [.w (.int .i64 d),.w (.int .i64 tt),.w (.bool true),.str key,.w (.bool dd),.str val]] = (L2 ++ [(⟨d,tt,true,key,dd,val⟩ : Rec)]).map rv := by rw [List.map_append]; rfl
           have hlm : (L2.map rv).length = L2.length := by simp
           simp only [go_sem,zaa,↓reduceIte,lcT,ty,zaf,zag,zec,zam,hlr,d4,hs1,e1,ht,Int.toNat_natCast,Bool.not_true,Bool.not_false,hat,hlm,hto,hkr]
           repeat (first | refine And.intro (by omega) ?_ | refine And.intro ⟨by omega,by omega⟩ ?_ | refine And.intro (by decide) ?_)
           refine ⟨rs.length - (i + 1),_,by omega,zab [0,1,2,3,4,5,6,185,8] rfl rfl rfl ?_ ?_,i + 1,t,L0,L1,L2 ++ [(⟨d,tt,true,key,dd,val⟩ : Rec)],L3,rfl,by omega,by omega,by simp only [List.length_append,List.length_cons,List.length_nil]; omega,hI,rfl⟩
           · simp only [ssT,zad,zae,setSlot,gOf,AV.ren,renL,Blk.ren,Ax.look,Ax.put,reduceCtorEq,↓reduceIte,Nat.reduceEqDiff,Nat.reduceLT,Nat.reduceAdd,List.length_append,List.length_cons,List.length_nil,Option.some.injEq]; try simp
           · simp only [ssT,zad,zae,setSlot,gOf,AV.ren,renL,Blk.ren,Ax.look,Ax.put,reduceCtorEq,↓reduceIte,Nat.reduceEqDiff,Nat.reduceLT,Nat.reduceAdd,List.length_append,List.length_cons,List.length_nil,Option.some.injEq,zak]; try simp
         · have hat : L3.map rv ++ [.agg [.w (.int .i64 d),.w (.int .i64 tt),.w (.bool true),.str key,.w (.bool dd),.str val]] = (L3 ++ [(⟨d,tt,true,key,dd,val⟩ : Rec)]).map rv := by rw [List.map_append]; rfl
           have hlm : (L3.map rv).length = L3.length := by simp
           simp only [go_sem,zaa,↓reduceIte,lcT,ty,zaf,zag,zec,zam,hlr,d4,hs1,e1,ht,Int.toNat_natCast,Bool.not_true,Bool.not_false,hat,hlm,hto,hkr]
           repeat (first | refine And.intro (by omega) ?_ | refine And.intro ⟨by omega,by omega⟩ ?_ | refine And.intro (by decide) ?_)
           refine ⟨rs.length - (i + 1),_,by omega,zab [0,1,2,3,4,5,6,7,185] rfl rfl rfl ?_ ?_,i + 1,t,L0,L1,L2,L3 ++ [(⟨d,tt,true,key,dd,val⟩ : Rec)],rfl,by omega,by omega,by simp only [List.length_append,List.length_cons,List.length_nil]; omega,hI,rfl⟩
           · simp only [ssT,zad,zae,setSlot,gOf,AV.ren,renL,Blk.ren,Ax.look,Ax.put,reduceCtorEq,↓reduceIte,Nat.reduceEqDiff,Nat.reduceLT,Nat.reduceAdd,List.length_append,List.length_cons,List.length_nil,Option.some.injEq]; try simp
           · simp only [ssT,zad,zae,setSlot,gOf,AV.ren,renL,Blk.ren,Ax.look,Ax.put,reduceCtorEq,↓reduceIte,Nat.reduceEqDiff,Nat.reduceLT,Nat.reduceAdd,List.length_append,List.length_cons,List.length_nil,Option.some.injEq,zak]; try simp
       | false =>
         have hI : (rs.drop (i + 1)).foldl (stp 4) ((t + 1) % 4,([L0,L1,L2,L3] : List (List Rec)).set t (([L0,L1,L2,L3] : List (List Rec)).getD t [] ++ [⟨d,tt,false,key,dd,val⟩])) = X := hI
         have hcs : t = 0 ∨ t = 1 ∨ t = 2 ∨ t = 3 := by omega
         rcases hcs with rfl | rfl | rfl | rfl
         · have hw : (((0 : Nat) : Int) + 1 + 9223372036854775808) % 18446744073709551616 - 9223372036854775808 = ((1 : Nat) : Int) := by omega
           have hrt : Int.tmod ((1 : Nat) : Int) 4 = ((1 : Nat) : Int) := rfl
           have hat : L0.map rv ++ [.agg [.w (.int .i64 d),.w (.int .i64 tt),.w (.bool false),.str key,.w (.bool dd),.str val]] = (L0 ++ [(⟨d,tt,false,key,dd,val⟩ : Rec)]).map rv := by rw [List.map_append]; rfl
           have hlm : (L0.map rv).length = L0.length := by simp
           simp only [go_sem,zaa,↓reduceIte,lcT,ty,zaf,zag,zec,zam,hlr,d4,hs1,e1,ht,Int.toNat_natCast,Bool.not_true,Bool.not_false,hat,hlm,hw,hrt]
           repeat (first | refine And.intro (by omega) ?_ | refine And.intro ⟨by omega,by omega⟩ ?_ | refine And.intro (by decide) ?_)
           refine ⟨rs.length - (i + 1),_,by omega,zab [0,1,2,3,4,185,6,7,8] rfl rfl rfl ?_ ?_,i + 1,1,L0 ++ [(⟨d,tt,false,key,dd,val⟩ : Rec)],L1,L2,L3,rfl,by omega,by omega,by simp only [List.length_append,List.length_cons,List.length_nil]; omega,hI,rfl⟩
           · simp only [ssT,zad,zae,setSlot,gOf,AV.ren,renL,Blk.ren,Ax.look,Ax.put,reduceCtorEq,↓reduceIte,Nat.reduceEqDiff,Nat.reduceLT,Nat.reduceAdd,List.length_append,List.length_cons,List.length_nil,Option.some.injEq]; try simp
           · simp only [ssT,zad,zae,setSlot,gOf,AV.ren,renL,Blk.ren,Ax.look,Ax.put,reduceCtorEq,↓reduceIte,Nat.reduceEqDiff,Nat.reduceLT,Nat.reduceAdd,List.length_append,List.length_cons,List.length_nil,Option.some.injEq,zak]; try simp
         · have hw : (((1 : Nat) : Int) + 1 + 9223372036854775808) % 18446744073709551616 - 9223372036854775808 = ((2 : Nat) : Int) := by omega
           have hrt : Int.tmod ((2 : Nat) : Int) 4 = ((2 : Nat) : Int) := rfl
           have hat : L1.map rv ++ [.agg [.w (.int .i64 d),.w (.int .i64 tt),.w (.bool false),.str key,.w (.bool dd),.str val]] = (L1 ++ [(⟨d,tt,false,key,dd,val⟩ : Rec)]).map rv := by rw [List.map_append]; rfl
           have hlm : (L1.map rv).length = L1.length := by simp
           simp only [go_sem,zaa,↓reduceIte,lcT,ty,zaf,zag,zec,zam,hlr,d4,hs1,e1,ht,Int.toNat_natCast,Bool.not_true,Bool.not_false,hat,hlm,hw,hrt]
           repeat (first | refine And.intro (by omega) ?_ | refine And.intro ⟨by omega,by omega⟩ ?_ | refine And.intro (by decide) ?_)
           refine ⟨rs.length - (i + 1),_,by omega,zab [0,1,2,3,4,5,185,7,8] rfl rfl rfl ?_ ?_,i + 1,2,L0,L1 ++ [(⟨d,tt,false,key,dd,val⟩ : Rec)],L2,L3,rfl,by omega,by omega,by simp only [List.length_append,List.length_cons,List.length_nil]; omega,hI,rfl⟩
           · simp only [ssT,zad,zae,setSlot,gOf,AV.ren,renL,Blk.ren,Ax.look,Ax.put,reduceCtorEq,↓reduceIte,Nat.reduceEqDiff,Nat.reduceLT,Nat.reduceAdd,List.length_append,List.length_cons,List.length_nil,Option.some.injEq]; try simp
           · simp only [ssT,zad,zae,setSlot,gOf,AV.ren,renL,Blk.ren,Ax.look,Ax.put,reduceCtorEq,↓reduceIte,Nat.reduceEqDiff,Nat.reduceLT,Nat.reduceAdd,List.length_append,List.length_cons,List.length_nil,Option.some.injEq,zak]; try simp
         · have hw : (((2 : Nat) : Int) + 1 + 9223372036854775808) % 18446744073709551616 - 9223372036854775808 = ((3 : Nat) : Int) := by omega
           have hrt : Int.tmod ((3 : Nat) : Int) 4 = ((3 : Nat) : Int) := rfl
           have hat : L2.map rv ++ [.agg [.w (.int .i64 d),.w (.int .i64 tt),.w (.bool false),.str key,.w (.bool dd),.str val]] = (L2 ++ [(⟨d,tt,false,key,dd,val⟩ : Rec)]).map rv := by rw [List.map_append]; rfl
           have hlm : (L2.map rv).length = L2.length := by simp
           simp only [go_sem,zaa,↓reduceIte,lcT,ty,zaf,zag,zec,zam,hlr,d4,hs1,e1,ht,Int.toNat_natCast,Bool.not_true,Bool.not_false,hat,hlm,hw,hrt]
           repeat (first | refine And.intro (by omega) ?_ | refine And.intro ⟨by omega,by omega⟩ ?_ | refine And.intro (by decide) ?_)
           refine ⟨rs.length - (i + 1),_,by omega,zab [0,1,2,3,4,5,6,185,8] rfl rfl rfl ?_ ?_,i + 1,3,L0,L1,L2 ++ [(⟨d,tt,false,key,dd,val⟩ : Rec)],L3,rfl,by omega,by omega,by simp only [List.length_append,List.length_cons,List.length_nil]; omega,hI,rfl⟩
           · simp only [ssT,zad,zae,setSlot,gOf,AV.ren,renL,Blk.ren,Ax.look,Ax.put,reduceCtorEq,↓reduceIte,Nat.reduceEqDiff,Nat.reduceLT,Nat.reduceAdd,List.length_append,List.length_cons,List.length_nil,Option.some.injEq]; try simp
           · simp only [ssT,zad,zae,setSlot,gOf,AV.ren,renL,Blk.ren,Ax.look,Ax.put,reduceCtorEq,↓reduceIte,Nat.reduceEqDiff,Nat.reduceLT,Nat.reduceAdd,List.length_append,List.length_cons,List.length_nil,Option.some.injEq,zak]; try simp
         · have hw : (((3 : Nat) : Int) + 1 + 9223372036854775808) % 18446744073709551616 - 9223372036854775808 = ((4 : Nat) : Int) := by omega
           have hrt : Int.tmod ((4 : Nat) : Int) 4 = ((0 : Nat) : Int) := rfl
           have hat : L3.map rv ++ [.agg [.w (.int .i64 d),.w (.int .i64 tt),.w (.bool false),.str key,.w (.bool dd),.str val]] = (L3 ++ [(⟨d,tt,false,key,dd,val⟩ : Rec)]).map rv := by rw [List.map_append]; rfl
           have hlm : (L3.map rv).length = L3.length := by simp
           simp only [go_sem,zaa,↓reduceIte,lcT,ty,zaf,zag,zec,zam,hlr,d4,hs1,e1,ht,Int.toNat_natCast,Bool.not_true,Bool.not_false,hat,hlm,hw,hrt]
           repeat (first | refine And.intro (by omega) ?_ | refine And.intro ⟨by omega,by omega⟩ ?_ | refine And.intro (by decide) ?_)
           refine ⟨rs.length - (i + 1),_,by omega,zab [0,1,2,3,4,5,6,7,185] rfl rfl rfl ?_ ?_,i + 1,0,L0,L1,L2,L3 ++ [(⟨d,tt,false,key,dd,val⟩ : Rec)],rfl,by omega,by omega,by simp only [List.length_append,List.length_cons,List.length_nil]; omega,hI,rfl⟩
           · simp only [ssT,zad,zae,setSlot,gOf,AV.ren,renL,Blk.ren,Ax.look,Ax.put,reduceCtorEq,↓reduceIte,Nat.reduceEqDiff,Nat.reduceLT,Nat.reduceAdd,List.length_append,List.length_cons,List.length_nil,Option.some.injEq]; try simp
           · simp only [ssT,zad,zae,setSlot,gOf,AV.ren,renL,Blk.ren,Ax.look,Ax.put,reduceCtorEq,↓reduceIte,Nat.reduceEqDiff,Nat.reduceLT,Nat.reduceAdd,List.length_append,List.length_cons,List.length_nil,Option.some.injEq,zak]; try simp
     · have d4 : decide ((i : Int) < rs.length) = false := decide_eq_false (by omega)
       have hdr : rs.drop i = [] := List.drop_eq_nil_of_le (by omega)
       rw [hdr,List.foldl_nil] at hI
       subst hI
       simp only [go_sem,zaa,↓reduceIte,lcT,ty,zaf,zag,zec,hlr,d4]
       have hd0 : decide (0 + L0.length ≤ (L0.map rv).length) = true := decide_eq_true (by simp)
       have ht0 : (L0.map rv).take L0.length = L0.map rv := List.take_of_length_le (by simp)
       have hd1 : decide (0 + L1.length ≤ (L1.map rv).length) = true := decide_eq_true (by simp)
       have ht1 : (L1.map rv).take L1.length = L1.map rv := List.take_of_length_le (by simp)
       have hd2 : decide (0 + L2.length ≤ (L2.map rv).length) = true := decide_eq_true (by simp)
       have ht2 : (L2.map rv).take L2.length = L2.map rv := List.take_of_length_le (by simp)
       have hd3 : decide (0 + L3.length ≤ (L3.map rv).length) = true := decide_eq_true (by simp)
       have ht3 : (L3.map rv).take L3.length = L3.map rv := List.take_of_length_le (by simp)
       refine ⟨_,(zav 5 6 9 4 (L0.map rv) (.g 1 [.ms 5 6 0 L0.length,.ms 6 6 0 L1.length,.ms 7 6 0 L2.length,.ms 8 6 0 L3.length]) rfl (zah _) rfl (by simp [slot,AV.ids]) (by simp [Blk.idsB,Blk.closed,closedL,AV.closed,idsL,AV.ids])).trans (by simp only [fgL,fgH,AV.fg,Blk.fg,fgLm,Nat.reduceBEq,cond_true,cond_false,hd0,ht0,Bool.and_true,beq_self_eq_true,Bool.true_and,List.drop_zero]; exact (zav 6 6 9 4 (L1.map rv) (.g 1 [.sg 6 (L0.map rv) false,.ms 6 6 0 L1.length,.ms 7 6 0 L2.length,.ms 8 6 0 L3.length]) rfl (zah _) rfl (by simp [slot,AV.ids]) (by simp [Blk.idsB,Blk.closed,closedL,AV.closed,idsL,AV.ids])).trans (by simp only [fgL,fgH,AV.fg,Blk.fg,fgLm,Nat.reduceBEq,cond_true,cond_false,hd1,ht1,Bool.and_true,beq_self_eq_true,Bool.true_and,List.drop_zero]; exact (zav 7 6 9 4 (L2.map rv) (.g 1 [.sg 6 (L0.map rv) false,.sg 6 (L1.map rv) false,.ms 7 6 0 L2.length,.ms 8 6 0 L3.length]) rfl (zah _) rfl (by simp [slot,AV.ids]) (by simp [Blk.idsB,Blk.closed,closedL,AV.closed,idsL,AV.ids])).trans (by simp only [fgL,fgH,AV.fg,Blk.fg,fgLm,Nat.reduceBEq,cond_true,cond_false,hd2,ht2,Bool.and_true,beq_self_eq_true,Bool.true_and,List.drop_zero]; exact (zav 8 6 9 4 (L3.map rv) (.g 1 [.sg 6 (L0.map rv) false,.sg 6 (L1.map rv) false,.sg 6 (L2.map rv) false,.ms 8 6 0 L3.length]) rfl (zah _) rfl (by simp [slot,AV.ids]) (by simp [Blk.idsB,Blk.closed,closedL,AV.closed,idsL,AV.ids])).trans (by simp only [fgL,fgH,AV.fg,Blk.fg,fgLm,Nat.reduceBEq,cond_true,cond_false,hd3,ht3,Bool.and_true,beq_self_eq_true,Bool.true_and,List.drop_zero]; exact zez 4 1 9 [.sg 6 (L0.map rv) false,.sg 6 (L1.map rv) false,.sg 6 (L2.map rv) false,.sg 6 (L3.map rv) false] rfl (by simp only [closedL,AV.closed,zah,Bool.and_self]) (by simp [slot,AV.ids]))))),?_⟩
       simp only [fgL,fgH,AV.fg,Blk.fg,fgLm,Nat.reduceBEq,cond_true,cond_false,hd0,ht0,hd1,ht1,hd2,ht2,hd3,ht3,Bool.and_true,beq_self_eq_true,Bool.true_and,List.drop_zero,List.take_succ_cons,List.take_zero,List.length_cons,List.length_nil,Nat.reduceAdd,Nat.reduceLeDiff,decide_true]
       have hml : ∀ L ∈ [L0,L1,L2,L3],L.length ≤ 1000 := by
         intro L hL
         simp only [List.mem_cons,List.not_mem_nil,or_false] at hL
         rcases hL with rfl | rfl | rfl | rfl <;> omega
       obtain ⟨Ls,hLs⟩ : ∃ Ls : List (List Rec),[L0,L1,L2,L3] = Ls := ⟨_,rfl⟩
       have hsg : [.sg 6 (L0.map rv) false,.sg 6 (L1.map rv) false,.sg 6 (L2.map rv) false,.sg 6 (L3.map rv) false] = Ls.map sgR := by rw [← hLs]; rfl
       have hPl : Ls.length = 4 := by rw [← hLs]; rfl
       have hbl : [.sg 6 ((nbL 0 L0).map rv) false,.sg 6 ((nbL 0 L1).map rv) false,.sg 6 ((nbL 0 L2).map rv) false,.sg 6 ((nbL 0 L3).map rv) false] = Ls.map nbR := by rw [← hLs]; rfl
       rw [hsg,hbl]
       rw [hLs] at hml
       clear hLs hsg hbl hlen
       have hPm : (Ls.map sgR).length = 4 := by rw [List.length_map]; exact hPl
       simp only [go_sem,zaa,↓reduceIte,lcT,ty,zaf,zag,zec,hPm]
       refine zbe ⟨fun m σ => ∃ j : Nat,m = 4 - j ∧ j ≤ 4 ∧
           ((j = 0 ∧ σ = ⟨[.junk,.junk,.w (.int .i64 t),.fn 13 [.rf 0 1 0 0],.junk,.junk,.junk,.junk,.junk,.junk,.junk,.junk,.junk,.junk,.junk,.junk,.junk,.junk,.junk,.junk,.junk,.junk,.junk,.junk,.junk,.junk,.junk,.junk,.junk,.junk,.junk,.junk,.junk,.junk,.junk,.junk,.junk,.junk,.junk,.junk,.junk,.junk,.junk,.junk,.junk,.junk,.junk,.junk,.junk,.junk,.junk,.sg 1 (Ls.map sgR) false,.w (.int .i64 4),.w (.int .i64 j),.junk,.junk,.junk,.junk,.junk,.junk,.junk,.junk,.junk,.junk,.junk],[(0,.g 1 [.sg 1 [] true])],4⟩) ∨
            (0 < j ∧ σ = ⟨[.junk,.junk,.w (.int .i64 t),.fn 13 [.rf 0 1 0 0],.junk,.junk,.junk,.junk,.junk,.junk,.junk,.junk,.junk,.junk,.junk,.junk,.junk,.junk,.junk,.junk,.junk,.junk,.junk,.junk,.junk,.junk,.junk,.junk,.junk,.junk,.junk,.junk,.junk,.junk,.junk,.junk,.junk,.junk,.junk,.junk,.junk,.junk,.junk,.junk,.junk,.junk,.junk,.junk,.junk,.junk,.junk,.sg 1 (Ls.map sgR) false,.w (.int .i64 4),.w (.int .i64 j),.junk,.junk,.junk,.junk,.junk,.junk,.junk,.junk,.junk,.junk,.junk],[(0,.g 1 [.ms 4 1 0 j]),(4,.g 1 ((Ls.take j).map nbR))],5⟩)),?_,?_⟩
       · refine ⟨_,_,zab [0,1,2,3] rfl rfl rfl ?_ ?_,0,rfl,by omega,.inl ⟨rfl,rfl⟩⟩
         · simp only [ssT,zad,zae,setSlot,gOf,AV.ren,renL,Blk.ren,Ax.look,Ax.put,reduceCtorEq,↓reduceIte,Nat.reduceEqDiff,Nat.reduceLT,Nat.reduceAdd,List.length_append,List.length_cons,List.length_nil,Option.some.injEq,zbj]; try simp
         · simp only [ssT,zad,zae,setSlot,gOf,AV.ren,renL,Blk.ren,Ax.look,Ax.put,reduceCtorEq,↓reduceIte,Nat.reduceEqDiff,Nat.reduceLT,Nat.reduceAdd,List.length_append,List.length_cons,List.length_nil,Option.some.injEq]; try simp
       · rintro m σ ⟨j,rfl,hj,hσ⟩
         have e2 : ((j : Int) + 1 + 9223372036854775808) % 18446744073709551616 - 9223372036854775808 = ((j + 1 : Nat) : Int) := by omega
         by_cases hjl : j < 4
         · have d5 : decide ((j : Int) < 4) = true := decide_eq_true (by omega)
           have hjL : j < Ls.length := by omega
           have hs2 : slot (Ls.map sgR) j = sgR Ls[j] := zba sgR Ls j hjL
           have htk : Ls.take (j + 1) = Ls.take j ++ [Ls[j]] := List.take_succ_eq_append_getElem hjL
           have hm2 := hml Ls[j] (List.getElem_mem hjL)
           obtain ⟨L,hL2⟩ : ∃ L,Ls[j] = L := ⟨_,rfl⟩
           rw [hL2] at hs2 htk hm2
           have hs2 : slot (Ls.map sgR) j = .sg 6 (L.map rv) false := hs2
           have hlm : (L.map rv).length = L.length := by simp
           have hL6 : L.length ≤ 1000000 := by omega
           have hxL : ∃ q : List Rec,L.map rv = q.map rv := ⟨L,rfl⟩
           have hxN : ∃ q : List Rec,(nbL 0 L).map rv = q.map rv := ⟨_,rfl⟩
           have hcL : ∀ f,coe ty 22 (.sg 6 (L.map rv) f) = .sg 6 (L.map rv) f := fun f => by cases L <;> rfl
           have hcN : ∀ f,coe ty 22 (.sg 6 ((nbL 0 L).map rv) f) = .sg 6 ((nbL 0 L).map rv) f := fun f => by cases (nbL 0 L) <;> rfl
           have hat : (Ls.take j).map nbR ++ [.sg 6 ((nbL 0 L).map rv) false] = (Ls.take (j + 1)).map nbR := by rw [htk,List.map_append]; rfl
           have htl : ((Ls.take j).map nbR).length = j := by rw [List.length_map,List.length_take]; omega
           have hcb := zas (Ls.take j)
           have hcb1 := zas (Ls.take (j + 1))
           have hrb1 : ∀ g,renL g ((Ls.take (j + 1)).map nbR) = (Ls.take (j + 1)).map nbR := fun g => renL_closed g _ hcb1
           rcases hσ with ⟨rfl,rfl⟩ | ⟨hj0,rfl⟩
           · simp only [go_sem,zaa,↓reduceIte,lcT,ty,zaf,zag,zec,hPm,d5,hs2,e2,nmbS,zgz,hlm,hL6,hxL,hxN,hcL,hcN,zaz,zah,Int.toNat_natCast]
             repeat (first | refine And.intro (by omega) ?_ | refine And.intro ⟨by omega,by omega⟩ ?_ | refine And.intro (by decide) ?_)
             have hat0 : (Ls.take (0 + 1)).map nbR = [.sg 6 ((nbL 0 L).map rv) false] := by rw [htk]; rfl
             refine ⟨4 - (0 + 1),_,by omega,zab [0,1,2,3,84] rfl rfl rfl ?_ ?_,0 + 1,rfl,by omega,.inr ⟨by omega,rfl⟩⟩
             · simp only [ssT,zad,zae,setSlot,gOf,AV.ren,renL,Blk.ren,Ax.look,Ax.put,reduceCtorEq,↓reduceIte,Nat.reduceEqDiff,Nat.reduceLT,Nat.reduceAdd,List.length_append,List.length_cons,List.length_nil,Option.some.injEq,zbj]; try simp
             · simp only [ssT,zad,zae,setSlot,gOf,AV.ren,renL,Blk.ren,Ax.look,Ax.put,reduceCtorEq,↓reduceIte,Nat.reduceEqDiff,Nat.reduceLT,Nat.reduceAdd,List.length_append,List.length_cons,List.length_nil,Option.some.injEq,zak,hat0]; try simp [renL,zak]
           · have dj : decide (0 < j) = true := decide_eq_true hj0
             have hj1 : j ≤ 1000 := by omega
             simp only [go_sem,zaa,↓reduceIte,lcT,ty,zaf,zag,zec,hPm,d5,hs2,e2,nmbS,zgz,hlm,hL6,hxL,hxN,hcL,hcN,zaz,zah,htl,hcb,hcb1,hat,hj0,dj,hj1,cond_true,Int.toNat_natCast]
             repeat (first | refine And.intro (by omega) ?_ | refine And.intro ⟨by omega,by omega⟩ ?_ | refine And.intro (by decide) ?_)
             refine ⟨4 - (j + 1),_,by omega,zab [0,1,2,3,85] rfl rfl rfl ?_ ?_,j + 1,rfl,by omega,.inr ⟨by omega,rfl⟩⟩
             · simp only [ssT,zad,zae,setSlot,gOf,AV.ren,renL,Blk.ren,Ax.look,Ax.put,reduceCtorEq,↓reduceIte,Nat.reduceEqDiff,Nat.reduceLT,Nat.reduceAdd,List.length_append,List.length_cons,List.length_nil,Option.some.injEq,zbj]; try simp
             · simp only [ssT,zad,zae,setSlot,gOf,AV.ren,renL,Blk.ren,Ax.look,Ax.put,reduceCtorEq,↓reduceIte,Nat.reduceEqDiff,Nat.reduceLT,Nat.reduceAdd,List.length_append,List.length_cons,List.length_nil,Option.some.injEq,hrb1]; try simp
         · have d5 : decide ((j : Int) < 4) = false := decide_eq_false (by omega)
           obtain rfl : j = 4 := by omega
           have htk : Ls.take 4 = Ls := List.take_of_length_le (by omega)
           rcases hσ with ⟨h0,_⟩ | ⟨_,rfl⟩
           · omega
           · rw [htk]
             have hcb := zas Ls
             have hrb : ∀ g,renL g (Ls.map nbR) = Ls.map nbR := fun g => renL_closed g _ hcb
             simp only [go_sem,zaa,↓reduceIte,lcT,ty,zaf,zag,zec,hPm,d5]
             refine ⟨_,Weak.refl _,?_⟩
             simp only [go_sem,zaa,↓reduceIte,lcT,ty,zaf,zag,zec]
             refine ⟨_,Weak.refl _,?_⟩
             simp only [go_sem,zaa,↓reduceIte,lcT,ty,zaf,zag,zec,hcb,hrb,cond_true]
 · exact hp.elim
end
end Go.Proofs.Ytdfgfdcfcdgadaa
