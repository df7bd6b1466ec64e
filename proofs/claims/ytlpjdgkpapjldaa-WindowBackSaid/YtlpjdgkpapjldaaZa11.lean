/- What the proofs of this seat stand on; it asks nothing. -/
import Derived.Test.YtlpjdgkpapjldaaZa10
set_option linter.unusedSimpArgs false
set_option linter.unusedVariables false
namespace Go.Proofs.Ytlpjdgkpapjldaa
open Ax
theorem slot_fzL (id : Nat) (bs : List UInt8) : ∀ (sl : List AV) (i : Nat),slot (fzL id bs sl) i = (slot sl i).fz id bs
 | [],i => rfl
 | x :: sl,0 => rfl
 | x :: sl,i + 1 => slot_fzL id bs sl i
def rA (d t : Int) : Prop := d < 0 ∨ 31 < d ∨ t < 0 ∨ 1099511627776 < t
def rB (key val : List UInt8) : Prop := 64 < key.length ∨ 512 < val.length
def rC (k : Bool) (key : List UInt8) (dd : Bool) (val : List UInt8) : Prop := (k = false ∧ (key ≠ [] ∨ dd = true)) ∨ (dd = true ∧ val ≠ [])
instance (d t : Int) : Decidable (rA d t) := by unfold rA; infer_instance
instance (key val : List UInt8) : Decidable (rB key val) := by unfold rB; infer_instance
instance (k : Bool) (key : List UInt8) (dd : Bool) (val : List UInt8) : Decidable (rC k key dd val) := by unfold rC; infer_instance
def rchk (d t : Int) (k : Bool) (key : List UInt8) (dd : Bool) (val : List UInt8) : Int := if rA d t then 11 else if rB key val then 5 else if rC k key dd val then 4 else 0
section
set_option maxRecDepth 100000
set_option maxHeartbeats 1000000 in
set_option maxHeartbeats 1000000 in
def flagI (k dd : Bool) : Int := (if k then 1 else 0) + (if dd then 2 else 0)
def recL (d t : Int) (k : Bool) (key : List UInt8) (dd : Bool) (val : List UInt8) : List UInt8 :=
 UInt8.ofNat (flagI k dd).toNat :: (putU (zz d).toNat ++ (putU (zz t).toNat ++ ((if k then textL key else []) ++ (if dd then [] else textL val))))
def recB (d t : Int) (k : Bool) (key : List UInt8) (dd : Bool) (val : List UInt8) : List UInt8 := if rchk d t k key dd val = 0 then recL d t k key dd val else []
theorem textL_length (s : List UInt8) (h : s.length ≤ 1000000) : (textL s).length ≤ s.length + 10 := by
 unfold textL
 have := zfg (2 * s.length) (by omega)
 rw [List.length_append]; omega
set_option maxHeartbeats 1000000 in
end
end Go.Proofs.Ytlpjdgkpapjldaa
namespace Go.Proofs.Ytlpjdgkpapjldaa
open Ax
def pqW (n : Int) : List UInt8 := putU (zz n).toNat
def zbc (r : WS) : List UInt8 := ((((textL r.k ++ pqW r.s) ++ pqW r.c) ++ pqW r.t) ++ pqW r.a) ++ pqW r.b
def layWH (Z L M D : Int) (n : Nat) : List UInt8 := (((pqW Z ++ pqW L) ++ pqW M) ++ pqW D) ++ pqW (n : Int)
def layW (Z L M D : Int) (l : List WS) : List UInt8 := layWH Z L M D l.length ++ l.flatMap zbc
def putW (Z L M D : Int) (l : List WS) : List UInt8 := if chW Z L M D l = 0 then layW Z L M D l else []
theorem zat (n : Int) (h : -9223372036854775808 ≤ n ∧ n ≤ 9223372036854775807) : (pqW n).length ≤ 10 := by
 have := zz_range n h.1 h.2
 exact zfg _ (by omega)
def okW (r : WS) : Prop := (0 ≤ r.s ∧ r.s ≤ 1099511627776) ∧ r.k.length ≤ 64 ∧ (1 ≤ r.c ∧ r.c ≤ 1048576) ∧ (-1125899906842624 ≤ r.t ∧ r.t ≤ 1125899906842624) ∧ (-1073741824 ≤ r.a ∧ r.a ≤ 1073741824) ∧ (-1073741824 ≤ r.b ∧ r.b ≤ 1073741824)
theorem okr_ok {z : Int} {r : WS} (h : okr z r = true) : okW r := by
 unfold okr okWB at h
 simp only [Bool.and_eq_true,Bool.not_eq_true',decide_eq_false_iff_not,decide_eq_true_eq] at h
 obtain ⟨h1,h2,h3,h4,h5,h6,h7,h8⟩ := h
 have g1 := zai h1
 have g4 := zai h4
 have g5 := zai h5
 have g6 := zai h6
 have g8 := zai h8
 have m1 := mul_bound g4 g5
 have m2 := mul_bound g4 g6
 exact ⟨g1,by omega,g4,⟨by omega,by omega⟩,g5,g6⟩
theorem chW_ok {Z L M D : Int} {l : List WS} (h : chW Z L M D l = 0) : (1 ≤ Z ∧ Z ≤ 1048576) ∧ (0 ≤ L ∧ L ≤ 1048576) ∧ (-1 ≤ M ∧ M ≤ 1099511627776) ∧ (0 ≤ D ∧ D ≤ 1099511627776) ∧ l.length ≤ 256 ∧ ∀ r ∈ l,okW r := by
 unfold chW at h
 cases hh : hdB Z L M D l.length with
 | true => rw [hh,if_pos rfl] at h; cases h
 | false =>
   rw [hh,if_neg (by simp)] at h
   unfold hdB at hh
   simp only [Bool.or_eq_false_iff,decide_eq_false_iff_not] at hh
   obtain ⟨h1,h2,h3,h4,h5⟩ := hh
   cases ha : l.all (okr Z) with
   | false => rw [ha,if_neg (by simp)] at h; cases h
   | true =>
     refine ⟨zai h1,zai h2,zai h3,zai h4,by omega,fun r hr => okr_ok (List.all_eq_true.1 ha r hr)⟩
theorem layW_snoc (l : List WS) (i : Nat) (h : i < l.length) : (l.take (i + 1)).flatMap zbc = (l.take i).flatMap zbc ++ zbc l[i] := by
 rw [List.take_succ_eq_append_getElem h,List.flatMap_append]; simp
theorem layWR_length {r : WS} (h : okW r) : (zbc r).length ≤ 130 := by
 obtain ⟨h1,h2,h3,h4,h5,h6⟩ := h
 have a1 := textL_length r.k (by omega)
 have a2 := zat r.s (by omega)
 have a3 := zat r.c (by omega)
 have a4 := zat r.t (by omega)
 have a5 := zat r.a (by omega)
 have a6 := zat r.b (by omega)
 unfold zbc; simp only [List.length_append]; omega
theorem layW_length : ∀ l : List WS,(∀ r ∈ l,okW r) → (l.flatMap zbc).length ≤ 130 * l.length
 | [],_ => by simp
 | a :: l,h => by
   have h1 := layWR_length (h a (List.mem_cons_self ..))
   have h2 := layW_length l (fun r hr => h r (List.mem_cons_of_mem _ hr))
   rw [List.flatMap_cons,List.length_append,List.length_cons]; omega
def putWS : zan
 | [.agg [.w (.int .i64 Z),.w (.int .i64 L),.w (.int .i64 M),.w (.int .i64 D),.sg 6 xs f]],[] => ⟨xs.length ≤ 9223372036854775807 ∧ ∃ l : List WS,xs = l.map wsA,.tup [.sb (putW Z L M D (xs.map uws)) false,.w (.int .i64 (chW Z L M D (xs.map uws)))],[]⟩
 | _,_ => zbv
theorem gd0 (a b c d e : Int) : [a,b,c,d,e].getD 0 0 = a := rfl
theorem gd1 (a b c d e : Int) : [a,b,c,d,e].getD 1 0 = b := rfl
theorem gd2 (a b c d e : Int) : [a,b,c,d,e].getD 2 0 = c := rfl
theorem gd3 (a b c d e : Int) : [a,b,c,d,e].getD 3 0 = d := rfl
theorem gd4 (a b c d e : Int) : [a,b,c,d,e].getD 4 0 = e := rfl
def SputW (f : FuncId) : Option zan :=
 match f with
 | 19 => some zel
 | 20 => some zel
 | 41 => some putS
 | 42 => some textS
 | _ => none
theorem SputW_ok : Fns Try.prog SputW := by
 intro f s h
 unfold SputW at h
 split at h
 · injection h with h; subst h; exact ⟨⟨_,Try.func19,by kernel_rfl,by kernel_rfl⟩,chkW_sound⟩
 · injection h with h; subst h; exact ⟨⟨_,Try.func20,by kernel_rfl,by kernel_rfl⟩,rchkW_sound⟩
 · injection h with h; subst h; exact ⟨⟨_,Try.func41,by kernel_rfl,by kernel_rfl⟩,put_sound⟩
 · injection h with h; subst h; exact ⟨⟨_,Try.func42,by kernel_rfl,by kernel_rfl⟩,text_sound⟩
 · cases h
section
set_option maxRecDepth 100000
set_option maxHeartbeats 32000000 in
theorem putW_sound : zbf Try.prog 22 putWS := by
 refine zfp (S := SputW) (T := ty) zbo ty_ok SputW_ok Try.func22 (c := Try.f22.body.getD .skip) (by kernel_rfl) (by kernel_rfl) (fun xs pins hp _ => ?_)
 unfold putWS at hp ⊢
 split at hp
 · rename_i Z L M D xs f _
   obtain ⟨hL,l,rfl⟩ := hp
   have hx : ∃ q : List WS,l.map wsA = q.map wsA := ⟨l,rfl⟩
   have hle : (l.map wsA).length = l.length := by simp
   rw [hle] at hL
   have hc : coe ty 29 (.sg 6 (l.map wsA) f) = .sg 6 (l.map wsA) f := by cases l <;> rfl
   have htop : top = 4294967296 := rfl
   rw [zak]
   refine ⟨by simp,?_⟩
   unfold Try.f22
   by_cases h0 : chW Z L M D l = 0
   · obtain ⟨b1,b2,b3,b4,b5,b6⟩ := chW_ok h0
     have hpv : putW Z L M D l = layW Z L M D l := if_pos h0
     rw [hpv,h0]
     have r1 : -9223372036854775808 ≤ Z ∧ Z ≤ 9223372036854775807 := by omega
     have r2 : -9223372036854775808 ≤ L ∧ L ≤ 9223372036854775807 := by omega
     have r3 : -9223372036854775808 ≤ M ∧ M ≤ 9223372036854775807 := by omega
     have r4 : -9223372036854775808 ≤ D ∧ D ≤ 9223372036854775807 := by omega
     have r5 : -9223372036854775808 ≤ (l.length : Int) ∧ (l.length : Int) ≤ 9223372036854775807 := by omega
     have p1 := zat Z r1
     have p2 := zat L r2
     have p3 := zat M r3
     have p4 := zat D r4
     have p5 := zat (l.length : Int) r5
     have hlay : layW Z L M D l = layWH Z L M D l.length ++ l.flatMap zbc := rfl
     have hlh : layWH Z L M D l.length = (((pqW Z ++ pqW L) ++ pqW M) ++ pqW D) ++ pqW (l.length : Int) := rfl
     generalize hP1 : pqW Z = P1 at *
     generalize hP2 : pqW L = P2 at *
     generalize hP3 : pqW M = P3 at *
     generalize hP4 : pqW D = P4 at *
     generalize hP5 : pqW (l.length : Int) = P5 at *
     have hP1' : putU (zz Z).toNat = P1 := hP1
     have hP2' : putU (zz L).toNat = P2 := hP2
     have hP3' : putU (zz M).toNat = P3 := hP3
     have hP4' : putU (zz D).toNat = P4 := hP4
     have hP5' : putU (zz (l.length : Int)).toNat = P5 := hP5
     have v2 : (P1 ++ P2).length = P1.length + P2.length := List.length_append
     have v3 : ((P1 ++ P2) ++ P3).length = P1.length + P2.length + P3.length := by simp only [List.length_append]
     have v4 : (((P1 ++ P2) ++ P3) ++ P4).length = P1.length + P2.length + P3.length + P4.length := by simp only [List.length_append]
     have v5 : ((((P1 ++ P2) ++ P3) ++ P4) ++ P5).length = P1.length + P2.length + P3.length + P4.length + P5.length := by simp only [List.length_append]
     simp only [go_sem,zab,Nat.reduceAdd,Nat.reduceSub,Nat.reduceMul,Int.reduceToNat,reduceCtorEq,↓reduceIte,Int.reducePow,Nat.reducePow,Int.reduceMod,Nat.reduceLeDiff,Int.reduceLE,Int.reduceNe,Int.reduceEq,Nat.reduceEqDiff,Nat.reduceLT,Nat.reduceBEq,ty,SputW,putS,textS,zel,hle,hL,hx,hc,zak,h0]
     refine awp_unr 6 ?_
     simp only [go_sem,zab,Nat.reduceAdd,Nat.reduceSub,Nat.reduceMul,Int.reduceToNat,reduceCtorEq,↓reduceIte,Int.reducePow,Nat.reducePow,Int.reduceMod,Nat.reduceLeDiff,Int.reduceLE,Int.reduceNe,Int.reduceEq,Nat.reduceEqDiff,Nat.reduceLT,Nat.reduceBEq,ty,SputW,putS,hle,r1,r2,r3,r4,r5,hP1',hP2',hP3',hP4',hP5',v2,v3,v4,v5,fillS,List.take_length,List.nil_append,unr_go,unK_normal,unK_exit,unK_ret,Int.reduceAdd,Int.reduceSub,Int.reduceLT,decide_true,decide_false,Int.cast_ofNat_Int,slot,gd0,gd1,gd2,gd3,gd4,List.length_cons,List.length_nil]
     repeat (refine And.intro (by omega) ?_)
     refine awp_loopW ⟨fun m σ => ∃ (i : Nat) (acc : List UInt8),m = l.length - i ∧ i ≤ l.length ∧ acc = ((((P1 ++ P2) ++ P3) ++ P4) ++ P5) ++ (l.take i).flatMap zbc ∧
       σ = ⟨[.agg [.w (.int .i64 Z),.w (.int .i64 L),.w (.int .i64 M),.w (.int .i64 D),.sg 6 (l.map wsA) f],.rf 4 5 0 0,.sg 1 [] true,.w (.int .i64 0),.w (.int .i64 0),.ms 5 1 0 acc.length,.junk,.junk,.junk,.junk,.junk,.junk,.junk,.junk,.junk,.junk,.junk,.junk,.junk,.junk,.junk,.junk,.junk,.junk,.junk,.junk,.junk,.junk,.junk,.junk,.junk,.junk,.junk,.junk,.junk,.junk,.junk,.junk,.junk,.junk,.sg 6 (l.map wsA) f,.w (.int .i64 l.length),.w (.int .i64 i),.junk,.junk,.junk,.junk,.junk,.junk,.junk,.junk,.junk,.junk,.junk,.junk,.junk,.junk,.junk,.junk,.junk,.junk,.junk,.junk,.junk,.junk,.junk,.junk,.junk,.junk,.junk,.junk,.junk,.junk,.junk],[(4,.g 5 [.agg [.w (.int .i64 Z),.w (.int .i64 L),.w (.int .i64 M),.w (.int .i64 D),.sg 6 (l.map wsA) f]]),(5,.b acc)],6⟩,?_,?_⟩
     · refine ⟨_,_,zao [0,1,2,3,4,596] rfl rfl rfl ?_ ?_,0,_,rfl,by omega,rfl,rfl⟩
       · simp only [ssT,zav,zaw,setSlot,gOf,AV.ren,renL,Blk.ren,Ax.look,Ax.put,reduceCtorEq,↓reduceIte,Nat.reduceEqDiff,Nat.reduceLT,Nat.reduceAdd,List.length_append,List.length_cons,List.length_nil,Option.some.injEq,v5]; try simp
       · simp only [ssT,zav,zaw,setSlot,gOf,AV.ren,renL,Blk.ren,Ax.look,Ax.put,reduceCtorEq,↓reduceIte,Nat.reduceEqDiff,Nat.reduceLT,Nat.reduceAdd,List.length_append,List.length_cons,List.length_nil,Option.some.injEq]; try simp
     · rintro m σ ⟨i,acc,rfl,hi,hacc,rfl⟩
       have hal : acc.length ≤ 50 + 130 * 256 := by
         have := layW_length (l.take i) (fun r hr => b6 r (List.mem_of_mem_take hr))
         rw [hacc,List.length_append,v5]
         rw [List.length_take] at this
         omega
       by_cases hil : i < l.length
       · have d2 : decide ((i : Int) < l.length) = true := decide_eq_true (by omega)
         have e1 : ((i : Int) + 1 + 9223372036854775808) % 18446744073709551616 - 9223372036854775808 = ((i + 1 : Nat) : Int) := by omega
         have hs1 := zch l i hil
         have hsn := layW_snoc l i hil
         have hok := b6 _ (List.getElem_mem hil)
         obtain ⟨r,hr⟩ : ∃ r,l[i] = r := ⟨_,rfl⟩
         rw [hr] at hs1 hsn hok
         obtain ⟨s,k,c,t,a,b⟩ := r
         have hs1 : slot (l.map wsA) i = .agg [.w (.int .i64 s),.str k,.w (.int .i64 c),.w (.int .i64 t),.w (.int .i64 a),.w (.int .i64 b)] := hs1
         obtain ⟨g1,g2,g3,g4,g5,g6⟩ := hok
         simp only at g1 g2 g3 g4 g5 g6
         have q1 : k.length ≤ 1000000 := by omega
         have u1 : -9223372036854775808 ≤ s ∧ s ≤ 9223372036854775807 := by omega
         have u2 : -9223372036854775808 ≤ c ∧ c ≤ 9223372036854775807 := by omega
         have u3 : -9223372036854775808 ≤ t ∧ t ≤ 9223372036854775807 := by omega
         have u4 : -9223372036854775808 ≤ a ∧ a ≤ 9223372036854775807 := by omega
         have u5 : -9223372036854775808 ≤ b ∧ b ≤ 9223372036854775807 := by omega
         have y0 := textL_length k (by omega)
         have y1 := zat s u1
         have y2 := zat c u2
         have y3 := zat t u3
         have y4 := zat a u4
         have y5 := zat b u5
         have hlr : zbc ⟨s,k,c,t,a,b⟩ = ((((textL k ++ pqW s) ++ pqW c) ++ pqW t) ++ pqW a) ++ pqW b := rfl
         generalize hK : textL k = K at *
         generalize hA1 : pqW s = A1 at *
         generalize hA2 : pqW c = A2 at *
         generalize hA3 : pqW t = A3 at *
         generalize hA4 : pqW a = A4 at *
         generalize hA5 : pqW b = A5 at *
         have hA1' : putU (zz s).toNat = A1 := hA1
         have hA2' : putU (zz c).toNat = A2 := hA2
         have hA3' : putU (zz t).toNat = A3 := hA3
         have hA4' : putU (zz a).toNat = A4 := hA4
         have hA5' : putU (zz b).toNat = A5 := hA5
         have w0 : (acc ++ K).length = acc.length + K.length := List.length_append
         have w1 : ((acc ++ K) ++ A1).length = acc.length + K.length + A1.length := by simp only [List.length_append]
         have w2 : (((acc ++ K) ++ A1) ++ A2).length = acc.length + K.length + A1.length + A2.length := by simp only [List.length_append]
         have w3 : ((((acc ++ K) ++ A1) ++ A2) ++ A3).length = acc.length + K.length + A1.length + A2.length + A3.length := by simp only [List.length_append]
         have w4 : (((((acc ++ K) ++ A1) ++ A2) ++ A3) ++ A4).length = acc.length + K.length + A1.length + A2.length + A3.length + A4.length := by simp only [List.length_append]
         have w5 : ((((((acc ++ K) ++ A1) ++ A2) ++ A3) ++ A4) ++ A5).length = acc.length + K.length + A1.length + A2.length + A3.length + A4.length + A5.length := by simp only [List.length_append]
         have hnew : ((((((acc ++ K) ++ A1) ++ A2) ++ A3) ++ A4) ++ A5) = ((((P1 ++ P2) ++ P3) ++ P4) ++ P5) ++ (l.take (i + 1)).flatMap zbc := by
           rw [hsn,hlr,hacc]; simp only [List.append_assoc]
         simp only [go_sem,zab,Nat.reduceAdd,Nat.reduceSub,Nat.reduceMul,Int.reduceToNat,reduceCtorEq,↓reduceIte,Int.reducePow,Nat.reducePow,Int.reduceMod,Nat.reduceLeDiff,Int.reduceLE,Int.reduceNe,Int.reduceEq,Nat.reduceEqDiff,Nat.reduceLT,Nat.reduceBEq,ty,SputW,putS,textS,hle,d2,hs1,q1,hK,w0,Int.toNat_natCast,List.take_length]
         repeat (refine And.intro (by omega) ?_)
         refine awp_unr 6 ?_
         simp only [go_sem,zab,Nat.reduceAdd,Nat.reduceSub,Nat.reduceMul,Int.reduceToNat,reduceCtorEq,↓reduceIte,Int.reducePow,Nat.reducePow,Int.reduceMod,Nat.reduceLeDiff,Int.reduceLE,Int.reduceNe,Int.reduceEq,Nat.reduceEqDiff,Nat.reduceLT,Nat.reduceBEq,ty,SputW,putS,hle,e1,u1,u2,u3,u4,u5,hA1',hA2',hA3',hA4',hA5',w0,w1,w2,w3,w4,w5,fillS,List.take_length,unr_go,unK_normal,unK_exit,unK_ret,Int.reduceAdd,Int.reduceSub,Int.reduceLT,decide_true,decide_false,Int.cast_ofNat_Int,slot,gd0,gd1,gd2,gd3,gd4,List.length_cons,List.length_nil]
         repeat (refine And.intro (by omega) ?_)
         refine ⟨l.length - (i + 1),_,by omega,zao [0,1,2,3,4,606] rfl rfl rfl ?_ ?_,i + 1,_,rfl,by omega,hnew,rfl⟩
         · simp only [ssT,zav,zaw,setSlot,gOf,AV.ren,renL,Blk.ren,Ax.look,Ax.put,reduceCtorEq,↓reduceIte,Nat.reduceEqDiff,Nat.reduceLT,Nat.reduceAdd,List.length_append,List.length_cons,List.length_nil,Option.some.injEq,w5]; try simp
         · simp only [ssT,zav,zaw,setSlot,gOf,AV.ren,renL,Blk.ren,Ax.look,Ax.put,reduceCtorEq,↓reduceIte,Nat.reduceEqDiff,Nat.reduceLT,Nat.reduceAdd,List.length_append,List.length_cons,List.length_nil,Option.some.injEq]; try simp
       · have d2 : decide ((i : Int) < l.length) = false := decide_eq_false (by omega)
         have hii : l.take i = l := List.take_of_length_le (by omega)
         rw [hii] at hacc
         rw [hlay,hlh]
         simp only [go_sem,zab,Nat.reduceAdd,Nat.reduceSub,Nat.reduceMul,Int.reduceToNat,reduceCtorEq,↓reduceIte,Int.reducePow,Nat.reducePow,Int.reduceMod,Nat.reduceLeDiff,Int.reduceLE,Int.reduceNe,Int.reduceEq,Nat.reduceEqDiff,Nat.reduceLT,Nat.reduceBEq,ty,SputW,hle,d2]
         refine ⟨_,Weak.refl _,?_⟩
         simp only [go_sem,zab,Nat.reduceAdd,Nat.reduceSub,Nat.reduceMul,Int.reduceToNat,reduceCtorEq,↓reduceIte,Int.reducePow,Nat.reducePow,Int.reduceMod,Nat.reduceLeDiff,Int.reduceLE,Int.reduceNe,Int.reduceEq,Nat.reduceEqDiff,Nat.reduceLT,Nat.reduceBEq,ty,SputW]
         exact fz_ends 2 3 (by decide) rfl rfl rfl rfl hacc.symm rfl
   · have hpv : putW Z L M D l = [] := if_neg h0
     have d0 : decide (chW Z L M D l = 0) = false := decide_eq_false h0
     rw [hpv]
     simp only [go_sem,zab,Nat.reduceAdd,Nat.reduceSub,Nat.reduceMul,Int.reduceToNat,reduceCtorEq,↓reduceIte,Int.reducePow,Nat.reducePow,Int.reduceMod,Nat.reduceLeDiff,Int.reduceLE,Int.reduceNe,Int.reduceEq,Nat.reduceEqDiff,Nat.reduceLT,Nat.reduceBEq,ty,SputW,zel,hle,hL,hx,hc,zak,d0]
     exact nil_ends 2 3 (by decide) rfl rfl rfl rfl
 · exact hp.elim
set_option maxHeartbeats 32000000 in
end
end Go.Proofs.Ytlpjdgkpapjldaa
namespace Go.Proofs.Ytlpjdgkpapjldaa
open Ax
def g0 (bs : List UInt8) (e : Int) : Nat := (rfixN 1 bs e).toNat
def gb1 (bs : List UInt8) (e : Int) := rfixL 1 bs e
def ge1 (bs : List UInt8) (e : Int) := rfixE 1 bs e
def gd (bs : List UInt8) (e : Int) : Int := numN (gb1 bs e) (ge1 bs e)
def gb2 (bs : List UInt8) (e : Int) := numL (gb1 bs e) (ge1 bs e)
def ge2 (bs : List UInt8) (e : Int) := numE (gb1 bs e) (ge1 bs e)
def gt (bs : List UInt8) (e : Int) : Int := numN (gb2 bs e) (ge2 bs e)
def gb3 (bs : List UInt8) (e : Int) := numL (gb2 bs e) (ge2 bs e)
def ge3 (bs : List UInt8) (e : Int) := numE (gb2 bs e) (ge2 bs e)
def gk (bs : List UInt8) (e : Int) : Bool := decide (g0 bs e % 2 = 1)
def gdd (bs : List UInt8) (e : Int) : Bool := decide (g0 bs e / 2 % 2 = 1)
def gkey (bs : List UInt8) (e : Int) : List UInt8 := if gk bs e then rtS' 64 (gb3 bs e) (ge3 bs e) else []
def gb4 (bs : List UInt8) (e : Int) : List UInt8 := if gk bs e then rtL 64 (gb3 bs e) (ge3 bs e) else gb3 bs e
def ge4 (bs : List UInt8) (e : Int) : Int := if gk bs e then rtE 64 (gb3 bs e) (ge3 bs e) else ge3 bs e
def gval (bs : List UInt8) (e : Int) : List UInt8 := if gdd bs e then [] else rtS' 512 (gb4 bs e) (ge4 bs e)
def ge5 (bs : List UInt8) (e : Int) : Int := if gdd bs e then ge4 bs e else rtE 512 (gb4 bs e) (ge4 bs e)
def gerr (bs : List UInt8) (e : Int) : Int :=
 if ge5 bs e ≠ 0 then ge5 bs e else if 4 ≤ g0 bs e ∨ rchk (gd bs e) (gt bs e) (gk bs e) (gkey bs e) (gdd bs e) (gval bs e) ≠ 0 then 4 else 0
theorem tkL_length (n : Int) (bs : List UInt8) : (tkL n bs).length ≤ bs.length := by unfold tkL; split <;> simp
theorem rtL_length (m : Int) (bs : List UInt8) (e : Int) : (rtL m bs e).length ≤ bs.length := by
 unfold rtL
 have h1 := zbl bs e
 split
 · have := tkL_length (numN bs e) (numL bs e); omega
 · exact h1
section
set_option maxRecDepth 100000
set_option maxHeartbeats 2000000 in
end
end Go.Proofs.Ytlpjdgkpapjldaa
namespace Go.Proofs.Ytlpjdgkpapjldaa
open Ax
def wrL1 (b : List UInt8) (e : Int) : List UInt8 := rtL 64 b e
def wrE1 (b : List UInt8) (e : Int) : Int := rtE 64 b e
def wrL2 (b : List UInt8) (e : Int) : List UInt8 := numL (wrL1 b e) (wrE1 b e)
def wrE2 (b : List UInt8) (e : Int) : Int := numE (wrL1 b e) (wrE1 b e)
def wrL3 (b : List UInt8) (e : Int) : List UInt8 := numL (wrL2 b e) (wrE2 b e)
def wrE3 (b : List UInt8) (e : Int) : Int := numE (wrL2 b e) (wrE2 b e)
def wrL4 (b : List UInt8) (e : Int) : List UInt8 := numL (wrL3 b e) (wrE3 b e)
def wrE4 (b : List UInt8) (e : Int) : Int := numE (wrL3 b e) (wrE3 b e)
def wrL5 (b : List UInt8) (e : Int) : List UInt8 := numL (wrL4 b e) (wrE4 b e)
def wrE5 (b : List UInt8) (e : Int) : Int := numE (wrL4 b e) (wrE4 b e)
def wrL6 (b : List UInt8) (e : Int) : List UInt8 := numL (wrL5 b e) (wrE5 b e)
def wrE6 (b : List UInt8) (e : Int) : Int := numE (wrL5 b e) (wrE5 b e)
def wrV (b : List UInt8) (e : Int) : WS := ⟨numN (wrL1 b e) (wrE1 b e),rtS' 64 b e,numN (wrL2 b e) (wrE2 b e),numN (wrL3 b e) (wrE3 b e),numN (wrL4 b e) (wrE4 b e),numN (wrL5 b e) (wrE5 b e)⟩
def rdW : Nat → List UInt8 → Int → List WS
 | 0,_,_ => []
 | n + 1,b,e => wrV b e :: rdW n (wrL6 b e) (wrE6 b e)
def rdWL : Nat → List UInt8 → Int → List UInt8
 | 0,b,_ => b
 | n + 1,b,e => rdWL n (wrL6 b e) (wrE6 b e)
def rdWE : Nat → List UInt8 → Int → Int
 | 0,_,e => e
 | n + 1,b,e => rdWE n (wrL6 b e) (wrE6 b e)
def rgW : Nat → List UInt8 → Int → List WS
 | 0,_,_ => []
 | n + 1,b,e => if e = 0 then wrV b e :: rgW n (wrL6 b e) (wrE6 b e) else []
theorem wrL_length (b : List UInt8) (e : Int) : (wrL1 b e).length ≤ b.length ∧ (wrL2 b e).length ≤ b.length ∧ (wrL3 b e).length ≤ b.length ∧ (wrL4 b e).length ≤ b.length ∧ (wrL5 b e).length ≤ b.length ∧ (wrL6 b e).length ≤ b.length := by
 have h1 : (wrL1 b e).length ≤ b.length := rtL_length 64 b e
 have h2 : (wrL2 b e).length ≤ (wrL1 b e).length := zbl _ _
 have h3 : (wrL3 b e).length ≤ (wrL2 b e).length := zbl _ _
 have h4 : (wrL4 b e).length ≤ (wrL3 b e).length := zbl _ _
 have h5 : (wrL5 b e).length ≤ (wrL4 b e).length := zbl _ _
 have h6 : (wrL6 b e).length ≤ (wrL5 b e).length := zbl _ _
 omega
def hwL1 (b : List UInt8) : List UInt8 := numL b 0
def hwE1 (b : List UInt8) : Int := numE b 0
def hwL2 (b : List UInt8) : List UInt8 := numL (hwL1 b) (hwE1 b)
def hwE2 (b : List UInt8) : Int := numE (hwL1 b) (hwE1 b)
def hwL3 (b : List UInt8) : List UInt8 := numL (hwL2 b) (hwE2 b)
def hwE3 (b : List UInt8) : Int := numE (hwL2 b) (hwE2 b)
def hwL4 (b : List UInt8) : List UInt8 := numL (hwL3 b) (hwE3 b)
def hwE4 (b : List UInt8) : Int := numE (hwL3 b) (hwE3 b)
def hwL5 (b : List UInt8) : List UInt8 := numL (hwL4 b) (hwE4 b)
def hwE5 (b : List UInt8) : Int := numE (hwL4 b) (hwE4 b)
def hwZ (b : List UInt8) : Int := numN b 0
def hwL (b : List UInt8) : Int := numN (hwL1 b) (hwE1 b)
def hwM (b : List UInt8) : Int := numN (hwL2 b) (hwE2 b)
def hwD (b : List UInt8) : Int := numN (hwL3 b) (hwE3 b)
def hwN (b : List UInt8) : Int := numN (hwL4 b) (hwE4 b)
theorem hwL_length (b : List UInt8) : (hwL1 b).length ≤ b.length ∧ (hwL2 b).length ≤ b.length ∧ (hwL3 b).length ≤ b.length ∧ (hwL4 b).length ≤ b.length ∧ (hwL5 b).length ≤ b.length := by
 have h1 : (hwL1 b).length ≤ b.length := zbl _ _
 have h2 : (hwL2 b).length ≤ (hwL1 b).length := zbl _ _
 have h3 : (hwL3 b).length ≤ (hwL2 b).length := zbl _ _
 have h4 : (hwL4 b).length ≤ (hwL3 b).length := zbl _ _
 have h5 : (hwL5 b).length ≤ (hwL4 b).length := zbl _ _
 omega
structure WT where
 z : Int
 l : Int
 m : Int
 d : Int
 rs : List WS
def wtX : Option WT → AV
 | some x => .tup [.agg [.w (.int .i64 x.z),.w (.int .i64 x.l),.w (.int .i64 x.m),.w (.int .i64 x.d),.sg 6 (x.rs.map wsA) false],.w (.int .i64 0)]
 | none => .tup [.agg [.w (.int .i64 0),.w (.int .i64 0),.w (.int .i64 0),.w (.int .i64 0),.sg 6 [] true],.w (.int .i64 4)]
def pwK (Z L M D : Int) (l : List WS) (R : List UInt8) (E : Int) (b : List UInt8) : Option WT :=
 if (if E = 0 ∧ 0 < R.length then (4 : Int) else E) = 0 ∧ chW Z L M D l = 0 ∧ putW Z L M D l = b then some ⟨Z,L,M,D,l⟩ else none
def prW (b : List UInt8) : Option WT :=
 if outB (hwN b) 0 256 = true then none else pwK (hwZ b) (hwL b) (hwM b) (hwD b) (rdW (hwN b).toNat (hwL5 b) (hwE5 b)) (rdWL (hwN b).toNat (hwL5 b) (hwE5 b)) (rdWE (hwN b).toNat (hwL5 b) (hwE5 b)) b
def rwK (Z L M D : Int) (l : List WS) (b : List UInt8) : Option WT := if chW Z L M D l = 0 ∧ putW Z L M D l = b then some ⟨Z,L,M,D,l⟩ else none
def rrW (b : List UInt8) : Option WT := rwK (hwZ b) (hwL b) (hwM b) (hwD b) (rgW (min (hwN b) 257).toNat (hwL5 b) (hwE5 b)) b
def getWS : zan
 | [.sb b fb],[] => ⟨b.length ≤ 1000000,wtX (prW b),[]⟩
 | _,_ => zbv
def SgetW (f : FuncId) : Option zan :=
 match f with
 | 43 => some newS
 | 45 => some rtextS'
 | 44 => some numS
 | 46 => some doneS
 | 25 => some outS
 | 22 => some putWS
 | 47 => some beqS
 | _ => none
theorem SgetW_ok : Fns Try.prog SgetW := by
 intro f s h
 unfold SgetW at h
 split at h
 · injection h with h; subst h; exact ⟨⟨_,Try.func43,by kernel_rfl,by kernel_rfl⟩,new_sound⟩
 · injection h with h; subst h; exact ⟨⟨_,Try.func45,by kernel_rfl,by kernel_rfl⟩,mtext_sound⟩
 · injection h with h; subst h; exact ⟨⟨_,Try.func44,by kernel_rfl,by kernel_rfl⟩,num_sound⟩
 · injection h with h; subst h; exact ⟨⟨_,Try.func46,by kernel_rfl,by kernel_rfl⟩,done_sound⟩
 · injection h with h; subst h; exact ⟨⟨_,Try.func25,by kernel_rfl,by kernel_rfl⟩,out_sound⟩
 · injection h with h; subst h; exact ⟨⟨_,Try.func22,by kernel_rfl,by kernel_rfl⟩,putW_sound⟩
 · injection h with h; subst h; exact ⟨⟨_,Try.func47,by kernel_rfl,by kernel_rfl⟩,beq_sound⟩
 · cases h
section
set_option maxRecDepth 100000
set_option maxHeartbeats 32000000 in
theorem getW_sound : zbf Try.prog 23 getWS := by
 refine zfp (S := SgetW) (T := ty) zbo ty_ok SgetW_ok Try.func23 (c := Try.f23.body.getD .skip) (by kernel_rfl) (by kernel_rfl) (fun xs pins hp _ => ?_)
 unfold getWS at hp ⊢
 split at hp
 · rename_i b fb _
   have hb : b.length ≤ 1000000 := hp
   have tk : ∀ l : List UInt8,List.take l.length l = l := fun l => List.take_length
   obtain ⟨l1,l2,l3,l4,l5⟩ := hwL_length b
   have l1' : (hwL1 b).length ≤ 1000000 := by omega
   have l2' : (hwL2 b).length ≤ 1000000 := by omega
   have l3' : (hwL3 b).length ≤ 1000000 := by omega
   have l4' : (hwL4 b).length ≤ 1000000 := by omega
   have htop : top = 4294967296 := rfl
   refine ⟨by simp,?_⟩
   have a1 : numL b 0 = hwL1 b := rfl
   have a2 : numE b 0 = hwE1 b := rfl
   have a3 : numL (hwL1 b) (hwE1 b) = hwL2 b := rfl
   have a4 : numE (hwL1 b) (hwE1 b) = hwE2 b := rfl
   have a5 : numL (hwL2 b) (hwE2 b) = hwL3 b := rfl
   have a6 : numE (hwL2 b) (hwE2 b) = hwE3 b := rfl
   have a7 : numL (hwL3 b) (hwE3 b) = hwL4 b := rfl
   have a8 : numE (hwL3 b) (hwE3 b) = hwE4 b := rfl
   have a9 : numL (hwL4 b) (hwE4 b) = hwL5 b := rfl
   have a10 : numE (hwL4 b) (hwE4 b) = hwE5 b := rfl
   have c1 : numN b 0 = hwZ b := rfl
   have c2 : numN (hwL1 b) (hwE1 b) = hwL b := rfl
   have c3 : numN (hwL2 b) (hwE2 b) = hwM b := rfl
   have c4 : numN (hwL3 b) (hwE3 b) = hwD b := rfl
   have c5 : numN (hwL4 b) (hwE4 b) = hwN b := rfl
   have hO : prW b = if outB (hwN b) 0 256 = true then none else pwK (hwZ b) (hwL b) (hwM b) (hwD b) (rdW (hwN b).toNat (hwL5 b) (hwE5 b)) (rdWL (hwN b).toNat (hwL5 b) (hwE5 b)) (rdWE (hwN b).toNat (hwL5 b) (hwE5 b)) b := rfl
   generalize hwZ b = Z at *
   generalize hwL b = L at *
   generalize hwM b = M at *
   generalize hwD b = D at *
   generalize hwN b = N at *
   generalize hwL1 b = H1 at *
   generalize hwL2 b = H2 at *
   generalize hwL3 b = H3 at *
   generalize hwL4 b = H4 at *
   generalize hwL5 b = L0 at *
   generalize hwE1 b = I1 at *
   generalize hwE2 b = I2 at *
   generalize hwE3 b = I3 at *
   generalize hwE4 b = I4 at *
   generalize hwE5 b = E0 at *
   unfold Try.f23
   rw [hO]
   cases hN : outB N 0 256 with
   | true =>
     rw [if_pos rfl]
     simp only [go_sem,zab,Nat.reduceAdd,Nat.reduceSub,Nat.reduceMul,Int.reduceToNat,reduceCtorEq,↓reduceIte,Int.reducePow,Nat.reducePow,Int.reduceMod,Nat.reduceLeDiff,Int.reduceLE,Int.reduceNe,Int.reduceEq,Nat.reduceEqDiff,Nat.reduceLT,Nat.reduceBEq,ty,SgetW,newS,numS,outS,rd,hb,l1',l2',l3',l4',a1,a2,a3,a4,a5,a6,a7,a8,a9,a10,c1,c2,c3,c4,c5,hN,fillS]
     repeat (refine And.intro (by first | omega | decide) ?_)
     try (refine ⟨_,Weak.refl _,?_⟩)
     try simp only [go_sem,zab,Nat.reduceAdd,Nat.reduceSub,Nat.reduceMul,Int.reduceToNat,reduceCtorEq,↓reduceIte,Int.reducePow,Nat.reducePow,Int.reduceMod,Nat.reduceLeDiff,Int.reduceLE,Int.reduceNe,Int.reduceEq,Nat.reduceEqDiff,Nat.reduceLT,Nat.reduceBEq,ty,wtX]
   | false =>
     rw [if_neg (by simp)]
     have hN2 := zai hN
     obtain ⟨K,rfl⟩ := Int.eq_ofNat_of_zero_le hN2.1
     have hK : (K : Int).toNat = K := Int.toNat_natCast K
     rw [hK]
     simp only [go_sem,zab,Nat.reduceAdd,Nat.reduceSub,Nat.reduceMul,Int.reduceToNat,reduceCtorEq,↓reduceIte,Int.reducePow,Nat.reducePow,Int.reduceMod,Nat.reduceLeDiff,Int.reduceLE,Int.reduceNe,Int.reduceEq,Nat.reduceEqDiff,Nat.reduceLT,Nat.reduceBEq,ty,SgetW,newS,numS,outS,rd,hb,l1',l2',l3',l4',a1,a2,a3,a4,a5,a6,a7,a8,a9,a10,c1,c2,c3,c4,c5,hN,fillS]
     refine awp_loopW ⟨fun mm σ => ∃ (acc : List WS) (bs : List UInt8) (E : Int) (k : Nat),mm = k ∧ bs.length ≤ b.length ∧ acc.length + k = K ∧ rdW K L0 E0 = acc ++ rdW k bs E ∧ rdWL K L0 E0 = rdWL k bs E ∧ rdWE K L0 E0 = rdWE k bs E ∧
       σ = ⟨[.sb b fb,.junk,.rf 4 5 0 0,.w (.int .i64 0),.rf 5 2 0 0,.rf 6 5 0 0,.w (.int .i64 K),.junk,.junk,.junk,.junk,.junk,.junk,.junk,.junk,.junk,.junk,.junk,.junk,.junk,.junk,.junk,.junk,.junk,.junk,.junk,.junk,.junk,.junk,.junk,.w (.int .i64 K),.w (.int .i64 acc.length),.junk,.junk,.junk,.junk,.junk,.junk,.junk,.junk,.junk,.junk,.junk,.junk,.junk,.junk,.junk,.junk,.junk,.junk,.junk,.junk,.junk,.junk,.junk,.junk,.junk,.junk,.junk,.junk,.junk,.junk,.junk,.junk,.junk,.junk,.junk,.junk,.junk,.junk,.junk,.junk,.junk,.junk,.junk,.junk,.junk,.junk],[(4,.g 5 [.agg [.w (.int .i64 0),.w (.int .i64 0),.w (.int .i64 0),.w (.int .i64 0),.sg 6 [] true]]),(5,.g 2 [.agg [.sb bs false,.w (.int .i64 E)]]),(6,.g 5 [.agg [.w (.int .i64 Z),.w (.int .i64 L),.w (.int .i64 M),.w (.int .i64 D),.ms 7 6 0 acc.length]]),(7,.g 6 (acc.map wsA))],8⟩,?_,?_⟩
     · refine ⟨_,_,(weak_nilB 52 5 4 6 [.w (.int .i64 Z),.w (.int .i64 L),.w (.int .i64 M),.w (.int .i64 D),.sg 6 [] true] rfl (by simp) (by exact trivial) (by decide)).trans (zao [0,1,2,3,4,28,52,252] rfl rfl rfl ?_ ?_),[],L0,E0,K,rfl,l5,by simp,rfl,rfl,rfl,rfl⟩
       · simp only [ssT,zav,zaw,setSlot,gOf,AV.ren,renL,Blk.ren,Ax.look,Ax.put,reduceCtorEq,↓reduceIte,Nat.reduceEqDiff,Nat.reduceLT,Nat.reduceAdd,List.length_append,List.length_cons,List.length_nil,Option.some.injEq]; try simp
       · simp only [ssT,zav,zaw,setSlot,gOf,AV.ren,renL,Blk.ren,Ax.look,Ax.put,reduceCtorEq,↓reduceIte,Nat.reduceEqDiff,Nat.reduceLT,Nat.reduceAdd,List.length_append,List.length_cons,List.length_nil,Option.some.injEq]; try simp [renL]
     · rintro m' σ ⟨acc,bs,E,k,rfl,hbs,hn,hI,hJ,hH,rfl⟩
       have hbs1 : bs.length ≤ 1000000 := by omega
       have hal : (acc.map wsA).length = acc.length := by simp
       cases m' with
       | zero =>
         have d3 : decide ((acc.length : Int) < K) = false := decide_eq_false (by omega)
         have hI : rdW K L0 E0 = acc := by rw [hI]; simp [rdW]
         have hJ : rdWL K L0 E0 = bs := hJ
         have hH : rdWE K L0 E0 = E := hH
         rw [hI,hJ,hH]
         have hdle : decide (0 + acc.length ≤ (acc.map wsA).length) = true := decide_eq_true (by omega)
         have htk : (acc.map wsA).take acc.length = acc.map wsA := List.take_of_length_le (by omega)
         have hc : coe ty 29 (.sg 6 (acc.map wsA) false) = .sg 6 (acc.map wsA) false := by cases acc <;> rfl
         have hex : ∃ q : List WS,acc.map wsA = q.map wsA := ⟨acc,rfl⟩
         have hLm : acc.length ≤ 9223372036854775807 := by omega
         obtain ⟨C,hC⟩ : ∃ C,chW Z L M D acc = C := ⟨_,rfl⟩
         obtain ⟨W,hW⟩ : ∃ W,putW Z L M D acc = W := ⟨_,rfl⟩
         obtain ⟨G,hG⟩ : ∃ G,(if E = 0 ∧ 0 < bs.length then (4 : Int) else E) = G := ⟨_,rfl⟩
         have hcs : (wtX (pwK Z L M D acc bs E b) = .tup [.agg [.w (.int .i64 Z),.w (.int .i64 L),.w (.int .i64 M),.w (.int .i64 D),.sg 6 (acc.map wsA) false],.w (.int .i64 0)] ∧ decide (G = 0) = true ∧ decide (C = 0) = true ∧ decide (W = b) = true) ∨ (wtX (pwK Z L M D acc bs E b) = .tup [.agg [.w (.int .i64 0),.w (.int .i64 0),.w (.int .i64 0),.w (.int .i64 0),.sg 6 [] true],.w (.int .i64 4)] ∧ decide (G = 0) = false) ∨ (wtX (pwK Z L M D acc bs E b) = .tup [.agg [.w (.int .i64 0),.w (.int .i64 0),.w (.int .i64 0),.w (.int .i64 0),.sg 6 [] true],.w (.int .i64 4)] ∧ decide (G = 0) = true ∧ decide (C = 0) = false) ∨ (wtX (pwK Z L M D acc bs E b) = .tup [.agg [.w (.int .i64 0),.w (.int .i64 0),.w (.int .i64 0),.w (.int .i64 0),.sg 6 [] true],.w (.int .i64 4)] ∧ decide (G = 0) = true ∧ decide (C = 0) = true ∧ decide (W = b) = false) := by
           subst hG hC hW
           unfold pwK
           by_cases h1 : (if E = 0 ∧ 0 < bs.length then (4 : Int) else E) = 0
           · by_cases h2 : chW Z L M D acc = 0
             · by_cases h3 : putW Z L M D acc = b
               · rw [if_pos ⟨h1,h2,h3⟩]; exact .inl ⟨rfl,decide_eq_true h1,decide_eq_true h2,decide_eq_true h3⟩
               · rw [if_neg (fun h => h3 h.2.2)]; exact .inr (.inr (.inr ⟨rfl,decide_eq_true h1,decide_eq_true h2,decide_eq_false h3⟩))
             · rw [if_neg (fun h => h2 h.2.1)]; exact .inr (.inr (.inl ⟨rfl,decide_eq_true h1,decide_eq_false h2⟩))
           · rw [if_neg (fun h => h1 h.1)]; exact .inr (.inl ⟨rfl,decide_eq_false h1⟩)
         simp only [go_sem,zab,Nat.reduceAdd,Nat.reduceSub,Nat.reduceMul,Int.reduceToNat,reduceCtorEq,↓reduceIte,Int.reducePow,Nat.reducePow,Int.reduceMod,Nat.reduceLeDiff,Int.reduceLE,Int.reduceNe,Int.reduceEq,Nat.reduceEqDiff,Nat.reduceLT,Nat.reduceBEq,ty,SgetW,d3]
         refine ⟨_,weak_fgC 7 6 5 6 (acc.map wsA) _ rfl (zar acc) rfl (by simp [slot,AV.ids]) (by simp [Blk.idsB,Blk.closed,closedL,AV.closed,idsL,AV.ids]),?_⟩
         simp only [fgL,fgH,AV.fg,Blk.fg,Nat.reduceBEq,cond_true,cond_false,hdle,Bool.and_true,beq_self_eq_true,Bool.true_and,List.drop_zero,htk]
         rcases hcs with Y | Y | Y | Y
         all_goals
           rw [Y.1]
           simp only [go_sem,zab,Nat.reduceAdd,Nat.reduceSub,Nat.reduceMul,Int.reduceToNat,reduceCtorEq,↓reduceIte,Int.reducePow,Nat.reducePow,Int.reduceMod,Nat.reduceLeDiff,Int.reduceLE,Int.reduceNe,Int.reduceEq,Nat.reduceEqDiff,Nat.reduceLT,Nat.reduceBEq,ty,SgetW,putWS,doneS,beqS,rd,hal,hLm,hex,hc,zak,hG,hC,hW,Y.2,zar]
           try (refine ⟨_,Weak.refl _,?_⟩)
           try simp only [go_sem,zab,Nat.reduceAdd,Nat.reduceSub,Nat.reduceMul,Int.reduceToNat,reduceCtorEq,↓reduceIte,Int.reducePow,Nat.reducePow,Int.reduceMod,Nat.reduceLeDiff,Int.reduceLE,Int.reduceNe,Int.reduceEq,Nat.reduceEqDiff,Nat.reduceLT,Nat.reduceBEq,ty]
       | succ k =>
         have d3 : decide ((acc.length : Int) < K) = true := decide_eq_true (by omega)
         have hI : rdW K L0 E0 = acc ++ (wrV bs E :: rdW k (wrL6 bs E) (wrE6 bs E)) := hI
         have hJ : rdWL K L0 E0 = rdWL k (wrL6 bs E) (wrE6 bs E) := hJ
         have hH : rdWE K L0 E0 = rdWE k (wrL6 bs E) (wrE6 bs E) := hH
         have e1 : ((acc.length : Int) + 1 + 9223372036854775808) % 18446744073709551616 - 9223372036854775808 = ((acc.length + 1 : Nat) : Int) := by omega
         obtain ⟨g1,g2,g3,g4,g5,g6⟩ := wrL_length bs E
         have i1 : rtL 64 bs E = wrL1 bs E := rfl
         have i2 : rtE 64 bs E = wrE1 bs E := rfl
         have i3 : numL (wrL1 bs E) (wrE1 bs E) = wrL2 bs E := rfl
         have i4 : numE (wrL1 bs E) (wrE1 bs E) = wrE2 bs E := rfl
         have i5 : numL (wrL2 bs E) (wrE2 bs E) = wrL3 bs E := rfl
         have i6 : numE (wrL2 bs E) (wrE2 bs E) = wrE3 bs E := rfl
         have i7 : numL (wrL3 bs E) (wrE3 bs E) = wrL4 bs E := rfl
         have i8 : numE (wrL3 bs E) (wrE3 bs E) = wrE4 bs E := rfl
         have i9 : numL (wrL4 bs E) (wrE4 bs E) = wrL5 bs E := rfl
         have i10 : numE (wrL4 bs E) (wrE4 bs E) = wrE5 bs E := rfl
         have i11 : numL (wrL5 bs E) (wrE5 bs E) = wrL6 bs E := rfl
         have i12 : numE (wrL5 bs E) (wrE5 bs E) = wrE6 bs E := rfl
         have j1 : rtS' 64 bs E = (wrV bs E).k := rfl
         have j2 : numN (wrL1 bs E) (wrE1 bs E) = (wrV bs E).s := rfl
         have j3 : numN (wrL2 bs E) (wrE2 bs E) = (wrV bs E).c := rfl
         have j4 : numN (wrL3 bs E) (wrE3 bs E) = (wrV bs E).t := rfl
         have j5 : numN (wrL4 bs E) (wrE4 bs E) = (wrV bs E).a := rfl
         have j6 : numN (wrL5 bs E) (wrE5 bs E) = (wrV bs E).b := rfl
         have k1 : (wrL1 bs E).length ≤ 1000000 := by omega
         have k2 : (wrL2 bs E).length ≤ 1000000 := by omega
         have k3 : (wrL3 bs E).length ≤ 1000000 := by omega
         have k4 : (wrL4 bs E).length ≤ 1000000 := by omega
         have k5 : (wrL5 bs E).length ≤ 1000000 := by omega
         obtain ⟨r,hr⟩ : ∃ r,wrV bs E = r := ⟨_,rfl⟩
         rw [hr] at hI j1 j2 j3 j4 j5 j6
         obtain ⟨rs,rk,rc,rt,ra,rb⟩ := r
         simp only at j1 j2 j3 j4 j5 j6
         have hat : (acc.map wsA) ++ [.agg [.w (.int .i64 rs),.str rk,.w (.int .i64 rc),.w (.int .i64 rt),.w (.int .i64 ra),.w (.int .i64 rb)]] = (acc ++ [(⟨rs,rk,rc,rt,ra,rb⟩ : WS)]).map wsA := by rw [List.map_append]; rfl
         have hI : rdW K L0 E0 = (acc ++ [(⟨rs,rk,rc,rt,ra,rb⟩ : WS)]) ++ rdW k (wrL6 bs E) (wrE6 bs E) := by rw [hI]; simp
         have hal2 : (acc ++ [(⟨rs,rk,rc,rt,ra,rb⟩ : WS)]).length = acc.length + 1 := by simp
         generalize wrL1 bs E = A1 at *
         generalize wrE1 bs E = B1 at *
         generalize wrL2 bs E = A2 at *
         generalize wrE2 bs E = B2 at *
         generalize wrL3 bs E = A3 at *
         generalize wrE3 bs E = B3 at *
         generalize wrL4 bs E = A4 at *
         generalize wrE4 bs E = B4 at *
         generalize wrL5 bs E = A5 at *
         generalize wrE5 bs E = B5 at *
         generalize wrL6 bs E = A6 at *
         generalize wrE6 bs E = B6 at *
         simp only [go_sem,zab,Nat.reduceAdd,Nat.reduceSub,Nat.reduceMul,Int.reduceToNat,reduceCtorEq,↓reduceIte,Int.reducePow,Nat.reducePow,Int.reduceMod,Nat.reduceLeDiff,Int.reduceLE,Int.reduceNe,Int.reduceEq,Nat.reduceEqDiff,Nat.reduceLT,Nat.reduceBEq,ty,SgetW,rtextS',numS,rd,hbs1,hal,d3,e1,i1,i2,i3,i4,i5,i6,i7,i8,i9,i10,i11,i12,j1,j2,j3,j4,j5,j6,k1,k2,k3,k4,k5,hat,ids_ws,fillS,Int.toNat_natCast]
         repeat (refine And.intro (by first | omega | decide) ?_)
         refine ⟨k,_,by omega,zao [0,1,2,3,4,5,6,248] rfl rfl rfl ?_ ?_,acc ++ [(⟨rs,rk,rc,rt,ra,rb⟩ : WS)],A6,B6,k,rfl,by omega,by omega,hI,hJ,hH,rfl⟩
         · simp only [ssT,zav,zaw,setSlot,gOf,AV.ren,renL,Blk.ren,Ax.look,Ax.put,reduceCtorEq,↓reduceIte,Nat.reduceEqDiff,Nat.reduceLT,Nat.reduceAdd,List.length_append,List.length_cons,List.length_nil,Option.some.injEq,hal2]; try simp
         · simp only [ssT,zav,zaw,setSlot,gOf,AV.ren,renL,Blk.ren,Ax.look,Ax.put,reduceCtorEq,↓reduceIte,Nat.reduceEqDiff,Nat.reduceLT,Nat.reduceAdd,List.length_append,List.length_cons,List.length_nil,Option.some.injEq,hal2,zcp]; try simp
 · exact hp.elim
end
end Go.Proofs.Ytlpjdgkpapjldaa
namespace Go.Proofs.Ytlpjdgkpapjldaa
open Ax
section
set_option maxRecDepth 100000
theorem eqWS_dec (s : Int) (k : List UInt8) (c t a b s' : Int) (k' : List UInt8) (c' t' a' b' : Int) :
   (decide (s = s') && (decide (k = k') && (decide (c = c') && (decide (t = t') && (decide (a = a') && decide (b = b')))))) = decide ((⟨s,k,c,t,a,b⟩ : WS) = ⟨s',k',c',t',a',b'⟩) := by
 simp only [WS.mk.injEq,Bool.decide_and]
def sameR35S : zan
 | [.sg 6 xs f,.sg 6 ys g],[] => ⟨xs.length ≤ 9223372036854775807 ∧ ys.length ≤ 9223372036854775807 ∧ (∃ l : List WS,xs = l.map wsA) ∧ ∃ k : List WS,ys = k.map wsA,.w (.bool (decide (xs.map uws = ys.map uws))),[]⟩
 | _,_ => zbv
def same35S : zan
 | [.agg [.w (.int .i64 Z),.w (.int .i64 L),.w (.int .i64 M),.w (.int .i64 D),.sg 6 xs f],.agg [.w (.int .i64 Z'),.w (.int .i64 L'),.w (.int .i64 M'),.w (.int .i64 D'),.sg 6 ys g]],[] => ⟨xs.length ≤ 9223372036854775807 ∧ ys.length ≤ 9223372036854775807 ∧ (∃ l : List WS,xs = l.map wsA) ∧ ∃ k : List WS,ys = k.map wsA,.w (.bool (decide (Z = Z') && (decide (L = L') && (decide (M = M') && (decide (D = D') && decide (xs.map uws = ys.map uws)))))),[]⟩
 | _,_ => zbv
def zbg : Plan := fun id => match id with
 | 6 => some []
 | _ => none
theorem same_lenW {α : Type} {l k : List α} (h : l.length ≠ k.length) : ¬ l = k := fun e => h (by rw [e])
theorem same_dropW {l k : List WS} {i : Nat} (h1 : i < l.length) (h2 : i < k.length) : (l.drop i = k.drop i) = (l[i] = k[i] ∧ l.drop (i + 1) = k.drop (i + 1)) := by
 rw [List.drop_eq_getElem_cons h1,List.drop_eq_getElem_cons h2,List.cons.injEq]
set_option maxHeartbeats 4000000 in
theorem sameR35_sound : zbf Try.prog 17 sameR35S := by
 refine fn_soundF (S := noS) (T := ty) (pl := zbg) zbo ty_ok zcv Try.func17 (c := Try.f17.body.getD .skip) (by kernel_rfl) (by kernel_rfl) (fun xs pins hp _ => ?_)
 unfold sameR35S at hp ⊢
 split at hp
 · rename_i xs f ys g _
   obtain ⟨hL,hK,⟨l,rfl⟩,k,rfl⟩ := hp
   rw [List.length_map] at hL hK
   have hle : (l.map wsA).length = l.length := by simp
   have hke : (k.map wsA).length = k.length := by simp
   rw [zak,zak]
   refine ⟨by simp,?_⟩
   unfold Try.f17
   by_cases hn : l.length = k.length
   · have d1 : decide ((l.length : Int) = k.length) = true := decide_eq_true (by omega)
     simp only [go_sem,coe,zad,Nat.reduceAdd,Nat.reduceSub,Nat.reduceMul,Int.reduceToNat,reduceCtorEq,↓reduceIte,Int.reducePow,Nat.reducePow,Int.reduceMod,Nat.reduceLeDiff,Int.reduceLE,Int.reduceNe,Int.reduceEq,Nat.reduceEqDiff,Nat.reduceLT,Nat.reduceBEq,List.map_cons,List.map_nil,List.toList_toArray,Array.toList_append,Option.toArray_some,Option.toArray_none,Bool.and_self,ty,noS,zbg,hle,hke,d1]
     refine awpF_loopW ⟨fun m σ => ∃ i : Nat,m = l.length - i ∧ i ≤ l.length ∧ (l.drop i = k.drop i) = (l = k) ∧
       σ = ⟨[.sg 6 (l.map wsA) f,.sg 6 (k.map wsA) g,.junk,.junk,.junk,.w (.int .i64 i),.junk,.junk,.junk,.junk,.junk,.junk,.junk,.junk,.junk,.junk,.junk,.junk,.junk,.junk,.junk,.junk,.junk,.junk,.junk,.junk],[],4⟩,?_,?_⟩
     · refine ⟨_,_,zao [0,1,2,3] rfl rfl rfl ?_ ?_,0,rfl,by omega,rfl,rfl⟩
       · simp only [ssT,zav,zaw,setSlot,gOf,AV.ren,renL,Blk.ren,Ax.look,Ax.put,reduceCtorEq,↓reduceIte,Nat.reduceEqDiff,Nat.reduceLT,Nat.reduceAdd,List.length_append,List.length_cons,List.length_nil,Option.some.injEq]; try simp
       · simp only [ssT,zav,zaw,setSlot,gOf,AV.ren,renL,Blk.ren,Ax.look,Ax.put,reduceCtorEq,↓reduceIte,Nat.reduceEqDiff,Nat.reduceLT,Nat.reduceAdd,List.length_append,List.length_cons,List.length_nil,Option.some.injEq]
     · rintro m σ ⟨i,rfl,hi,hs,rfl⟩
       by_cases hil : i < l.length
       · have d2 : decide ((i : Int) < l.length) = true := decide_eq_true (by omega)
         have e1 : ((i : Int) + 1 + 9223372036854775808) % 18446744073709551616 - 9223372036854775808 = ((i + 1 : Nat) : Int) := by omega
         have hs1 := zch l i hil
         have hs2 := zch k i (by omega)
         have hd := same_dropW hil (show i < k.length by omega)
         rw [hs] at hd
         obtain ⟨a,ha⟩ : ∃ x,l[i] = x := ⟨_,rfl⟩
         obtain ⟨b,hb⟩ : ∃ x,k[i]'(by omega) = x := ⟨_,rfl⟩
         rw [ha] at hs1 hd
         rw [hb] at hs2 hd
         obtain ⟨s1,k1,c1,t1,a1,b1⟩ := a
         obtain ⟨s2,k2,c2,t2,a2,b2⟩ := b
         have hs1 : slot (l.map wsA) i = .agg [.w (.int .i64 s1),.str k1,.w (.int .i64 c1),.w (.int .i64 t1),.w (.int .i64 a1),.w (.int .i64 b1)] := hs1
         have hs2 : slot (k.map wsA) i = .agg [.w (.int .i64 s2),.str k2,.w (.int .i64 c2),.w (.int .i64 t2),.w (.int .i64 a2),.w (.int .i64 b2)] := hs2
         by_cases he : (⟨s1,k1,c1,t1,a1,b1⟩ : WS) = ⟨s2,k2,c2,t2,a2,b2⟩
         · have d3 := decide_eq_true he
           simp only [he,true_and] at hd
           simp only [go_sem,coe,zad,Nat.reduceAdd,Nat.reduceSub,Nat.reduceMul,Int.reduceToNat,reduceCtorEq,↓reduceIte,Int.reducePow,Nat.reducePow,Int.reduceMod,Nat.reduceLeDiff,Int.reduceLE,Int.reduceNe,Int.reduceEq,Nat.reduceEqDiff,Nat.reduceLT,Nat.reduceBEq,List.map_cons,List.map_nil,List.toList_toArray,Array.toList_append,Option.toArray_some,Option.toArray_none,Bool.and_self,ty,noS,zbg,hle,hke,d2,e1,hs1,hs2,eqWS_dec,d3,Int.toNat_natCast]
           repeat (refine And.intro (by omega) ?_)
           refine ⟨l.length - (i + 1),_,by omega,zao [0,1,2,3] rfl rfl rfl ?_ ?_,i + 1,rfl,by omega,hd.symm,rfl⟩
           · simp only [ssT,zav,zaw,setSlot,gOf,AV.ren,renL,Blk.ren,Ax.look,Ax.put,reduceCtorEq,↓reduceIte,Nat.reduceEqDiff,Nat.reduceLT,Nat.reduceAdd,List.length_append,List.length_cons,List.length_nil,Option.some.injEq]
           · simp only [ssT,zav,zaw,setSlot,gOf,AV.ren,renL,Blk.ren,Ax.look,Ax.put,reduceCtorEq,↓reduceIte,Nat.reduceEqDiff,Nat.reduceLT,Nat.reduceAdd,List.length_append,List.length_cons,List.length_nil,Option.some.injEq]
         · have d3 := decide_eq_false he
           have hno : decide (l = k) = false := decide_eq_false (by rw [hd]; exact fun h => he h.1)
           rw [hno]
           simp only [go_sem,coe,zad,Nat.reduceAdd,Nat.reduceSub,Nat.reduceMul,Int.reduceToNat,reduceCtorEq,↓reduceIte,Int.reducePow,Nat.reducePow,Int.reduceMod,Nat.reduceLeDiff,Int.reduceLE,Int.reduceNe,Int.reduceEq,Nat.reduceEqDiff,Nat.reduceLT,Nat.reduceBEq,List.map_cons,List.map_nil,List.toList_toArray,Array.toList_append,Option.toArray_some,Option.toArray_none,Bool.and_self,ty,noS,zbg,hle,hke,d2,e1,hs1,hs2,eqWS_dec,d3,Int.toNat_natCast]
           repeat (refine And.intro (by omega) ?_)
           refine ⟨_,Weak.refl _,?_⟩
           simp only [go_sem,coe,zad,Nat.reduceAdd,Nat.reduceSub,Nat.reduceMul,Int.reduceToNat,reduceCtorEq,↓reduceIte,Int.reducePow,Nat.reducePow,Int.reduceMod,Nat.reduceLeDiff,Int.reduceLE,Int.reduceNe,Int.reduceEq,Nat.reduceEqDiff,Nat.reduceLT,Nat.reduceBEq,List.map_cons,List.map_nil,List.toList_toArray,Array.toList_append,Option.toArray_some,Option.toArray_none,Bool.and_self,ty,noS,zbg]
           exact zbe 4 rfl
       · have d2 : decide ((i : Int) < l.length) = false := decide_eq_false (by omega)
         have : decide (l = k) = true := by
           refine decide_eq_true ?_
           rw [← hs,List.drop_of_length_le (by omega),List.drop_of_length_le (by omega)]
         rw [this]
         simp only [go_sem,coe,zad,Nat.reduceAdd,Nat.reduceSub,Nat.reduceMul,Int.reduceToNat,reduceCtorEq,↓reduceIte,Int.reducePow,Nat.reducePow,Int.reduceMod,Nat.reduceLeDiff,Int.reduceLE,Int.reduceNe,Int.reduceEq,Nat.reduceEqDiff,Nat.reduceLT,Nat.reduceBEq,List.map_cons,List.map_nil,List.toList_toArray,Array.toList_append,Option.toArray_some,Option.toArray_none,Bool.and_self,ty,noS,zbg,hle,hke,d2]
         refine ⟨_,Weak.refl _,?_⟩
         simp only [go_sem,coe,zad,Nat.reduceAdd,Nat.reduceSub,Nat.reduceMul,Int.reduceToNat,reduceCtorEq,↓reduceIte,Int.reducePow,Nat.reducePow,Int.reduceMod,Nat.reduceLeDiff,Int.reduceLE,Int.reduceNe,Int.reduceEq,Nat.reduceEqDiff,Nat.reduceLT,Nat.reduceBEq,List.map_cons,List.map_nil,List.toList_toArray,Array.toList_append,Option.toArray_some,Option.toArray_none,Bool.and_self,ty,noS,zbg]
         exact zbe 4 rfl
   · have d1 : decide ((l.length : Int) = k.length) = false := decide_eq_false (by omega)
     rw [decide_eq_false (same_lenW hn)]
     simp only [go_sem,coe,zad,Nat.reduceAdd,Nat.reduceSub,Nat.reduceMul,Int.reduceToNat,reduceCtorEq,↓reduceIte,Int.reducePow,Nat.reducePow,Int.reduceMod,Nat.reduceLeDiff,Int.reduceLE,Int.reduceNe,Int.reduceEq,Nat.reduceEqDiff,Nat.reduceLT,Nat.reduceBEq,List.map_cons,List.map_nil,List.toList_toArray,Array.toList_append,Option.toArray_some,Option.toArray_none,Bool.and_self,ty,noS,zbg,hle,hke,d1]
     exact zbe 4 rfl
 · exact hp.elim
set_option maxHeartbeats 4000000 in
theorem equal35_sound : zbf Try.prog 48 sameR35S := by
 refine fn_soundF (S := noS) (T := ty) (pl := zbg) zbo ty_ok zcv Try.func48 (c := Try.f48.body.getD .skip) (by kernel_rfl) (by kernel_rfl) (fun xs pins hp _ => ?_)
 unfold sameR35S at hp ⊢
 split at hp
 · rename_i xs f ys g _
   obtain ⟨hL,hK,⟨l,rfl⟩,k,rfl⟩ := hp
   rw [List.length_map] at hL hK
   have hle : (l.map wsA).length = l.length := by simp
   have hke : (k.map wsA).length = k.length := by simp
   rw [zak,zak]
   refine ⟨by simp,?_⟩
   unfold Try.f48
   by_cases hn : l.length = k.length
   · have d1 : decide ((l.length : Int) = k.length) = true := decide_eq_true (by omega)
     simp only [go_sem,coe,zad,Nat.reduceAdd,Nat.reduceSub,Nat.reduceMul,Int.reduceToNat,reduceCtorEq,↓reduceIte,Int.reducePow,Nat.reducePow,Int.reduceMod,Nat.reduceLeDiff,Int.reduceLE,Int.reduceNe,Int.reduceEq,Nat.reduceEqDiff,Nat.reduceLT,Nat.reduceBEq,List.map_cons,List.map_nil,List.toList_toArray,Array.toList_append,Option.toArray_some,Option.toArray_none,Bool.and_self,ty,noS,zbg,hle,hke,d1]
     refine awpF_loopW ⟨fun m σ => ∃ i : Nat,m = l.length - i ∧ i ≤ l.length ∧ (l.drop i = k.drop i) = (l = k) ∧
       σ = ⟨[.sg 6 (l.map wsA) f,.sg 6 (k.map wsA) g,.junk,.junk,.junk,.junk,.junk,.junk,.junk,.junk,.junk,.junk,.w (.int .i64 l.length),.w (.int .i64 i),.junk,.junk,.junk,.junk,.junk,.junk,.junk,.junk,.junk,.junk,.junk,.junk],[],4⟩,?_,?_⟩
     · refine ⟨_,_,zao [0,1,2,3] rfl rfl rfl ?_ ?_,0,rfl,by omega,rfl,rfl⟩
       · simp only [ssT,zav,zaw,setSlot,gOf,AV.ren,renL,Blk.ren,Ax.look,Ax.put,reduceCtorEq,↓reduceIte,Nat.reduceEqDiff,Nat.reduceLT,Nat.reduceAdd,List.length_append,List.length_cons,List.length_nil,Option.some.injEq]; try simp
       · simp only [ssT,zav,zaw,setSlot,gOf,AV.ren,renL,Blk.ren,Ax.look,Ax.put,reduceCtorEq,↓reduceIte,Nat.reduceEqDiff,Nat.reduceLT,Nat.reduceAdd,List.length_append,List.length_cons,List.length_nil,Option.some.injEq]
     · rintro m σ ⟨i,rfl,hi,hs,rfl⟩
       by_cases hil : i < l.length
       · have d2 : decide ((i : Int) < l.length) = true := decide_eq_true (by omega)
         have e1 : ((i : Int) + 1 + 9223372036854775808) % 18446744073709551616 - 9223372036854775808 = ((i + 1 : Nat) : Int) := by omega
         have hs1 := zch l i hil
         have hs2 := zch k i (by omega)
         have hd := same_dropW hil (show i < k.length by omega)
         rw [hs] at hd
         obtain ⟨a,ha⟩ : ∃ x,l[i] = x := ⟨_,rfl⟩
         obtain ⟨b,hb⟩ : ∃ x,k[i]'(by omega) = x := ⟨_,rfl⟩
         rw [ha] at hs1 hd
         rw [hb] at hs2 hd
         obtain ⟨s1,k1,c1,t1,a1,b1⟩ := a
         obtain ⟨s2,k2,c2,t2,a2,b2⟩ := b
         have hs1 : slot (l.map wsA) i = .agg [.w (.int .i64 s1),.str k1,.w (.int .i64 c1),.w (.int .i64 t1),.w (.int .i64 a1),.w (.int .i64 b1)] := hs1
         have hs2 : slot (k.map wsA) i = .agg [.w (.int .i64 s2),.str k2,.w (.int .i64 c2),.w (.int .i64 t2),.w (.int .i64 a2),.w (.int .i64 b2)] := hs2
         by_cases he : (⟨s1,k1,c1,t1,a1,b1⟩ : WS) = ⟨s2,k2,c2,t2,a2,b2⟩
         · have d3 := decide_eq_true he
           simp only [he,true_and] at hd
           simp only [go_sem,coe,zad,Nat.reduceAdd,Nat.reduceSub,Nat.reduceMul,Int.reduceToNat,reduceCtorEq,↓reduceIte,Int.reducePow,Nat.reducePow,Int.reduceMod,Nat.reduceLeDiff,Int.reduceLE,Int.reduceNe,Int.reduceEq,Nat.reduceEqDiff,Nat.reduceLT,Nat.reduceBEq,List.map_cons,List.map_nil,List.toList_toArray,Array.toList_append,Option.toArray_some,Option.toArray_none,Bool.and_self,ty,noS,zbg,hle,hke,d2,e1,hs1,hs2,eqWS_dec,d3,Int.toNat_natCast]
           repeat (refine And.intro (by omega) ?_)
           refine ⟨l.length - (i + 1),_,by omega,zao [0,1,2,3] rfl rfl rfl ?_ ?_,i + 1,rfl,by omega,hd.symm,rfl⟩
           · simp only [ssT,zav,zaw,setSlot,gOf,AV.ren,renL,Blk.ren,Ax.look,Ax.put,reduceCtorEq,↓reduceIte,Nat.reduceEqDiff,Nat.reduceLT,Nat.reduceAdd,List.length_append,List.length_cons,List.length_nil,Option.some.injEq]
           · simp only [ssT,zav,zaw,setSlot,gOf,AV.ren,renL,Blk.ren,Ax.look,Ax.put,reduceCtorEq,↓reduceIte,Nat.reduceEqDiff,Nat.reduceLT,Nat.reduceAdd,List.length_append,List.length_cons,List.length_nil,Option.some.injEq]
         · have d3 := decide_eq_false he
           have hno : decide (l = k) = false := decide_eq_false (by rw [hd]; exact fun h => he h.1)
           rw [hno]
           simp only [go_sem,coe,zad,Nat.reduceAdd,Nat.reduceSub,Nat.reduceMul,Int.reduceToNat,reduceCtorEq,↓reduceIte,Int.reducePow,Nat.reducePow,Int.reduceMod,Nat.reduceLeDiff,Int.reduceLE,Int.reduceNe,Int.reduceEq,Nat.reduceEqDiff,Nat.reduceLT,Nat.reduceBEq,List.map_cons,List.map_nil,List.toList_toArray,Array.toList_append,Option.toArray_some,Option.toArray_none,Bool.and_self,ty,noS,zbg,hle,hke,d2,e1,hs1,hs2,eqWS_dec,d3,Int.toNat_natCast]
           repeat (refine And.intro (by omega) ?_)
           refine ⟨_,Weak.refl _,?_⟩
           simp only [go_sem,coe,zad,Nat.reduceAdd,Nat.reduceSub,Nat.reduceMul,Int.reduceToNat,reduceCtorEq,↓reduceIte,Int.reducePow,Nat.reducePow,Int.reduceMod,Nat.reduceLeDiff,Int.reduceLE,Int.reduceNe,Int.reduceEq,Nat.reduceEqDiff,Nat.reduceLT,Nat.reduceBEq,List.map_cons,List.map_nil,List.toList_toArray,Array.toList_append,Option.toArray_some,Option.toArray_none,Bool.and_self,ty,noS,zbg]
           exact zbe 4 rfl
       · have d2 : decide ((i : Int) < l.length) = false := decide_eq_false (by omega)
         have : decide (l = k) = true := by
           refine decide_eq_true ?_
           rw [← hs,List.drop_of_length_le (by omega),List.drop_of_length_le (by omega)]
         rw [this]
         simp only [go_sem,coe,zad,Nat.reduceAdd,Nat.reduceSub,Nat.reduceMul,Int.reduceToNat,reduceCtorEq,↓reduceIte,Int.reducePow,Nat.reducePow,Int.reduceMod,Nat.reduceLeDiff,Int.reduceLE,Int.reduceNe,Int.reduceEq,Nat.reduceEqDiff,Nat.reduceLT,Nat.reduceBEq,List.map_cons,List.map_nil,List.toList_toArray,Array.toList_append,Option.toArray_some,Option.toArray_none,Bool.and_self,ty,noS,zbg,hle,hke,d2]
         refine ⟨_,Weak.refl _,?_⟩
         simp only [go_sem,coe,zad,Nat.reduceAdd,Nat.reduceSub,Nat.reduceMul,Int.reduceToNat,reduceCtorEq,↓reduceIte,Int.reducePow,Nat.reducePow,Int.reduceMod,Nat.reduceLeDiff,Int.reduceLE,Int.reduceNe,Int.reduceEq,Nat.reduceEqDiff,Nat.reduceLT,Nat.reduceBEq,List.map_cons,List.map_nil,List.toList_toArray,Array.toList_append,Option.toArray_some,Option.toArray_none,Bool.and_self,ty,noS,zbg]
         exact zbe 4 rfl
   · have d1 : decide ((l.length : Int) = k.length) = false := decide_eq_false (by omega)
     rw [decide_eq_false (same_lenW hn)]
     simp only [go_sem,coe,zad,Nat.reduceAdd,Nat.reduceSub,Nat.reduceMul,Int.reduceToNat,reduceCtorEq,↓reduceIte,Int.reducePow,Nat.reducePow,Int.reduceMod,Nat.reduceLeDiff,Int.reduceLE,Int.reduceNe,Int.reduceEq,Nat.reduceEqDiff,Nat.reduceLT,Nat.reduceBEq,List.map_cons,List.map_nil,List.toList_toArray,Array.toList_append,Option.toArray_some,Option.toArray_none,Bool.and_self,ty,noS,zbg,hle,hke,d1]
     exact zbe 4 rfl
 · exact hp.elim
def Ssame35 (f : FuncId) : Option zan :=
 match f with
 | 17 => some sameR35S
 | 48 => some sameR35S
 | _ => none
theorem Ssame35_ok : Fns Try.prog Ssame35 := by
 intro f s h
 unfold Ssame35 at h
 split at h
 · injection h with h; subst h; exact ⟨⟨_,Try.func17,by kernel_rfl,by kernel_rfl⟩,sameR35_sound⟩
 · injection h with h; subst h; exact ⟨⟨_,Try.func48,by kernel_rfl,by kernel_rfl⟩,equal35_sound⟩
 · cases h
set_option maxHeartbeats 8000000 in
theorem wsame35_sound : zbf Try.prog 24 same35S := by
 refine zfp (S := Ssame35) (T := ty) zbo ty_ok Ssame35_ok Try.func24 (c := Try.f24.body.getD .skip) (by kernel_rfl) (by kernel_rfl) (fun xs pins hp _ => ?_)
 unfold same35S at hp ⊢
 split at hp
 · rename_i Z L M D xs f Z' L' M' D' ys g _
   obtain ⟨hL,hK,⟨l,rfl⟩,k,rfl⟩ := hp
   have hx : ∃ q : List WS,l.map wsA = q.map wsA := ⟨l,rfl⟩
   have hy : ∃ q : List WS,k.map wsA = q.map wsA := ⟨k,rfl⟩
   rw [zak,zak]
   refine ⟨by simp,?_⟩
   obtain ⟨Q,hQ⟩ : ∃ Q,decide (l = k) = Q := ⟨_,rfl⟩
   have hc : coe ty 29 (.sg 6 (l.map wsA) f) = .sg 6 (l.map wsA) f := by cases l <;> rfl
   have hd : coe ty 29 (.sg 6 (k.map wsA) g) = .sg 6 (k.map wsA) g := by cases k <;> rfl
   unfold Try.f24
   cases h1 : decide (Z = Z') <;> cases h2 : decide (L = L') <;> cases h3 : decide (M = M') <;> cases h4 : decide (D = D')
   all_goals
     simp only [go_sem,zab,Nat.reduceAdd,Nat.reduceSub,Nat.reduceMul,Int.reduceToNat,reduceCtorEq,↓reduceIte,Int.reducePow,Nat.reducePow,Int.reduceMod,Nat.reduceLeDiff,Int.reduceLE,Int.reduceNe,Int.reduceEq,Nat.reduceEqDiff,Nat.reduceLT,Nat.reduceBEq,ty,Ssame35,sameR35S,hL,hK,hx,hy,zak,h1,h2,h3,h4,hQ,hc,hd,Bool.true_and,Bool.false_and]
     exact zbe 4 rfl
 · exact hp.elim
end
end Go.Proofs.Ytlpjdgkpapjldaa
namespace Go.Proofs.Ytlpjdgkpapjldaa
namespace Ax
abbrev Us := List (Nat × Option Blk)
def upd : Us → (Nat → Option Blk) → Nat → Option Blk
 | [],lk,id => lk id
 | (k,b) :: r,lk,id => if k = id then b else upd r lk id
def Told (o : Out) (lk : Nat → Option Blk) (r : Option (AV × Us)) : Prop := ∀ x us,r = some (x,us) → o.p ∧ o.x = x ∧ ∀ id,look o.H id = upd us lk id
section
variable {H : Heap} {lk : Nat → Option Blk} (hl : ∀ id,look H id = lk id)
def csub (ti : TyI) (ls : List AV) (f : Nat) : Option AV :=
 bif ti.d.aggr then (if f + ti.size ≤ ls.length then some (.agg ((ls.drop f).take ti.size)) else none) else (if f < ls.length then some (slot ls f) else none)
theorem csub_ok {ti : TyI} {ls : List AV} {f : Nat} {x : AV} (h : csub ti ls f = some x) : (subv ti ls f H).p ∧ (subv ti ls f H).x = x ∧ (subv ti ls f H).H = H := by
 unfold csub at h
 unfold subv
 cases ha : ti.d.aggr <;> simp only [ha,cond_true,cond_false] at h ⊢ <;> split at h <;> simp_all
def cLoad (T : zac) (t : TypeId) (x : AV) (lk : Nat → Option Blk) : Option (AV × Us) :=
 match T t with
 | none => none
 | some ti => match x with
   | .cp ls => (csub ti ls 0).map fun y => (y,[])
   | .rf id s i f => match lk id with
     | some blk => if s = blk.size ∧ i < blk.len then (csub ti (zah blk i) f).map fun y => (y,[]) else none
     | none => none
   | _ => none
include hl in
theorem cLoad_ok {T : zac} {t : TypeId} {x : AV} : Told (aLoad T t x H) lk (cLoad T t x lk) := by
 intro y us h
 unfold cLoad at h
 unfold aLoad
 split at h
 · cases h
 · rename_i ti ht
   simp only [ht]
   split at h
   · obtain ⟨z,hz,he⟩ := Option.map_eq_some_iff.1 h
     injection he with h1 h2; subst h1 h2
     obtain ⟨a,b,c⟩ := csub_ok (H := H) hz
     exact ⟨a,b,fun id => by rw [c]; exact hl id⟩
   · rename_i id s i f
     simp only [hl id]
     split at h
     · rename_i blk hb
       simp only [hb]
       split at h
       · rename_i hc
         obtain ⟨z,hz,he⟩ := Option.map_eq_some_iff.1 h
         injection he with h1 h2; subst h1 h2
         obtain ⟨a,b,c⟩ := csub_ok (H := H) hz
         exact ⟨⟨hc,a⟩,b,fun id => by simp only [Out.and]; rw [c]; exact hl id⟩
       · cases h
     · cases h
   · cases h
def csetB (blk : Blk) (i f : Nat) (x : AV) : Option Blk :=
 match blk with
 | .b bs => match x with
   | .w (.int .u8 m) => if f = 0 ∧ 0 ≤ m ∧ m < 256 then some (.b (bs.set i (UInt8.ofNat m.toNat))) else none
   | _ => none
 | .i ns => match x with
   | .w (.int .i64 m) => if f = 0 then some (.i (ns.set i m)) else none
   | _ => none
 | .g s xs => match slot xs i with
   | .agg ls => if f + x.leaves.length ≤ ls.length then some (.g s (setSlot xs i (.agg (splice ls f x.leaves)))) else none
   | _ => if f = 0 ∧ x.leaf = true then some (.g s (setSlot xs i x)) else none
 | .o _ => none
theorem csetB_ok {blk : Blk} {i f : Nat} {x : AV} {b : Blk} (h : csetB blk i f x = some b) : (setB blk i f x).1 ∧ (setB blk i f x).2 = b := by
 cases blk with
 | b bs =>
   simp only [csetB] at h
   simp only [setB]
   split at h
   · split at h <;> simp_all
   · cases h
 | i ns =>
   simp only [csetB] at h
   simp only [setB]
   split at h
   · split at h <;> simp_all
   · cases h
 | g s xs =>
   simp only [csetB] at h
   simp only [setB]
   cases hs : slot xs i <;> simp only [hs] at h ⊢ <;> split at h <;> simp_all
 | o x => cases h
def cStore (T : zac) (t : TypeId) (p x : AV) (lk : Nat → Option Blk) : Option (AV × Us) :=
 match T t,p with
 | some ti,.rf id s i f => match lk id with
   | some blk => if s = blk.size ∧ i < blk.len ∧ x.leaves.length = ti.size ∧ x.okv = true then (csetB blk i f x).map fun b => (.junk,[(id,some b)]) else none
   | none => none
 | _,_ => none
theorem zam (hl : ∀ id,look H id = lk id) {nm : Nat} {b : Blk} (id : Nat) : look (put H nm b) id = upd [(nm,some b)] lk id := by
 rw [zaq]; simp only [upd]; split <;> simp [hl]
include hl in
theorem cStore_ok {T : zac} {t : TypeId} {p x : AV} : Told (aStore T t p x H) lk (cStore T t p x lk) := by
 intro y us h
 unfold cStore at h
 unfold aStore
 split at h
 · rename_i ti id s i f ht
   simp only [ht,hl id]
   split at h
   · rename_i blk hb
     simp only [hb]
     split at h
     · rename_i hc
       obtain ⟨z,hz,he⟩ := Option.map_eq_some_iff.1 h
       injection he with h1 h2; subst h1 h2
       obtain ⟨a,b⟩ := csetB_ok hz
       refine ⟨⟨hc.1,hc.2.1,hc.2.2.1,hc.2.2.2,a⟩,rfl,fun k => ?_⟩
       rw [b]; exact zam hl k
     · cases h
   · cases h
 · cases h
def cPick (c a b : AV) : Option (AV × Us) :=
 match c with
 | .w (.bool t) => match a,b with
   | .w (.bool x),.w (.bool y) => some (.w (.bool (bif t then x else y)),[])
   | _,.w (.bool y) => if t = false then some (.w (.bool y),[]) else none
   | .w (.bool x),_ => if t = true then some (.w (.bool x),[]) else none
   | _,_ => none
 | _ => none
include hl in
theorem cPick_ok {c a b : AV} : Told (aPick c a b H) lk (cPick c a b) := by
 intro y us h
 have key : ∀ t,cPick (.w (.bool t)) a b = some (y,us) → (aPick (.w (.bool t)) a b H).p ∧ (aPick (.w (.bool t)) a b H).x = y ∧ ∀ id,look (aPick (.w (.bool t)) a b H).H id = upd us lk id := by
   intro t h
   rcases hb : b with v | _ | _ | _ | _ | _ | _ | _ | _ | _ | _ | _ <;> subst hb <;> (try rcases hv : v with x | _ | _ | _ | _ | _ | _ | _ | _ | _ | _ | _ | _ | _ | _) <;> (try subst hv) <;>
     rcases ha : a with u | _ | _ | _ | _ | _ | _ | _ | _ | _ | _ | _ <;> subst ha <;> (try rcases hu : u with z | _ | _ | _ | _ | _ | _ | _ | _ | _ | _ | _ | _ | _ | _) <;> (try subst hu) <;>
     simp only [cPick] at h <;> first | (cases h; done) | (split at h <;> first | (cases h; done) | (injection h with h; injection h with h1 h2; subst h1 h2; exact ⟨by assumption,rfl,hl⟩)) | (injection h with h; injection h with h1 h2; subst h1 h2; exact ⟨trivial,rfl,hl⟩)
 unfold cPick at h
 split at h
 · exact key _ h
 · cases h
def cAlloc (T : zac) (nm : Nat) (e : TypeId) : Option (AV × Us) :=
 match T e with
 | some ti => if 0 < ti.size then some (.rf nm ti.size 0 0,[(nm,some (.g ti.size [asv ti ti.zero]))]) else none
 | none => none
include hl in
theorem cAlloc_ok {T : zac} {nm : Nat} {e : TypeId} : Told (aAlloc T nm e H) lk (cAlloc T nm e) := by
 intro y us h
 unfold cAlloc at h
 unfold aAlloc
 split at h
 · rename_i ti ht
   simp only [ht]
   split at h
   · injection h with h; injection h with h1 h2; subst h1 h2
     exact ⟨by assumption,rfl,fun id => zam hl id⟩
   · cases h
 · cases h
def cBox (T : zac) (nm : Nat) (e : TypeId) (x : AV) : Option (AV × Us) :=
 match T e with
 | some ti => if 0 < ti.size ∧ x.leaves.length = ti.size ∧ x.okv = true then some (.rf nm ti.size 0 0,[(nm,some (.g ti.size [x]))]) else none
 | none => none
include hl in
theorem cBox_ok {T : zac} {nm : Nat} {e : TypeId} {x : AV} : Told (aBox T nm e x H) lk (cBox T nm e x) := by
 intro y us h
 unfold cBox at h
 unfold aBox
 split at h
 · rename_i ti ht
   simp only [ht]
   split at h
   · injection h with h; injection h with h1 h2; subst h1 h2
     exact ⟨by assumption,rfl,fun id => zam hl id⟩
   · cases h
 · cases h
def cfillS (T : zac) (fs : List (Nat × TypeId)) : List (Nat × AV) → List AV → Option (List AV)
 | [],ls => some ls
 | (i,x) :: r,ls => match fs[i]? with
   | some (off,ty) => match T ty with
     | some ti => if x.leaves.length = ti.size ∧ x.okv = true ∧ off + ti.size ≤ ls.length then cfillS T fs r (splice ls off x.leaves) else none
     | none => none
   | none => none
theorem cfillS_ok {T : zac} {fs : List (Nat × TypeId)} : ∀ {ps : List (Nat × AV)} {ls zs : List AV},cfillS T fs ps ls = some zs → (fillS T fs ps ls).1 ∧ (fillS T fs ps ls).2 = zs
 | [],ls,zs,h => by injection h with h; exact ⟨trivial,h⟩
 | (i,x) :: r,ls,zs,h => by
   unfold cfillS at h
   unfold fillS
   split at h
   · rename_i off ty hi
     simp only [hi]
     split at h
     · rename_i ti ht
       simp only [ht]
       split at h
       · rename_i hc
         obtain ⟨h1,h2⟩ := cfillS_ok h
         exact ⟨⟨hc.1,hc.2.1,hc.2.2,h1⟩,h2⟩
       · cases h
     · cases h
   · cases h
def cfillA (s : Nat) : List (Nat × AV) → List AV → Option (List AV)
 | [],ls => some ls
 | (i,x) :: r,ls => if x.leaves.length = s ∧ x.okv = true ∧ i * s + s ≤ ls.length then cfillA s r (splice ls (i * s) x.leaves) else none
theorem cfillA_ok {s : Nat} : ∀ {ps : List (Nat × AV)} {ls zs : List AV},cfillA s ps ls = some zs → (fillA s ps ls).1 ∧ (fillA s ps ls).2 = zs
 | [],ls,zs,h => by injection h with h; exact ⟨trivial,h⟩
 | (i,x) :: r,ls,zs,h => by
   unfold cfillA at h
   unfold fillA
   split at h
   · rename_i hc
     obtain ⟨h1,h2⟩ := cfillA_ok h
     exact ⟨⟨hc.1,hc.2.1,hc.2.2,h1⟩,h2⟩
   · cases h
def callTy (T : zac) : List (Nat × TypeId) → Bool
 | [] => true
 | p :: r => match T p.2 with
   | some _ => callTy T r
   | none => false
theorem callTy_ok {T : zac} : ∀ {l : List (Nat × TypeId)},callTy T l = true → allTy T l
 | [],_ => trivial
 | p :: r,h => by
   unfold callTy at h
   unfold allTy
   split at h
   · rename_i x hx; simp only [hx]; exact callTy_ok h
   · cases h
def cBuild (T : zac) (t : TypeId) (ps : List (Nat × AV)) : Option (AV × Us) :=
 match T t with
 | some ti => match ti.d with
   | .struct fs => bif callTy T fs then (cfillS T fs ps ti.zero).map fun l => (.agg l,[]) else none
   | .arr _ e => match T e with
     | some te => (cfillA te.size ps ti.zero).map fun l => (.agg l,[])
     | none => none
   | _ => none
 | none => none
include hl in
theorem cBuild_ok {T : zac} {t : TypeId} {ps : List (Nat × AV)} : Told (aBuild T t ps H) lk (cBuild T t ps) := by
 intro y us h
 unfold cBuild at h
 unfold aBuild
 split at h
 · rename_i ti ht
   simp only [ht]
   split at h
   · rename_i fs hd
     simp only [hd]
     cases hc : callTy T fs with
     | false => rw [hc] at h; cases h
     | true =>
       rw [hc] at h
       obtain ⟨z,hz,he⟩ := Option.map_eq_some_iff.1 h
       injection he with h1 h2; subst h1 h2
       obtain ⟨a,b⟩ := cfillS_ok hz
       exact ⟨⟨callTy_ok hc,a⟩,by rw [b],hl⟩
   · rename_i n e hd
     simp only [hd]
     split at h
     · rename_i te hte
       simp only [hte]
       obtain ⟨z,hz,he⟩ := Option.map_eq_some_iff.1 h
       injection he with h1 h2; subst h1 h2
       obtain ⟨a,b⟩ := cfillA_ok hz
       exact ⟨a,by rw [b],hl⟩
     · cases h
   · cases h
 · cases h
def cfillB : List (Nat × AV) → List UInt8 → Option (List UInt8)
 | [],bs => some bs
 | (i,x) :: r,bs => match x with
   | .w (.int .u8 m) => if i < bs.length ∧ 0 ≤ m ∧ m < 256 then cfillB r (bs.set i (UInt8.ofNat m.toNat)) else none
   | _ => none
theorem cfillB_ok : ∀ {ps : List (Nat × AV)} {ls zs : List UInt8},cfillB ps ls = some zs → (fillB ps ls).1 ∧ (fillB ps ls).2 = zs
 | [],ls,zs,h => by injection h with h; exact ⟨trivial,h⟩
 | (i,x) :: r,ls,zs,h => by
   unfold cfillB at h
   unfold fillB
   split at h
   · split at h
     · rename_i hc
       obtain ⟨h1,h2⟩ := cfillB_ok h
       exact ⟨⟨hc.1,hc.2.1,hc.2.2,h1⟩,h2⟩
     · cases h
   · cases h
def cfillI : List (Nat × AV) → List Int → Option (List Int)
 | [],ns => some ns
 | (i,x) :: r,ns => match x with
   | .w (.int .i64 m) => if i < ns.length then cfillI r (ns.set i m) else none
   | _ => none
theorem cfillI_ok : ∀ {ps : List (Nat × AV)} {ls zs : List Int},cfillI ps ls = some zs → (fillI ps ls).1 ∧ (fillI ps ls).2 = zs
 | [],ls,zs,h => by injection h with h; exact ⟨trivial,h⟩
 | (i,x) :: r,ls,zs,h => by
   unfold cfillI at h
   unfold fillI
   split at h
   · split at h
     · rename_i hc
       obtain ⟨h1,h2⟩ := cfillI_ok h
       exact ⟨⟨hc,h1⟩,h2⟩
     · cases h
   · cases h
def cfillG (s : Nat) : List (Nat × AV) → List AV → Option (List AV)
 | [],xs => some xs
 | (i,x) :: r,xs => if i < xs.length ∧ x.leaves.length = s ∧ x.okv = true then cfillG s r (setSlot xs i x) else none
theorem cfillG_ok {s : Nat} : ∀ {ps : List (Nat × AV)} {ls zs : List AV},cfillG s ps ls = some zs → (fillG s ps ls).1 ∧ (fillG s ps ls).2 = zs
 | [],ls,zs,h => by injection h with h; exact ⟨trivial,h⟩
 | (i,x) :: r,ls,zs,h => by
   unfold cfillG at h
   unfold fillG
   split at h
   · rename_i hc
     obtain ⟨h1,h2⟩ := cfillG_ok h
     exact ⟨⟨hc.1,hc.2.1,hc.2.2,h1⟩,h2⟩
   · cases h
def isZ (k : IntKind) : List AV → Bool
 | [.w (.int k' n)] => decide (k' = k) && decide (n = 0)
 | _ => false
theorem isZ_ok {k : IntKind} {l : List AV} (h : isZ k l = true) : l = [.w (.int k 0)] := by
 unfold isZ at h
 split at h
 · simp only [Bool.and_eq_true,decide_eq_true_eq] at h
   obtain ⟨rfl,rfl⟩ := h; rfl
 · cases h
def cBuildSlice (T : zac) (nm : Nat) (t : TypeId) (n : Nat) (ps : List (Nat × AV)) : Option (AV × Us) :=
 match T t with
 | some ti => match ti.d with
   | .slice e => match T e with
     | some te => match te.d with
       | .int .u8 => if te.size = 1 ∧ isZ .u8 te.zero = true ∧ n ≤ 16777216 then (cfillB ps (List.replicate n 0)).map fun l => (.ms nm 1 0 n,[(nm,some (.b l))]) else none
       | .int .i64 => if te.size = 1 ∧ isZ .i64 te.zero = true ∧ n ≤ 16777216 then (cfillI ps (List.replicate n 0)).map fun l => (.ms nm 1 0 n,[(nm,some (.i l))]) else none
       | _ => if 0 < te.size ∧ n * te.size ≤ 16777216 then (cfillG te.size ps (List.replicate n (asv te te.zero))).map fun l => (.ms nm te.size 0 n,[(nm,some (.g te.size l))]) else none
     | none => none
   | _ => none
 | none => none
include hl in
theorem cBuildSlice_ok {T : zac} {nm : Nat} {t : TypeId} {n : Nat} {ps : List (Nat × AV)} : Told (aBuildSlice T nm t n ps H) lk (cBuildSlice T nm t n ps) := by
 intro y us h
 unfold cBuildSlice at h
 unfold aBuildSlice
 split at h
 · rename_i ti ht
   simp only [ht]
   split at h
   · rename_i e hd
     simp only [hd]
     split at h
     · rename_i te hte
       simp only [hte]
       split at h
       · rename_i hk
         simp only [hk]
         split at h
         · rename_i hc
           obtain ⟨z,hz,he⟩ := Option.map_eq_some_iff.1 h
           injection he with h1 h2; subst h1 h2
           obtain ⟨a,b⟩ := cfillB_ok hz
           exact ⟨⟨hc.1,isZ_ok hc.2.1,hc.2.2,a⟩,rfl,fun id => by rw [b]; exact zam hl id⟩
         · cases h
       · rename_i hk
         simp only [hk]
         split at h
         · rename_i hc
           obtain ⟨z,hz,he⟩ := Option.map_eq_some_iff.1 h
           injection he with h1 h2; subst h1 h2
           obtain ⟨a,b⟩ := cfillI_ok hz
           exact ⟨⟨hc.1,isZ_ok hc.2.1,hc.2.2,a⟩,rfl,fun id => by rw [b]; exact zam hl id⟩
         · cases h
       · rename_i hk1 hk2
         split
         · rename_i he; exact (hk1 he).elim
         · rename_i he; exact (hk2 he).elim
         · split at h
           · rename_i hc
             obtain ⟨z,hz,he⟩ := Option.map_eq_some_iff.1 h
             injection he with h1 h2; subst h1 h2
             obtain ⟨a,b⟩ := cfillG_ok hz
             exact ⟨⟨hc.1,hc.2,a⟩,rfl,fun id => by rw [b]; exact zam hl id⟩
           · cases h
     · cases h
   · cases h
 · cases h
def cNil (x : AV) (lk : Nat → Option Blk) : Option (AV × Us) :=
 match x with
 | .rf id s i f => match lk id with
   | some _ => if s ≠ 0 then some (.rf id s i f,[]) else none
   | none => none
 | .cp ls => some (.cp ls,[])
 | .fn f cs => some (.fn f cs,[])
 | _ => none
include hl in
theorem cNil_ok {x : AV} : Told (aNil x H) lk (cNil x lk) := by
 intro y us h
 unfold cNil at h
 unfold aNil
 split at h
 · rename_i id s i f
   simp only [hl id]
   split at h
   · rename_i b hb
     simp only [hb]
     split at h
     · injection h with h; injection h with h1 h2; subst h1 h2
       exact ⟨by assumption,rfl,hl⟩
     · cases h
   · cases h
 · injection h with h; injection h with h1 h2; subst h1 h2; exact ⟨trivial,rfl,hl⟩
 · injection h with h; injection h with h1 h2; subst h1 h2; exact ⟨trivial,rfl,hl⟩
 · cases h
def cInt (op : BinOp) (k : IntKind) (a : Int) (k' : IntKind) (b : Int) : Option Value :=
 match op with
 | .shl => if 0 ≤ b then some (.int k (k.wrap (a * 2 ^ min b.toNat k.bits))) else none
 | .shr => if 0 ≤ b then some (.int k (a / 2 ^ min b.toNat k.bits)) else none
 | .add => if k = k' then some (.int k (k.wrap (a + b))) else none
 | .sub => if k = k' then some (.int k (k.wrap (a - b))) else none
 | .mul => if k = k' then some (.int k (k.wrap (a * b))) else none
 | .quo => if k = k' ∧ b ≠ 0 then some (.int k (k.wrap (a.tdiv b))) else none
 | .rem => if k = k' ∧ b ≠ 0 then some (.int k (a.tmod b)) else none
 | .and => if k = k' then some (.int k (bits .and k a b)) else none
 | .or => if k = k' then some (.int k (bits .or k a b)) else none
 | .xor => if k = k' then some (.int k (bits .xor k a b)) else none
 | .andNot => if k = k' then some (.int k (bits .andNot k a b)) else none
 | .eql => if k = k' then some (.bool (decide (a = b))) else none
 | .neq => if k = k' then some (.bool (!decide (a = b))) else none
 | .lss => if k = k' then some (.bool (decide (a < b))) else none
 | .leq => if k = k' then some (.bool (decide (a ≤ b))) else none
 | .gtr => if k = k' then some (.bool (decide (b < a))) else none
 | .geq => if k = k' then some (.bool (decide (b ≤ a))) else none
theorem cInt_ok {op : BinOp} {k k' : IntKind} {a b : Int} {v : Value} (h : cInt op k a k' b = some v) : (aInt op k a k' b).1 ∧ (aInt op k a k' b).2 = v := by
 cases op <;> simp only [cInt] at h <;> simp only [aInt] <;> split at h <;> first | (injection h with h; exact ⟨by assumption,h⟩) | cases h
def cStr (op : BinOp) (a b : List UInt8) : Option AV :=
 match op with
 | .add => if a.length + b.length ≤ 1099511627776 then some (.str (a ++ b)) else none
 | .eql => some (.w (.bool (decide (a = b))))
 | .neq => some (.w (.bool (!decide (a = b))))
 | .lss => some (.w (.bool (Op.bytesLess a b)))
 | .leq => some (.w (.bool (Op.bytesLess a b || decide (a = b))))
 | .gtr => some (.w (.bool (!(Op.bytesLess a b || decide (a = b)))))
 | .geq => some (.w (.bool (!(Op.bytesLess a b))))
 | _ => none
theorem cStr_ok {op : BinOp} {a b : List UInt8} {v : AV} (h : cStr op a b = some v) : (aStr op a b).1 ∧ (aStr op a b).2 = v := by
 cases op <;> simp only [cStr] at h <;> simp only [aStr] <;> first | cases h | (split at h <;> first | cases h | (injection h with h; exact ⟨by assumption,h⟩)) | (injection h with h; exact ⟨trivial,h⟩)
 all_goals first | exact ⟨trivial,rfl⟩ | trivial
def cEq (op : BinOp) (r : Bool) : Option (AV × Us) :=
 match op with
 | .eql => some (.w (.bool r),[])
 | .neq => some (.w (.bool (!r)),[])
 | _ => none
include hl in
theorem cEq_ok {op : BinOp} {r : Bool} : Told (aEq op r H) lk (cEq op r) := by
 intro y us h
 cases op <;> simp only [cEq] at h <;> first | cases h | skip
 all_goals (exact ⟨trivial,rfl,hl⟩)
def cisPtr (T : zac) (t : TypeId) : Bool :=
 match T t with
 | some ti => match ti.d with
   | .ptr => true
   | _ => false
 | none => false
theorem cisPtr_ok {T : zac} {t : TypeId} (h : cisPtr T t = true) : isPtr T t := by
 unfold cisPtr at h; unfold isPtr; split at h
 · rename_i ti ht; simp only [ht]; split at h
   · rename_i hd; simp only [hd]
   · cases h
 · cases h
def cisBool (T : zac) (t : TypeId) : Bool :=
 match T t with
 | some ti => match ti.d with
   | .bool => true
   | _ => false
 | none => false
theorem cisBool_ok {T : zac} {t : TypeId} (h : cisBool T t = true) : isBool T t := by
 unfold cisBool at h; unfold isBool; split at h
 · rename_i ti ht; simp only [ht]; split at h
   · rename_i hd; simp only [hd]
   · cases h
 · cases h
def cisStruct (T : zac) (t : TypeId) : Bool :=
 match T t with
 | some ti => match ti.d with
   | .struct _ => true
   | _ => false
 | none => false
theorem cisStruct_ok {T : zac} {t : TypeId} (h : cisStruct T t = true) : isStruct T t := by
 unfold cisStruct at h; unfold isStruct; split at h
 · rename_i ti ht; simp only [ht]; split at h
   · rename_i hd; simp only [hd]
   · cases h
 · cases h
def ceqF (S : TypeId → AV → AV → Option Bool) (T : zac) : List (Nat × TypeId) → List AV → List AV → Option Bool
 | [],_,_ => some true
 | p :: r,xs,ys => match T p.2 with
   | none => none
   | some te => match csub te xs p.1,csub te ys p.1 with
     | some a,some b => match S p.2 a b with
       | some u => match ceqF S T r xs ys with
         | some v => some (u && v)
         | none => none
       | none => none
     | _,_ => none
def ceqV (T : zac) : Nat → TypeId → AV → AV → Option Bool
 | 0,_,_,_ => none
 | n + 1,t,x,y => match T t with
   | none => none
   | some i => match i.d with
     | .int _ => match x,y with
       | .w (.int k1 a),.w (.int k2 b) => if k1 = k2 then some (decide (a = b)) else none
       | _,_ => none
     | .bool => match x,y with
       | .w (.bool a),.w (.bool b) => some (a == b)
       | _,_ => none
     | .str => match x,y with
       | .str a,.str b => some (decide (a = b))
       | _,_ => none
     | .struct fs => match x,y with
       | .agg xs,.agg ys => ceqF (ceqV T n) T fs xs ys
       | _,_ => none
     | _ => none
theorem ceqF_ok {T : zac} {S : TypeId → AV → AV → Prop × Bool} {S' : TypeId → AV → AV → Option Bool} (hS : ∀ t x y b,S' t x y = some b → (S t x y).1 ∧ (S t x y).2 = b) :
   ∀ {fs : List (Nat × TypeId)} {xs ys : List AV} {b : Bool},ceqF S' T fs xs ys = some b → (eqF S T fs xs ys).1 ∧ (eqF S T fs xs ys).2 = b
 | [],xs,ys,b,h => by injection h with h; exact ⟨trivial,h⟩
 | p :: r,xs,ys,b,h => by
   unfold ceqF at h
   unfold eqF
   split at h
   · cases h
   · rename_i te ht
     simp only [ht]
     split at h
     · rename_i a c ha hc
       split at h
       · rename_i u hu
         split at h
         · rename_i v hv
           injection h with h
           obtain ⟨a1,a2,_⟩ := csub_ok (H := []) ha
           obtain ⟨b1,b2,_⟩ := csub_ok (H := []) hc
           obtain ⟨c1,c2⟩ := hS _ _ _ _ hu
           obtain ⟨d1,d2⟩ := ceqF_ok hS hv
           rw [a2,b2]
           exact ⟨⟨a1,b1,c1,d1⟩,by rw [c2,d2,h]⟩
         · cases h
       · cases h
     · cases h
theorem ceqV_ok {T : zac} : ∀ (n : Nat) (t : TypeId) (x y : AV) (b : Bool),ceqV T n t x y = some b → (eqV T n t x y).1 ∧ (eqV T n t x y).2 = b
 | 0,t,x,y,b,h => by cases h
 | n + 1,t,x,y,b,h => by
   unfold ceqV at h
   unfold eqV
   split at h
   · cases h
   · rename_i i hi
     simp only [hi]
     split at h
     · rename_i hd
       simp only [hd]
       split at h
       · split at h
         · injection h with h; exact ⟨by assumption,h⟩
         · cases h
       · cases h
     · rename_i hd
       simp only [hd]
       split at h
       · injection h with h; exact ⟨trivial,h⟩
       · cases h
     · rename_i hd
       simp only [hd]
       split at h
       · injection h with h; exact ⟨trivial,h⟩
       · cases h
     · rename_i hd
       simp only [hd]
       split at h
       · exact ceqF_ok (ceqV_ok n) h
       · cases h
     · cases h
def cBin (T : zac) (op : BinOp) (t : TypeId) (x y : AV) (lk : Nat → Option Blk) : Option (AV × Us) :=
 match x,y with
 | .w (.int k a),.w (.int k' b) => (cInt op k a k' b).map fun v => (.w v,[])
 | .str a,.str b => (cStr op a b).map fun v => (v,[])
 | .w (.bool a),.w (.bool b) => bif cisBool T t then cEq op (a == b) else none
 | .rf id s _ _,.w (.pointer none) => match lk id with
   | some _ => bif decide (s ≠ 0) && cisPtr T t then cEq op false else none
   | none => none
 | .w (.pointer none),.w (.pointer none) => bif cisPtr T t then cEq op true else none
 | .agg xs,.agg ys => match ceqV T 4 t (.agg xs) (.agg ys) with
   | some r => bif cisStruct T t then cEq op r else none
   | none => none
 | _,_ => none
theorem Told.and {q : Prop} {o : Out} {r : Option (AV × Us)} (h : Told o lk r) (hq : q) : Told (o.and q) lk r := fun x us e => let ⟨a,b,c⟩ := h x us e; ⟨⟨hq,a⟩,b,c⟩
theorem Told.cond {q : Prop} {b : Bool} {o : Out} {r : Option (AV × Us)} (h : Told o lk r) (hq : b = true → q) : Told (o.and q) lk (bif b then r else none) := by
 cases b with
 | true => exact h.and (hq rfl)
 | false => intro x us e; cases e
include hl in
theorem cBin_ok {T : zac} {op : BinOp} {t : TypeId} {x y : AV} : Told (aBin T op t x y H) lk (cBin T op t x y lk) := by
 intro z us h
 unfold cBin at h
 split at h
 · obtain ⟨v,hv,he⟩ := Option.map_eq_some_iff.1 h
   injection he with h1 h2; subst h1 h2
   obtain ⟨a,b⟩ := cInt_ok hv
   exact ⟨a,by simp only [aBin,b],hl⟩
 · obtain ⟨v,hv,he⟩ := Option.map_eq_some_iff.1 h
   injection he with h1 h2; subst h1 h2
   obtain ⟨a,b⟩ := cStr_ok hv
   exact ⟨a,b,hl⟩
 · exact ((cEq_ok hl).cond (q := isBool T t) cisBool_ok) z us h
 · rename_i id s _ _
   split at h
   · rename_i bk hb
     have hb' : look H id = some bk := (hl id).trans hb
     have := ((cEq_ok hl).cond (q := s ≠ 0 ∧ isPtr T t) fun h => by
       simp only [Bool.and_eq_true,decide_eq_true_eq] at h
       exact ⟨h.1,cisPtr_ok h.2⟩) z us h
     simp only [aBin,hb']
     exact this
   · cases h
 · exact ((cEq_ok hl).cond (q := isPtr T t) cisPtr_ok) z us h
 · rename_i xs ys
   split at h
   · rename_i r hr
     obtain ⟨a,b⟩ := ceqV_ok _ _ _ _ _ hr
     simp only [aBin]
     rw [b]
     cases hc : cisStruct T t with
     | true =>
       rw [hc] at h
       exact (cEq_ok hl).and ⟨cisStruct_ok hc,a⟩ z us h
     | false => rw [hc] at h; cases h
   · cases h
 · cases h
def cUn (op : UnOp) (x : AV) : Option (AV × Us) :=
 match op,x with
 | .not,.w (.bool b) => some (.w (.bool (!b)),[])
 | .neg,.w (.int k n) => some (.w (.int k (k.wrap (0 - n))),[])
 | .xor,.w (.int k n) => some (.w (.int k (bits .xor k (bif k.signed then -1 else k.max) n)),[])
 | _,_ => none
include hl in
theorem cUn_ok {op : UnOp} {x : AV} : Told (aUn op x H) lk (cUn op x) := by
 intro y us h
 unfold cUn at h
 unfold aUn
 split at h <;> first | cases h | (injection h with h; injection h with h1 h2; subst h1 h2; exact ⟨trivial,rfl,hl⟩)
 all_goals exact ⟨trivial,rfl,hl⟩
def cviewB (lk : Nat → Option Blk) (x : AV) : Option (List UInt8) :=
 match x with
 | .sb bs _ => some bs
 | .sg _ [] _ => some []
 | .ms id s off len => match lk id with
   | some (.b bs) => if s = 1 ∧ off + len ≤ bs.length then some ((bs.drop off).take len) else none
   | _ => none
 | _ => none
include hl in
theorem cviewB_ok {x : AV} {l : List UInt8} (h : cviewB lk x = some l) : (zfb H x).1 ∧ (zfb H x).2 = l := by
 unfold cviewB at h
 unfold zfb
 split at h
 · injection h with h; exact ⟨trivial,h⟩
 · injection h with h; exact ⟨trivial,h⟩
 · rename_i id s off len
   simp only [hl id]
   split at h
   · rename_i bs hb
     simp only [hb]
     split at h
     · injection h with h; exact ⟨by assumption,h⟩
     · cases h
   · cases h
 · cases h
def cviewI (lk : Nat → Option Blk) (x : AV) : Option (List Int) :=
 match x with
 | .si ns _ => some ns
 | .sg _ [] _ => some []
 | .ms id s off len => match lk id with
   | some (.i ns) => if s = 1 ∧ off + len ≤ ns.length then some ((ns.drop off).take len) else none
   | _ => none
 | _ => none
include hl in
theorem cviewI_ok {x : AV} {l : List Int} (h : cviewI lk x = some l) : (viewI H x).1 ∧ (viewI H x).2 = l := by
 unfold cviewI at h
 unfold viewI
 split at h
 · injection h with h; exact ⟨trivial,h⟩
 · injection h with h; exact ⟨trivial,h⟩
 · rename_i id s off len
   simp only [hl id]
   split at h
   · rename_i bs hb
     simp only [hb]
     split at h
     · injection h with h; exact ⟨by assumption,h⟩
     · cases h
   · cases h
 · cases h
def cviewG (s : Nat) (lk : Nat → Option Blk) (x : AV) : Option (List AV) :=
 match x with
 | .sg s' xs _ => bif xs.isEmpty || decide (s' = s) then some xs else none
 | .ms id s' off len => match lk id with
   | some (.g s'' xs) => if s' = s ∧ s'' = s ∧ off + len ≤ xs.length then some ((xs.drop off).take len) else none
   | _ => none
 | _ => none
include hl in
theorem cviewG_ok {s : Nat} {x : AV} {l : List AV} (h : cviewG s lk x = some l) : (zfa s H x).1 ∧ (zfa s H x).2 = l := by
 unfold cviewG at h
 unfold zfa
 split at h
 · rename_i s' xs f
   cases hc : xs.isEmpty || decide (s' = s) with
   | true =>
     rw [hc] at h
     injection h with h
     refine ⟨?_,h⟩
     simp only [Bool.or_eq_true,List.isEmpty_iff,decide_eq_true_eq] at hc
     exact hc
   | false => rw [hc] at h; cases h
 · rename_i id s off len
   simp only [hl id]
   split at h
   · rename_i bs hb
     simp only [hb]
     split at h
     · injection h with h; exact ⟨by assumption,h⟩
     · cases h
   · cases h
 · cases h
def cisBytes (T : zac) (t : TypeId) : Bool :=
 match T t with
 | some ti => match ti.d with
   | .slice e => match T e with
     | some te => match te.d with
       | .int .u8 => true
       | _ => false
     | none => false
   | _ => false
 | none => false
theorem cisBytes_ok {T : zac} {t : TypeId} (h : cisBytes T t = true) : isBytes T t := by
 unfold cisBytes at h; unfold isBytes; split at h
 · rename_i ti ht; simp only [ht]; split at h
   · rename_i e hd; simp only [hd]; split at h
     · rename_i te hte; simp only [hte]; split at h
       · rename_i hk; simp only [hk]
       · cases h
     · cases h
   · cases h
 · cases h
def cConv (T : zac) (src dst : TypeId) (nm : Nat) (x : AV) (lk : Nat → Option Blk) : Option (AV × Us) :=
 match T src,T dst with
 | some _,some b => match b.d with
   | .int k => match x with
     | .w (.int _ n) => some (.w (.int k (k.wrap n)),[])
     | _ => none
   | .str => match x with
     | .str bs => some (.str bs,[])
     | _ => bif cisBytes T src then (cviewB lk x).map fun l => (.str l,[]) else none
   | .slice _ => match x with
     | .str bs => bif cisBytes T dst && decide (bs.length ≤ 9223372036854775807) then some (.ms nm 1 0 bs.length,[(nm,some (.b bs))]) else none
     | .ms id s off len => match lk id with
       | some blk => bif cisBytes T dst && (decide (src = dst) && (decide (0 < blk.len) && decide (blk.size = 1))) then some (.ms id s off len,[(id,some blk)]) else none
       | none => none
     | _ => none
   | _ => none
 | _,_ => none
include hl in
theorem cConv_ok {T : zac} {src dst : TypeId} {nm : Nat} {x : AV} : Told (aConv T src dst nm x H) lk (cConv T src dst nm x lk) := by
 intro y us h
 unfold cConv at h
 unfold aConv
 split at h
 · rename_i a b ha hb
   simp only [ha,hb]
   split at h
   · rename_i k hk
     simp only [hk]
     split at h
     · injection h with h; injection h with h1 h2; subst h1 h2; exact ⟨trivial,rfl,hl⟩
     · cases h
   · rename_i hk
     simp only [hk]
     split at h
     · injection h with h; injection h with h1 h2; subst h1 h2; exact ⟨trivial,rfl,hl⟩
     · rename_i hx
       split
       · rename_i bs; exact (hx bs rfl).elim
       · cases hc : cisBytes T src with
         | true =>
           rw [hc] at h
           obtain ⟨v,hv,he⟩ := Option.map_eq_some_iff.1 h
           injection he with h1 h2; subst h1 h2
           obtain ⟨p,q⟩ := cviewB_ok hl hv
           exact ⟨⟨cisBytes_ok hc,p⟩,by simp only [q],hl⟩
         | false => rw [hc] at h; cases h
   · rename_i e hk
     simp only [hk]
     split at h
     · rename_i bs
       cases hc : (cisBytes T dst && decide (bs.length ≤ 9223372036854775807)) with
       | true =>
         rw [hc] at h
         injection h with h; injection h with h1 h2; subst h1 h2
         simp only [Bool.and_eq_true,decide_eq_true_eq] at hc
         exact ⟨⟨cisBytes_ok hc.1,hc.2⟩,rfl,fun id => zam hl id⟩
       | false => rw [hc] at h; cases h
     · rename_i id s off len
       simp only [hl id]
       split at h
       · rename_i blk hbk
         simp only [hbk]
         cases hc : (cisBytes T dst && (decide (src = dst) && (decide (0 < blk.len) && decide (blk.size = 1)))) with
         | true =>
           rw [hc] at h
           injection h with h; injection h with h1 h2; subst h1 h2
           simp only [Bool.and_eq_true,decide_eq_true_eq] at hc
           exact ⟨⟨cisBytes_ok hc.1,hc.2⟩,rfl,fun id => zam hl id⟩
         | false => rw [hc] at h; cases h
       · cases h
     · cases h
   · cases h
 · cases h
end
end Ax
end Go.Proofs.Ytlpjdgkpapjldaa
