/- What the proofs of this seat stand on; it asks nothing. -/
import Derived.Test.YthjceeimbohajaaYba09
set_option linter.unusedSimpArgs false
set_option linter.unusedVariables false
namespace Go.Proofs.Ythjceeimbohajaa
open Ax
def pqW (n : Int) : List UInt8 := putU (zz n).toNat
def zay (r : WS) : List UInt8 := ((((zfh r.k ++ pqW r.s) ++ pqW r.c) ++ pqW r.t) ++ pqW r.a) ++ pqW r.b
def layWH (Z L M D : Int) (n : Nat) : List UInt8 := (((pqW Z ++ pqW L) ++ pqW M) ++ pqW D) ++ pqW (n : Int)
def layW (Z L M D : Int) (l : List WS) : List UInt8 := layWH Z L M D l.length ++ l.flatMap zay
def putW (Z L M D : Int) (l : List WS) : List UInt8 := if chW Z L M D l = 0 then layW Z L M D l else []
theorem zak (n : Int) (h : -9223372036854775808 ≤ n ∧ n ≤ 9223372036854775807) : (pqW n).length ≤ 10 := by
 have := zz_range n h.1 h.2
 exact zcw _ (by omega)
def okW (r : WS) : Prop := (0 ≤ r.s ∧ r.s ≤ 1099511627776) ∧ r.k.length ≤ 64 ∧ (1 ≤ r.c ∧ r.c ≤ 1048576) ∧ (-1125899906842624 ≤ r.t ∧ r.t ≤ 1125899906842624) ∧ (-1073741824 ≤ r.a ∧ r.a ≤ 1073741824) ∧ (-1073741824 ≤ r.b ∧ r.b ≤ 1073741824)
theorem okr_ok {z : Int} {r : WS} (h : okr z r = true) : okW r := by
 unfold okr okWB at h
 simp only [Bool.and_eq_true,Bool.not_eq_true',decide_eq_false_iff_not,decide_eq_true_eq] at h
 obtain ⟨h1,h2,h3,h4,h5,h6,h7,h8⟩ := h
 have g1 := zbd h1
 have g4 := zbd h4
 have g5 := zbd h5
 have g6 := zbd h6
 have g8 := zbd h8
 have m1 := mul_bound g4 g5
 have m2 := mul_bound g4 g6
 exact ⟨g1,by omega,g4,⟨by omega,by omega⟩,g5,g6⟩
theorem chW_ok {Z L M D : Int} {l : List WS} (h : chW Z L M D l = 0) : (1 ≤ Z ∧ Z ≤ 1048576) ∧ (0 ≤ L ∧ L ≤ 1048576) ∧ (-1 ≤ M ∧ M ≤ 1099511627776) ∧ (0 ≤ D ∧ D ≤ 1099511627776) ∧ l.length ≤ 256 ∧ ∀ r ∈ l,okW r := by
 unfold chW at h
 cases hh : hdB Z L M D l.length with
 | true => rw [hh,if_pos rfl] at h; cases h
 | false =>
   rw [hh,if_neg (by simp)] at h
   unfold hdB at hh
   simp only [Bool.or_eq_false_iff,decide_eq_false_iff_not] at hh
   obtain ⟨h1,h2,h3,h4,h5⟩ := hh
   cases ha : l.all (okr Z) with
   | false => rw [ha,if_neg (by simp)] at h; cases h
   | true =>
     refine ⟨zbd h1,zbd h2,zbd h3,zbd h4,by omega,fun r hr => okr_ok (List.all_eq_true.1 ha r hr)⟩
theorem layW_snoc (l : List WS) (i : Nat) (h : i < l.length) : (l.take (i + 1)).flatMap zay = (l.take i).flatMap zay ++ zay l[i] := by
 rw [List.take_succ_eq_append_getElem h,List.flatMap_append]; simp
theorem layWR_length {r : WS} (h : okW r) : (zay r).length ≤ 130 := by
 obtain ⟨h1,h2,h3,h4,h5,h6⟩ := h
 have a1 := textL_length r.k (by omega)
 have a2 := zak r.s (by omega)
 have a3 := zak r.c (by omega)
 have a4 := zak r.t (by omega)
 have a5 := zak r.a (by omega)
 have a6 := zak r.b (by omega)
 unfold zay; simp only [List.length_append]; omega
theorem layW_length : ∀ l : List WS,(∀ r ∈ l,okW r) → (l.flatMap zay).length ≤ 130 * l.length
 | [],_ => by simp
 | a :: l,h => by
   have h1 := layWR_length (h a (List.mem_cons_self ..))
   have h2 := layW_length l (fun r hr => h r (List.mem_cons_of_mem _ hr))
   rw [List.flatMap_cons,List.length_append,List.length_cons]; omega
def putWS : zap
 | [.agg [.w (.int .i64 Z),.w (.int .i64 L),.w (.int .i64 M),.w (.int .i64 D),.sg 6 xs f]],[] => ⟨xs.length ≤ 9223372036854775807 ∧ ∃ l : List WS,xs = l.map wsA,.tup [.sb (putW Z L M D (xs.map uws)) false,.w (.int .i64 (chW Z L M D (xs.map uws)))],[]⟩
 | _,_ => zbv
theorem gd0 (a b c d e : Int) : [a,b,c,d,e].getD 0 0 = a := rfl
theorem gd1 (a b c d e : Int) : [a,b,c,d,e].getD 1 0 = b := rfl
theorem gd2 (a b c d e : Int) : [a,b,c,d,e].getD 2 0 = c := rfl
theorem gd3 (a b c d e : Int) : [a,b,c,d,e].getD 3 0 = d := rfl
theorem gd4 (a b c d e : Int) : [a,b,c,d,e].getD 4 0 = e := rfl
def SputW (f : FuncId) : Option zap :=
 match f with
 | 28 => some chkWS
 | 31 => some chkWS
 | 29 => some putS
 | 30 => some textS
 | 32 => some putS
 | 33 => some textS
 | _ => none
theorem SputW_ok : Fns Try.prog SputW := by
 intro f s h
 unfold SputW at h
 split at h
 · injection h with h; subst h; exact ⟨⟨_,Try.func28,by kernel_rfl,by kernel_rfl⟩,chkW_sound⟩
 · injection h with h; subst h; exact ⟨⟨_,Try.func31,by kernel_rfl,by kernel_rfl⟩,rchkW_sound⟩
 · injection h with h; subst h; exact ⟨⟨_,Try.func29,by kernel_rfl,by kernel_rfl⟩,put_sound⟩
 · injection h with h; subst h; exact ⟨⟨_,Try.func30,by kernel_rfl,by kernel_rfl⟩,text_sound⟩
 · injection h with h; subst h; exact ⟨⟨_,Try.func32,by kernel_rfl,by kernel_rfl⟩,rput_sound⟩
 · injection h with h; subst h; exact ⟨⟨_,Try.func33,by kernel_rfl,by kernel_rfl⟩,rtext_sound⟩
 · cases h
section
set_option maxRecDepth 100000
set_option maxHeartbeats 32000000 in
theorem putW_sound : zaz Try.prog 7 putWS := by
 refine zco (S := SputW) (T := ty) zbi ty_ok SputW_ok Try.func7 (c := Try.f7.body.getD .skip) (by kernel_rfl) (by kernel_rfl) (fun xs pins hp _ => ?_)
 unfold putWS at hp ⊢
 split at hp
 · rename_i Z L M D xs f _
   obtain ⟨hL,l,rfl⟩ := hp
   have hx : ∃ q : List WS,l.map wsA = q.map wsA := ⟨l,rfl⟩
   have hle : (l.map wsA).length = l.length := by simp
   rw [hle] at hL
   have hc : coe ty 31 (.sg 6 (l.map wsA) f) = .sg 6 (l.map wsA) f := by cases l <;> rfl
   have htop : top = 4294967296 := rfl
   rw [zax]
   refine ⟨by simp,?_⟩
   unfold Try.f7
   by_cases h0 : chW Z L M D l = 0
   · obtain ⟨b1,b2,b3,b4,b5,b6⟩ := chW_ok h0
     have hpv : putW Z L M D l = layW Z L M D l := if_pos h0
     rw [hpv,h0]
     have r1 : -9223372036854775808 ≤ Z ∧ Z ≤ 9223372036854775807 := by omega
     have r2 : -9223372036854775808 ≤ L ∧ L ≤ 9223372036854775807 := by omega
     have r3 : -9223372036854775808 ≤ M ∧ M ≤ 9223372036854775807 := by omega
     have r4 : -9223372036854775808 ≤ D ∧ D ≤ 9223372036854775807 := by omega
     have r5 : -9223372036854775808 ≤ (l.length : Int) ∧ (l.length : Int) ≤ 9223372036854775807 := by omega
     have p1 := zak Z r1
     have p2 := zak L r2
     have p3 := zak M r3
     have p4 := zak D r4
     have p5 := zak (l.length : Int) r5
     have hlay : layW Z L M D l = layWH Z L M D l.length ++ l.flatMap zay := rfl
     have hlh : layWH Z L M D l.length = (((pqW Z ++ pqW L) ++ pqW M) ++ pqW D) ++ pqW (l.length : Int) := rfl
     generalize hP1 : pqW Z = P1 at *
     generalize hP2 : pqW L = P2 at *
     generalize hP3 : pqW M = P3 at *
     generalize hP4 : pqW D = P4 at *
     generalize hP5 : pqW (l.length : Int) = P5 at *
     have hP1' : putU (zz Z).toNat = P1 := hP1
     have hP2' : putU (zz L).toNat = P2 := hP2
     have hP3' : putU (zz M).toNat = P3 := hP3
     have hP4' : putU (zz D).toNat = P4 := hP4
     have hP5' : putU (zz (l.length : Int)).toNat = P5 := hP5
     have v2 : (P1 ++ P2).length = P1.length + P2.length := List.length_append
     have v3 : ((P1 ++ P2) ++ P3).length = P1.length + P2.length + P3.length := by simp only [List.length_append]
     have v4 : (((P1 ++ P2) ++ P3) ++ P4).length = P1.length + P2.length + P3.length + P4.length := by simp only [List.length_append]
     have v5 : ((((P1 ++ P2) ++ P3) ++ P4) ++ P5).length = P1.length + P2.length + P3.length + P4.length + P5.length := by simp only [List.length_append]
     simp only [go_sem,zaa,Nat.reduceAdd,Nat.reduceSub,Nat.reduceMul,Int.reduceToNat,reduceCtorEq,↓reduceIte,Int.reducePow,Nat.reducePow,Int.reduceMod,Nat.reduceLeDiff,Int.reduceLE,Int.reduceNe,Int.reduceEq,Nat.reduceEqDiff,Nat.reduceLT,Nat.reduceBEq,ty,SputW,putS,textS,chkWS,hle,hL,hx,hc,zax,h0]
     refine awp_unr 6 ?_
     simp only [go_sem,zaa,Nat.reduceAdd,Nat.reduceSub,Nat.reduceMul,Int.reduceToNat,reduceCtorEq,↓reduceIte,Int.reducePow,Nat.reducePow,Int.reduceMod,Nat.reduceLeDiff,Int.reduceLE,Int.reduceNe,Int.reduceEq,Nat.reduceEqDiff,Nat.reduceLT,Nat.reduceBEq,ty,SputW,putS,hle,r1,r2,r3,r4,r5,hP1',hP2',hP3',hP4',hP5',v2,v3,v4,v5,fillS,List.take_length,List.nil_append,unr_go,unK_normal,unK_exit,unK_ret,Int.reduceAdd,Int.reduceSub,Int.reduceLT,decide_true,decide_false,Int.cast_ofNat_Int,slot,gd0,gd1,gd2,gd3,gd4,List.length_cons,List.length_nil]
     repeat (refine And.intro (by omega) ?_)
     refine zfg ⟨fun m σ => ∃ (i : Nat) (acc : List UInt8),m = l.length - i ∧ i ≤ l.length ∧ acc = ((((P1 ++ P2) ++ P3) ++ P4) ++ P5) ++ (l.take i).flatMap zay ∧
       σ = ⟨[.agg [.w (.int .i64 Z),.w (.int .i64 L),.w (.int .i64 M),.w (.int .i64 D),.sg 6 (l.map wsA) f],.rf 4 5 0 0,.sg 1 [] true,.w (.int .i64 0),.w (.int .i64 0),.ms 5 1 0 acc.length,.junk,.junk,.junk,.junk,.junk,.junk,.junk,.junk,.junk,.junk,.junk,.junk,.junk,.junk,.junk,.junk,.junk,.junk,.junk,.junk,.junk,.junk,.junk,.junk,.junk,.junk,.junk,.junk,.junk,.junk,.junk,.junk,.junk,.junk,.sg 6 (l.map wsA) f,.w (.int .i64 l.length),.w (.int .i64 i),.junk,.junk,.junk,.junk,.junk,.junk,.junk,.junk,.junk,.junk,.junk,.junk,.junk,.junk,.junk,.junk,.junk,.junk,.junk,.junk,.junk,.junk,.junk,.junk,.junk,.junk,.junk,.junk,.junk,.junk,.junk],[(4,.g 5 [.agg [.w (.int .i64 Z),.w (.int .i64 L),.w (.int .i64 M),.w (.int .i64 D),.sg 6 (l.map wsA) f]]),(5,.b acc)],6⟩,?_,?_⟩
     · refine ⟨_,_,zaj [0,1,2,3,4,596] rfl rfl rfl ?_ ?_,0,_,rfl,by omega,rfl,rfl⟩
       · simp only [ssT,zar,zas,setSlot,gOf,AV.ren,renL,Blk.ren,Ax.look,Ax.put,reduceCtorEq,↓reduceIte,Nat.reduceEqDiff,Nat.reduceLT,Nat.reduceAdd,List.length_append,List.length_cons,List.length_nil,Option.some.injEq,v5]; try simp
       · simp only [ssT,zar,zas,setSlot,gOf,AV.ren,renL,Blk.ren,Ax.look,Ax.put,reduceCtorEq,↓reduceIte,Nat.reduceEqDiff,Nat.reduceLT,Nat.reduceAdd,List.length_append,List.length_cons,List.length_nil,Option.some.injEq]; try simp
     · rintro m σ ⟨i,acc,rfl,hi,hacc,rfl⟩
       have hal : acc.length ≤ 50 + 130 * 256 := by
         have := layW_length (l.take i) (fun r hr => b6 r (List.mem_of_mem_take hr))
         rw [hacc,List.length_append,v5]
         rw [List.length_take] at this
         omega
       by_cases hil : i < l.length
       · have d2 : decide ((i : Int) < l.length) = true := decide_eq_true (by omega)
         have e1 : ((i : Int) + 1 + 9223372036854775808) % 18446744073709551616 - 9223372036854775808 = ((i + 1 : Nat) : Int) := by omega
         have hs1 := zck l i hil
         have hsn := layW_snoc l i hil
         have hok := b6 _ (List.getElem_mem hil)
         obtain ⟨r,hr⟩ : ∃ r,l[i] = r := ⟨_,rfl⟩
         rw [hr] at hs1 hsn hok
         obtain ⟨s,k,c,t,a,b⟩ := r
         have hs1 : slot (l.map wsA) i = .agg [.w (.int .i64 s),.str k,.w (.int .i64 c),.w (.int .i64 t),.w (.int .i64 a),.w (.int .i64 b)] := hs1
         obtain ⟨g1,g2,g3,g4,g5,g6⟩ := hok
         simp only at g1 g2 g3 g4 g5 g6
         have q1 : k.length ≤ 1000000 := by omega
         have u1 : -9223372036854775808 ≤ s ∧ s ≤ 9223372036854775807 := by omega
         have u2 : -9223372036854775808 ≤ c ∧ c ≤ 9223372036854775807 := by omega
         have u3 : -9223372036854775808 ≤ t ∧ t ≤ 9223372036854775807 := by omega
         have u4 : -9223372036854775808 ≤ a ∧ a ≤ 9223372036854775807 := by omega
         have u5 : -9223372036854775808 ≤ b ∧ b ≤ 9223372036854775807 := by omega
         have y0 := textL_length k (by omega)
         have y1 := zak s u1
         have y2 := zak c u2
         have y3 := zak t u3
         have y4 := zak a u4
         have y5 := zak b u5
         have hlr : zay ⟨s,k,c,t,a,b⟩ = ((((zfh k ++ pqW s) ++ pqW c) ++ pqW t) ++ pqW a) ++ pqW b := rfl
         generalize hK : zfh k = K at *
         generalize hA1 : pqW s = A1 at *
         generalize hA2 : pqW c = A2 at *
         generalize hA3 : pqW t = A3 at *
         generalize hA4 : pqW a = A4 at *
         generalize hA5 : pqW b = A5 at *
         have hA1' : putU (zz s).toNat = A1 := hA1
         have hA2' : putU (zz c).toNat = A2 := hA2
         have hA3' : putU (zz t).toNat = A3 := hA3
         have hA4' : putU (zz a).toNat = A4 := hA4
         have hA5' : putU (zz b).toNat = A5 := hA5
         have w0 : (acc ++ K).length = acc.length + K.length := List.length_append
         have w1 : ((acc ++ K) ++ A1).length = acc.length + K.length + A1.length := by simp only [List.length_append]
         have w2 : (((acc ++ K) ++ A1) ++ A2).length = acc.length + K.length + A1.length + A2.length := by simp only [List.length_append]
         have w3 : ((((acc ++ K) ++ A1) ++ A2) ++ A3).length = acc.length + K.length + A1.length + A2.length + A3.length := by simp only [List.length_append]
         have w4 : (((((acc ++ K) ++ A1) ++ A2) ++ A3) ++ A4).length = acc.length + K.length + A1.length + A2.length + A3.length + A4.length := by simp only [List.length_append]
         have w5 : ((((((acc ++ K) ++ A1) ++ A2) ++ A3) ++ A4) ++ A5).length = acc.length + K.length + A1.length + A2.length + A3.length + A4.length + A5.length := by simp only [List.length_append]
         have hnew : ((((((acc ++ K) ++ A1) ++ A2) ++ A3) ++ A4) ++ A5) = ((((P1 ++ P2) ++ P3) ++ P4) ++ P5) ++ (l.take (i + 1)).flatMap zay := by
           rw [hsn,hlr,hacc]; simp only [List.append_assoc]
         simp only [go_sem,zaa,Nat.reduceAdd,Nat.reduceSub,Nat.reduceMul,Int.reduceToNat,reduceCtorEq,↓reduceIte,Int.reducePow,Nat.reducePow,Int.reduceMod,Nat.reduceLeDiff,Int.reduceLE,Int.reduceNe,Int.reduceEq,Nat.reduceEqDiff,Nat.reduceLT,Nat.reduceBEq,ty,SputW,putS,textS,hle,d2,hs1,q1,hK,w0,Int.toNat_natCast,List.take_length]
         repeat (refine And.intro (by omega) ?_)
         refine awp_unr 6 ?_
         simp only [go_sem,zaa,Nat.reduceAdd,Nat.reduceSub,Nat.reduceMul,Int.reduceToNat,reduceCtorEq,↓reduceIte,Int.reducePow,Nat.reducePow,Int.reduceMod,Nat.reduceLeDiff,Int.reduceLE,Int.reduceNe,Int.reduceEq,Nat.reduceEqDiff,Nat.reduceLT,Nat.reduceBEq,ty,SputW,putS,hle,e1,u1,u2,u3,u4,u5,hA1',hA2',hA3',hA4',hA5',w0,w1,w2,w3,w4,w5,fillS,List.take_length,unr_go,unK_normal,unK_exit,unK_ret,Int.reduceAdd,Int.reduceSub,Int.reduceLT,decide_true,decide_false,Int.cast_ofNat_Int,slot,gd0,gd1,gd2,gd3,gd4,List.length_cons,List.length_nil]
         repeat (refine And.intro (by omega) ?_)
         refine ⟨l.length - (i + 1),_,by omega,zaj [0,1,2,3,4,606] rfl rfl rfl ?_ ?_,i + 1,_,rfl,by omega,hnew,rfl⟩
         · simp only [ssT,zar,zas,setSlot,gOf,AV.ren,renL,Blk.ren,Ax.look,Ax.put,reduceCtorEq,↓reduceIte,Nat.reduceEqDiff,Nat.reduceLT,Nat.reduceAdd,List.length_append,List.length_cons,List.length_nil,Option.some.injEq,w5]; try simp
         · simp only [ssT,zar,zas,setSlot,gOf,AV.ren,renL,Blk.ren,Ax.look,Ax.put,reduceCtorEq,↓reduceIte,Nat.reduceEqDiff,Nat.reduceLT,Nat.reduceAdd,List.length_append,List.length_cons,List.length_nil,Option.some.injEq]; try simp
       · have d2 : decide ((i : Int) < l.length) = false := decide_eq_false (by omega)
         have hii : l.take i = l := List.take_of_length_le (by omega)
         rw [hii] at hacc
         rw [hlay,hlh]
         simp only [go_sem,zaa,Nat.reduceAdd,Nat.reduceSub,Nat.reduceMul,Int.reduceToNat,reduceCtorEq,↓reduceIte,Int.reducePow,Nat.reducePow,Int.reduceMod,Nat.reduceLeDiff,Int.reduceLE,Int.reduceNe,Int.reduceEq,Nat.reduceEqDiff,Nat.reduceLT,Nat.reduceBEq,ty,SputW,hle,d2]
         refine ⟨_,Weak.refl _,?_⟩
         simp only [go_sem,zaa,Nat.reduceAdd,Nat.reduceSub,Nat.reduceMul,Int.reduceToNat,reduceCtorEq,↓reduceIte,Int.reducePow,Nat.reducePow,Int.reduceMod,Nat.reduceLeDiff,Int.reduceLE,Int.reduceNe,Int.reduceEq,Nat.reduceEqDiff,Nat.reduceLT,Nat.reduceBEq,ty,SputW]
         exact fz_ends 2 3 (by decide) rfl rfl rfl rfl hacc.symm rfl
   · have hpv : putW Z L M D l = [] := if_neg h0
     have d0 : decide (chW Z L M D l = 0) = false := decide_eq_false h0
     rw [hpv]
     simp only [go_sem,zaa,Nat.reduceAdd,Nat.reduceSub,Nat.reduceMul,Int.reduceToNat,reduceCtorEq,↓reduceIte,Int.reducePow,Nat.reducePow,Int.reduceMod,Nat.reduceLeDiff,Int.reduceLE,Int.reduceNe,Int.reduceEq,Nat.reduceEqDiff,Nat.reduceLT,Nat.reduceBEq,ty,SputW,chkWS,hle,hL,hx,hc,zax,d0]
     exact nil_ends 2 3 (by decide) rfl rfl rfl rfl
 · exact hp.elim
set_option maxHeartbeats 32000000 in
theorem rputW_sound : zaz Try.prog 9 putWS := by
 refine zco (S := SputW) (T := ty) zbi ty_ok SputW_ok Try.func9 (c := Try.f9.body.getD .skip) (by kernel_rfl) (by kernel_rfl) (fun xs pins hp _ => ?_)
 unfold putWS at hp ⊢
 split at hp
 · rename_i Z L M D xs f _
   obtain ⟨hL,l,rfl⟩ := hp
   have hx : ∃ q : List WS,l.map wsA = q.map wsA := ⟨l,rfl⟩
   have hle : (l.map wsA).length = l.length := by simp
   rw [hle] at hL
   have hc : coe ty 22 (.sg 6 (l.map wsA) f) = .sg 6 (l.map wsA) f := by cases l <;> rfl
   have htop : top = 4294967296 := rfl
   rw [zax]
   refine ⟨by simp,?_⟩
   unfold Try.f9
   by_cases h0 : chW Z L M D l = 0
   · obtain ⟨b1,b2,b3,b4,b5,b6⟩ := chW_ok h0
     have hpv : putW Z L M D l = layW Z L M D l := if_pos h0
     rw [hpv,h0]
     have r1 : -9223372036854775808 ≤ Z ∧ Z ≤ 9223372036854775807 := by omega
     have r2 : -9223372036854775808 ≤ L ∧ L ≤ 9223372036854775807 := by omega
     have r3 : -9223372036854775808 ≤ M ∧ M ≤ 9223372036854775807 := by omega
     have r4 : -9223372036854775808 ≤ D ∧ D ≤ 9223372036854775807 := by omega
     have r5 : -9223372036854775808 ≤ (l.length : Int) ∧ (l.length : Int) ≤ 9223372036854775807 := by omega
     have p1 := zak Z r1
     have p2 := zak L r2
     have p3 := zak M r3
     have p4 := zak D r4
     have p5 := zak (l.length : Int) r5
     have hlay : layW Z L M D l = layWH Z L M D l.length ++ l.flatMap zay := rfl
     have hlh : layWH Z L M D l.length = (((pqW Z ++ pqW L) ++ pqW M) ++ pqW D) ++ pqW (l.length : Int) := rfl
     generalize hP1 : pqW Z = P1 at *
     generalize hP2 : pqW L = P2 at *
     generalize hP3 : pqW M = P3 at *
     generalize hP4 : pqW D = P4 at *
     generalize hP5 : pqW (l.length : Int) = P5 at *
     have hP1' : putU (zz Z).toNat = P1 := hP1
     have hP2' : putU (zz L).toNat = P2 := hP2
     have hP3' : putU (zz M).toNat = P3 := hP3
     have hP4' : putU (zz D).toNat = P4 := hP4
     have hP5' : putU (zz (l.length : Int)).toNat = P5 := hP5
     have v2 : (P1 ++ P2).length = P1.length + P2.length := List.length_append
     have v3 : ((P1 ++ P2) ++ P3).length = P1.length + P2.length + P3.length := by simp only [List.length_append]
     have v4 : (((P1 ++ P2) ++ P3) ++ P4).length = P1.length + P2.length + P3.length + P4.length := by simp only [List.length_append]
     have v5 : ((((P1 ++ P2) ++ P3) ++ P4) ++ P5).length = P1.length + P2.length + P3.length + P4.length + P5.length := by simp only [List.length_append]
     simp only [go_sem,zaa,Nat.reduceAdd,Nat.reduceSub,Nat.reduceMul,Int.reduceToNat,reduceCtorEq,↓reduceIte,Int.reducePow,Nat.reducePow,Int.reduceMod,Nat.reduceLeDiff,Int.reduceLE,Int.reduceNe,Int.reduceEq,Nat.reduceEqDiff,Nat.reduceLT,Nat.reduceBEq,ty,SputW,putS,textS,chkWS,hle,hL,hx,hc,zax,h0]
     refine awp_unr 6 ?_
     simp only [go_sem,zaa,Nat.reduceAdd,Nat.reduceSub,Nat.reduceMul,Int.reduceToNat,reduceCtorEq,↓reduceIte,Int.reducePow,Nat.reducePow,Int.reduceMod,Nat.reduceLeDiff,Int.reduceLE,Int.reduceNe,Int.reduceEq,Nat.reduceEqDiff,Nat.reduceLT,Nat.reduceBEq,ty,SputW,putS,hle,r1,r2,r3,r4,r5,hP1',hP2',hP3',hP4',hP5',v2,v3,v4,v5,fillS,List.take_length,List.nil_append,unr_go,unK_normal,unK_exit,unK_ret,Int.reduceAdd,Int.reduceSub,Int.reduceLT,decide_true,decide_false,Int.cast_ofNat_Int,slot,gd0,gd1,gd2,gd3,gd4,List.length_cons,List.length_nil]
     repeat (refine And.intro (by omega) ?_)
     refine zfg ⟨fun m σ => ∃ (i : Nat) (acc : List UInt8),m = l.length - i ∧ i ≤ l.length ∧ acc = ((((P1 ++ P2) ++ P3) ++ P4) ++ P5) ++ (l.take i).flatMap zay ∧
       σ = ⟨[.agg [.w (.int .i64 Z),.w (.int .i64 L),.w (.int .i64 M),.w (.int .i64 D),.sg 6 (l.map wsA) f],.rf 4 5 0 0,.sg 1 [] true,.w (.int .i64 0),.w (.int .i64 0),.ms 5 1 0 acc.length,.junk,.junk,.w (.int .i64 i),.junk,.junk,.junk,.junk,.junk,.junk,.junk,.junk,.junk,.junk,.junk,.junk,.junk,.junk,.junk,.junk,.junk,.junk,.junk,.junk,.junk,.junk,.junk,.junk,.junk,.junk,.junk,.junk,.junk,.junk,.junk,.junk,.junk,.junk,.junk,.junk,.junk,.junk,.junk,.junk,.junk,.junk,.junk,.junk,.junk,.junk,.junk,.junk,.junk,.junk,.junk,.junk,.junk,.junk,.junk,.junk,.junk,.junk,.junk,.junk,.junk,.junk,.junk,.junk,.junk,.junk,.junk,.junk,.junk,.junk,.junk,.junk,.junk,.junk],[(4,.g 5 [.agg [.w (.int .i64 Z),.w (.int .i64 L),.w (.int .i64 M),.w (.int .i64 D),.sg 6 (l.map wsA) f]]),(5,.b acc)],6⟩,?_,?_⟩
     · refine ⟨_,_,zaj [0,1,2,3,4,748] rfl rfl rfl ?_ ?_,0,_,rfl,by omega,rfl,rfl⟩
       · simp only [ssT,zar,zas,setSlot,gOf,AV.ren,renL,Blk.ren,Ax.look,Ax.put,reduceCtorEq,↓reduceIte,Nat.reduceEqDiff,Nat.reduceLT,Nat.reduceAdd,List.length_append,List.length_cons,List.length_nil,Option.some.injEq,v5]; try simp
       · simp only [ssT,zar,zas,setSlot,gOf,AV.ren,renL,Blk.ren,Ax.look,Ax.put,reduceCtorEq,↓reduceIte,Nat.reduceEqDiff,Nat.reduceLT,Nat.reduceAdd,List.length_append,List.length_cons,List.length_nil,Option.some.injEq]; try simp
     · rintro m σ ⟨i,acc,rfl,hi,hacc,rfl⟩
       have hal : acc.length ≤ 50 + 130 * 256 := by
         have := layW_length (l.take i) (fun r hr => b6 r (List.mem_of_mem_take hr))
         rw [hacc,List.length_append,v5]
         rw [List.length_take] at this
         omega
       by_cases hil : i < l.length
       · have d2 : decide ((i : Int) < l.length) = true := decide_eq_true (by omega)
         have e1 : ((i : Int) + 1 + 9223372036854775808) % 18446744073709551616 - 9223372036854775808 = ((i + 1 : Nat) : Int) := by omega
         have hs1 := zck l i hil
         have hsn := layW_snoc l i hil
         have hok := b6 _ (List.getElem_mem hil)
         obtain ⟨r,hr⟩ : ∃ r,l[i] = r := ⟨_,rfl⟩
         rw [hr] at hs1 hsn hok
         obtain ⟨s,k,c,t,a,b⟩ := r
         have hs1 : slot (l.map wsA) i = .agg [.w (.int .i64 s),.str k,.w (.int .i64 c),.w (.int .i64 t),.w (.int .i64 a),.w (.int .i64 b)] := hs1
         obtain ⟨g1,g2,g3,g4,g5,g6⟩ := hok
         simp only at g1 g2 g3 g4 g5 g6
         have q1 : k.length ≤ 1000000 := by omega
         have u1 : -9223372036854775808 ≤ s ∧ s ≤ 9223372036854775807 := by omega
         have u2 : -9223372036854775808 ≤ c ∧ c ≤ 9223372036854775807 := by omega
         have u3 : -9223372036854775808 ≤ t ∧ t ≤ 9223372036854775807 := by omega
         have u4 : -9223372036854775808 ≤ a ∧ a ≤ 9223372036854775807 := by omega
         have u5 : -9223372036854775808 ≤ b ∧ b ≤ 9223372036854775807 := by omega
         have y0 := textL_length k (by omega)
         have y1 := zak s u1
         have y2 := zak c u2
         have y3 := zak t u3
         have y4 := zak a u4
         have y5 := zak b u5
         have hlr : zay ⟨s,k,c,t,a,b⟩ = ((((zfh k ++ pqW s) ++ pqW c) ++ pqW t) ++ pqW a) ++ pqW b := rfl
         generalize hK : zfh k = K at *
         generalize hA1 : pqW s = A1 at *
         generalize hA2 : pqW c = A2 at *
         generalize hA3 : pqW t = A3 at *
         generalize hA4 : pqW a = A4 at *
         generalize hA5 : pqW b = A5 at *
         have hA1' : putU (zz s).toNat = A1 := hA1
         have hA2' : putU (zz c).toNat = A2 := hA2
         have hA3' : putU (zz t).toNat = A3 := hA3
         have hA4' : putU (zz a).toNat = A4 := hA4
         have hA5' : putU (zz b).toNat = A5 := hA5
         have w0 : (acc ++ K).length = acc.length + K.length := List.length_append
         have w1 : ((acc ++ K) ++ A1).length = acc.length + K.length + A1.length := by simp only [List.length_append]
         have w2 : (((acc ++ K) ++ A1) ++ A2).length = acc.length + K.length + A1.length + A2.length := by simp only [List.length_append]
         have w3 : ((((acc ++ K) ++ A1) ++ A2) ++ A3).length = acc.length + K.length + A1.length + A2.length + A3.length := by simp only [List.length_append]
         have w4 : (((((acc ++ K) ++ A1) ++ A2) ++ A3) ++ A4).length = acc.length + K.length + A1.length + A2.length + A3.length + A4.length := by simp only [List.length_append]
         have w5 : ((((((acc ++ K) ++ A1) ++ A2) ++ A3) ++ A4) ++ A5).length = acc.length + K.length + A1.length + A2.length + A3.length + A4.length + A5.length := by simp only [List.length_append]
         have hnew : ((((((acc ++ K) ++ A1) ++ A2) ++ A3) ++ A4) ++ A5) = ((((P1 ++ P2) ++ P3) ++ P4) ++ P5) ++ (l.take (i + 1)).flatMap zay := by
           rw [hsn,hlr,hacc]; simp only [List.append_assoc]
         simp only [go_sem,zaa,Nat.reduceAdd,Nat.reduceSub,Nat.reduceMul,Int.reduceToNat,reduceCtorEq,↓reduceIte,Int.reducePow,Nat.reducePow,Int.reduceMod,Nat.reduceLeDiff,Int.reduceLE,Int.reduceNe,Int.reduceEq,Nat.reduceEqDiff,Nat.reduceLT,Nat.reduceBEq,ty,SputW,putS,textS,hle,d2,hs1,q1,hK,w0,Int.toNat_natCast,List.take_length]
         repeat (refine And.intro (by omega) ?_)
         refine awp_unr 6 ?_
         simp only [go_sem,zaa,Nat.reduceAdd,Nat.reduceSub,Nat.reduceMul,Int.reduceToNat,reduceCtorEq,↓reduceIte,Int.reducePow,Nat.reducePow,Int.reduceMod,Nat.reduceLeDiff,Int.reduceLE,Int.reduceNe,Int.reduceEq,Nat.reduceEqDiff,Nat.reduceLT,Nat.reduceBEq,ty,SputW,putS,hle,e1,u1,u2,u3,u4,u5,hA1',hA2',hA3',hA4',hA5',w0,w1,w2,w3,w4,w5,fillS,List.take_length,unr_go,unK_normal,unK_exit,unK_ret,Int.reduceAdd,Int.reduceSub,Int.reduceLT,decide_true,decide_false,Int.cast_ofNat_Int,slot,gd0,gd1,gd2,gd3,gd4,List.length_cons,List.length_nil]
         repeat (refine And.intro (by omega) ?_)
         refine ⟨l.length - (i + 1),_,by omega,zaj [0,1,2,3,4,814] rfl rfl rfl ?_ ?_,i + 1,_,rfl,by omega,hnew,rfl⟩
         · simp only [ssT,zar,zas,setSlot,gOf,AV.ren,renL,Blk.ren,Ax.look,Ax.put,reduceCtorEq,↓reduceIte,Nat.reduceEqDiff,Nat.reduceLT,Nat.reduceAdd,List.length_append,List.length_cons,List.length_nil,Option.some.injEq,w5]; try simp
         · simp only [ssT,zar,zas,setSlot,gOf,AV.ren,renL,Blk.ren,Ax.look,Ax.put,reduceCtorEq,↓reduceIte,Nat.reduceEqDiff,Nat.reduceLT,Nat.reduceAdd,List.length_append,List.length_cons,List.length_nil,Option.some.injEq]; try simp
       · have d2 : decide ((i : Int) < l.length) = false := decide_eq_false (by omega)
         have hii : l.take i = l := List.take_of_length_le (by omega)
         rw [hii] at hacc
         rw [hlay,hlh]
         simp only [go_sem,zaa,Nat.reduceAdd,Nat.reduceSub,Nat.reduceMul,Int.reduceToNat,reduceCtorEq,↓reduceIte,Int.reducePow,Nat.reducePow,Int.reduceMod,Nat.reduceLeDiff,Int.reduceLE,Int.reduceNe,Int.reduceEq,Nat.reduceEqDiff,Nat.reduceLT,Nat.reduceBEq,ty,SputW,hle,d2]
         refine ⟨_,Weak.refl _,?_⟩
         simp only [go_sem,zaa,Nat.reduceAdd,Nat.reduceSub,Nat.reduceMul,Int.reduceToNat,reduceCtorEq,↓reduceIte,Int.reducePow,Nat.reducePow,Int.reduceMod,Nat.reduceLeDiff,Int.reduceLE,Int.reduceNe,Int.reduceEq,Nat.reduceEqDiff,Nat.reduceLT,Nat.reduceBEq,ty,SputW]
         exact fz_ends 2 3 (by decide) rfl rfl rfl rfl hacc.symm rfl
   · have hpv : putW Z L M D l = [] := if_neg h0
     have d0 : decide (chW Z L M D l = 0) = false := decide_eq_false h0
     rw [hpv]
     simp only [go_sem,zaa,Nat.reduceAdd,Nat.reduceSub,Nat.reduceMul,Int.reduceToNat,reduceCtorEq,↓reduceIte,Int.reducePow,Nat.reducePow,Int.reduceMod,Nat.reduceLeDiff,Int.reduceLE,Int.reduceNe,Int.reduceEq,Nat.reduceEqDiff,Nat.reduceLT,Nat.reduceBEq,ty,SputW,chkWS,hle,hL,hx,hc,zax,d0]
     exact nil_ends 2 3 (by decide) rfl rfl rfl rfl
 · exact hp.elim
end
end Go.Proofs.Ythjceeimbohajaa
namespace Go.Proofs.Ythjceeimbohajaa
namespace Ax
theorem getElem_slot (ys : List AV) (j : Nat) (h : j < ys.length) : ys[j] = slot ys j := by
 rw [zcc]; simp [h]
theorem weak_nilB {sl : List AV} {H : Heap} {nx : Nat} (id0 k j s : Nat) (ys : List AV) (hl0 : look H id0 = some (.g k [.agg ys])) (hj : j < ys.length) (hn : nilV (slot ys j)) (hs : 0 < s) : Weak ⟨sl,H,nx⟩ ⟨sl,put (put H id0 (.g k [.agg (setSlot ys j (.ms nx s 0 0))])) nx (.g s []),nx + 1⟩ := by
 rintro w0 E B a w ⟨loc,hB,hr⟩
 have hf : loc.m nx = .free := hr.fresh nx (Nat.le_refl _)
 have hlow : id0 < nx := hr.low id0 _ hl0
 have hM : ∀ c,Mut (loc.set nx .nil) c → Mut loc c := by
   rintro c (h | ⟨k,h⟩)
   · exact .inl h
   · by_cases hk : k = nx
     · subst hk; rw [Loc.set_same] at h; cases h
     · rw [Loc.set_other _ _ hk] at h; exact .inr ⟨k,h⟩
 have hE : Ext (fun _ => False) w loc w (loc.set nx .nil) :=
   ⟨Nat.le_refl _,fun id h _ => Loc.set_other _ _ (fun e => h (e ▸ hf)),fun _ _ h => h.elim,fun c _ hm => ⟨rfl,fun h => hm (hM c h)⟩,fun _ _ _ _ => rfl,fun _ cur _ fz h => ⟨cur,fz,h,rfl⟩⟩
 have hset : ∀ {k c},(loc.set nx .nil).m k = .here c → loc.m k = .here c := by
   intro k c h
   by_cases hk : k = nx
   · subst hk; rw [Loc.set_same] at h; cases h
   · rwa [Loc.set_other _ _ hk] at h
 refine ⟨loc.set nx .nil,⟨hB.1,hB.2.1,fun k hk => ?_⟩,⟨hr.size,fun t => (hr.slots t).ext hE,?_,⟨hr.env.os,hr.env.tape,hr.env.output,hr.env.size,hr.env.same,fun i j b h1 h2 => hr.env.inj i j b (hset h1) (hset h2),fun i b h1 => hr.env.lies i b (hset h1),hr.env.bad⟩,?_,hr.defers,?_⟩⟩
 · have hne : k ≠ nx := by
     rintro rfl
     rcases hB.2.2 k hk with h | ⟨h,_⟩ <;> rw [hf] at h <;> cases h
   rw [Loc.set_other _ _ hne]; exact hB.2.2 k hk
 · intro id c hl
   simp only at hl
   rw [zao] at hl
   split at hl
   · rename_i e; subst e
     injection hl with hl; subst hl
     unfold BlkR
     rw [Loc.set_same]; exact ⟨⟨hs,by simp⟩,rfl⟩
   · rename_i e
     rw [zao] at hl
     split at hl
     · rename_i e0; subst e0
       injection hl with hl; subst hl
       have h0 := hr.heap _ _ hl0
       unfold BlkR at h0 ⊢
       rw [Loc.set_other _ _ (Ne.symm e)]
       split at h0
       · trivial
       · exact h0.elim
       · exact absurd h0.2 (by simp [Blk.len])
       · obtain ⟨⟨hk0,hok⟩,hL⟩ := h0
         obtain ⟨cur,e1,fz,hc,hfz,hone,hfl,hcells⟩ := hL.lies rfl
         have e3 : (Blk.g k [AV.agg ys]).flat = ys := by simp [Blk.flat,AV.leaves]
         have e4 : (Blk.g k [AV.agg (setSlot ys j (.ms nx s 0 0))]).flat = setSlot ys j (.ms nx s 0 0) := by simp [Blk.flat,AV.leaves]
         rw [e3] at hfl
         have hcell : ∀ (t : Nat) (h : t < ys.length) (h' : t < cur.size),(slot ys t).leaf = true ∧ R w loc (slot ys t) cur[t] := by
           intro t h h'
           have := hcells t (by rw [e3]; exact h) h'
           have e5 : (Blk.g k [AV.agg ys]).flat[t]'(by rw [e3]; exact h) = slot ys t := by
             rw [← getElem_slot ys t h]; simp [e3]
           rw [e5] at this; exact this
         refine ⟨⟨hk0,?_⟩,Lies.mkC ⟨cur,e1,fz,hc,hfz,hone,by rw [e4,zan]; exact hfl,?_⟩⟩
         · intro x hx
           obtain rfl := List.mem_singleton.1 hx
           have := hok (.agg ys) (List.mem_singleton.2 rfl)
           simpa [AV.leaves,zan] using this
         · intro t h h'
           have ht : t < ys.length := by rw [e4,zan] at h; exact h
           have e5 : (Blk.g k [AV.agg (setSlot ys j (.ms nx s 0 0))]).flat[t] = slot (setSlot ys j (.ms nx s 0 0)) t := by
             rw [← getElem_slot _ t (by rw [zan]; exact ht)]; simp [e4]
           rw [e5]
           by_cases htj : j = t
           · subst htj
             rw [zbp hj]
             obtain ⟨a',he⟩ := nilV_R hn (hcell j hj h').2
             refine ⟨rfl,?_⟩
             rw [he]
             refine .ms _ _ _ _ _ ?_
             unfold Owns
             rw [Loc.set_same]
             exact ⟨rfl,a',rfl⟩
           · rw [zbj htj]
             exact ⟨(hcell t ht h').1,(hcell t ht h').2.ext hE⟩
     · rename_i e2
       by_cases hfr : loc.m id = .free
       · exact BlkR.free (by rw [Loc.set_other _ _ (Ne.symm e)]; exact hfr)
       · exact (hr.heap id c hl).ext hE (fun h => h) hfr
 · intro id hid
   simp only at hid
   rw [Loc.set_other _ _ (by omega)]; exact hr.fresh id (by simp only; omega)
 · intro id c hl
   simp only at hl
   rw [zao] at hl
   split at hl
   · simp only; omega
   · rw [zao] at hl
     split at hl
     · simp only; omega
     · have := hr.low id c hl
       simp only at this ⊢; omega
theorem weak_fgC {sl : List AV} {H : Heap} {nx : Nat} (id s i id0 : Nat) (zs : List AV) (b0 : Blk) (hl : look H id = some (.g s zs)) (hcl : closedL zs = true) (h0 : look H id0 = some b0) (hi0 : id0 ∈ (slot sl i).ids) (hin : id ∈ b0.idsB) : Weak ⟨sl,H,nx⟩ ⟨fgL id s zs sl,fgH id s zs H,nx⟩ := by
 rintro w0 E B a w ⟨loc,hB,hr⟩
 have h1 := zdr _ _ (hr.slots i) hi0
 have h2 : loc.m id ≠ .free := by
   obtain ⟨hok,⟨_,e⟩ | ⟨c,hc,hlies⟩⟩ := hr.heap.get h0 h1
   · rw [idsB_nil e] at hin; simp at hin
   · exact lies_live hlies id hin
 obtain ⟨h3,h4⟩ := rel_fg hB hr h2 (hr.heap id _ hl) hcl
 exact ⟨_,h3,h4⟩
end Ax
end Go.Proofs.Ythjceeimbohajaa
namespace Go.Proofs.Ythjceeimbohajaa
open Ax
def own35S : zap
 | [.agg [.w (.int .i64 Z),.w (.int .i64 L),.w (.int .i64 M),.w (.int .i64 D),.sg 6 xs f]],[] => ⟨xs.length ≤ 1000000 ∧ ∃ l : List WS,xs = l.map wsA,.agg [.w (.int .i64 Z),.w (.int .i64 L),.w (.int .i64 M),.w (.int .i64 D),.sg 6 xs false],[]⟩
 | _,_ => zbv
def own35Pl : Plan := fun id => match id with
 | 5 => some []
 | _ => none
section
set_option maxRecDepth 100000
set_option maxHeartbeats 4000000 in
theorem own35_sound : zaz Try.prog 8 own35S := by
 refine fn_soundF (S := noS) (T := ty) (pl := own35Pl) zbi ty_ok zcf Try.func8 (c := Try.f8.body.getD .skip) (by kernel_rfl) (by kernel_rfl) (fun xs pins hp _ => ?_)
 unfold own35S at hp ⊢
 split at hp
 · rename_i Z L M D xs f _
   obtain ⟨hL,l,rfl⟩ := hp
   rw [List.length_map] at hL
   have hle : (l.map wsA).length = l.length := by simp
   have ht : top = 4294967296 := rfl
   refine ⟨by simp,?_⟩
   unfold Try.f8
   simp only [go_sem,zac,Nat.reduceAdd,Nat.reduceSub,Nat.reduceMul,Int.reduceToNat,reduceCtorEq,↓reduceIte,Int.reducePow,Nat.reducePow,Int.reduceMod,Nat.reduceLeDiff,Int.reduceLE,Int.reduceNe,Int.reduceEq,Nat.reduceEqDiff,Nat.reduceLT,Nat.reduceBEq,List.map_cons,List.map_nil,List.toList_toArray,Array.toList_append,Option.toArray_some,Option.toArray_none,Bool.and_self,ty,noS,own35Pl,hle,fillS]
   refine awpF_loopW ⟨fun m σ => ∃ i : Nat,m = l.length - i ∧ i ≤ l.length ∧
     σ = ⟨[.agg [.w (.int .i64 Z),.w (.int .i64 L),.w (.int .i64 M),.w (.int .i64 D),.sg 6 (l.map wsA) f],.rf 4 5 0 0,.rf 5 5 0 0,.rf 6 5 0 0,.w (.int .i64 i),.junk,.junk,.junk,.junk,.junk,.junk,.junk,.junk,.junk,.junk,.junk,.junk,.junk,.junk,.junk,.junk,.junk,.junk,.junk,.junk,.junk,.junk,.junk,.junk,.junk,.junk,.junk],[(4,.g 5 [.agg [.w (.int .i64 Z),.w (.int .i64 L),.w (.int .i64 M),.w (.int .i64 D),.sg 6 (l.map wsA) f]]),(5,.g 5 [.agg [.w (.int .i64 0),.w (.int .i64 0),.w (.int .i64 0),.w (.int .i64 0),.sg 6 [] true]]),(6,.g 5 [.agg [.w (.int .i64 Z),.w (.int .i64 L),.w (.int .i64 M),.w (.int .i64 D),.ms 7 6 0 i]]),(7,.g 6 ((l.take i).map wsA))],8⟩,?_,?_⟩
   · refine ⟨_,_,(weak_nilB 92 5 4 6 [.w (.int .i64 Z),.w (.int .i64 L),.w (.int .i64 M),.w (.int .i64 D),.sg 6 [] true] rfl (by simp) (by exact trivial) (by decide)).trans (zaj [0,1,2,3,4,12,92,116] rfl rfl rfl ?_ ?_),0,rfl,by omega,rfl⟩
     · simp only [ssT,zar,zas,setSlot,gOf,AV.ren,renL,Blk.ren,Ax.look,Ax.put,reduceCtorEq,↓reduceIte,Nat.reduceEqDiff,Nat.reduceLT,Nat.reduceAdd,List.length_append,List.length_cons,List.length_nil,Option.some.injEq]; try simp
     · simp only [ssT,zar,zas,setSlot,gOf,AV.ren,renL,Blk.ren,Ax.look,Ax.put,reduceCtorEq,↓reduceIte,Nat.reduceEqDiff,Nat.reduceLT,Nat.reduceAdd,List.length_append,List.length_cons,List.length_nil,Option.some.injEq]; try simp [renL]
   · rintro m σ ⟨i,rfl,hi,rfl⟩
     have hml : ((l.take i).map wsA).length = i := by simp; omega
     by_cases hil : i < l.length
     · have d2 : decide ((i : Int) < l.length) = true := decide_eq_true (by omega)
       have e1 : ((i : Int) + 1 + 9223372036854775808) % 18446744073709551616 - 9223372036854775808 = ((i + 1 : Nat) : Int) := by omega
       have hs1 := zck l i hil
       have htk : l.take (i + 1) = l.take i ++ [l[i]] := List.take_succ_eq_append_getElem hil
       obtain ⟨r,hr⟩ : ∃ r,l[i] = r := ⟨_,rfl⟩
       rw [hr] at hs1 htk
       obtain ⟨s,k,c,t,a,b⟩ := r
       have hs1 : slot (l.map wsA) i = .agg [.w (.int .i64 s),.str k,.w (.int .i64 c),.w (.int .i64 t),.w (.int .i64 a),.w (.int .i64 b)] := hs1
       have hat : (l.take i).map wsA ++ [.agg [.w (.int .i64 s),.str k,.w (.int .i64 c),.w (.int .i64 t),.w (.int .i64 a),.w (.int .i64 b)]] = (l.take (i + 1)).map wsA := by rw [htk,List.map_append]; rfl
       simp only [go_sem,zac,Nat.reduceAdd,Nat.reduceSub,Nat.reduceMul,Int.reduceToNat,reduceCtorEq,↓reduceIte,Int.reducePow,Nat.reducePow,Int.reduceMod,Nat.reduceLeDiff,Int.reduceLE,Int.reduceNe,Int.reduceEq,Nat.reduceEqDiff,Nat.reduceLT,Nat.reduceBEq,List.map_cons,List.map_nil,List.toList_toArray,Array.toList_append,Option.toArray_some,Option.toArray_none,Bool.and_self,ty,noS,own35Pl,hle,hml,d2,hs1,e1,Int.toNat_natCast,ids_ws,hat]
       repeat (refine And.intro (by first | omega | decide) ?_)
       refine ⟨l.length - (i + 1),_,by omega,zaj [0,1,2,3,4,5,6,112] rfl rfl rfl ?_ ?_,i + 1,rfl,by omega,rfl⟩
       · simp only [ssT,zar,zas,setSlot,gOf,AV.ren,renL,Blk.ren,Ax.look,Ax.put,reduceCtorEq,↓reduceIte,Nat.reduceEqDiff,Nat.reduceLT,Nat.reduceAdd,List.length_append,List.length_cons,List.length_nil,Option.some.injEq]; try simp
       · simp only [ssT,zar,zas,setSlot,gOf,AV.ren,renL,Blk.ren,Ax.look,Ax.put,reduceCtorEq,↓reduceIte,Nat.reduceEqDiff,Nat.reduceLT,Nat.reduceAdd,List.length_append,List.length_cons,List.length_nil,Option.some.injEq,ren_ws]; try simp
     · have d2 : decide ((i : Int) < l.length) = false := decide_eq_false (by omega)
       have hii : l.take i = l := List.take_of_length_le (by omega)
       rw [hii] at hml ⊢
       have hdle : decide (0 + i ≤ (l.map wsA).length) = true := decide_eq_true (by omega)
       have htk : (l.map wsA).take i = l.map wsA := List.take_of_length_le (by omega)
       simp only [go_sem,zac,Nat.reduceAdd,Nat.reduceSub,Nat.reduceMul,Int.reduceToNat,reduceCtorEq,↓reduceIte,Int.reducePow,Nat.reducePow,Int.reduceMod,Nat.reduceLeDiff,Int.reduceLE,Int.reduceNe,Int.reduceEq,Nat.reduceEqDiff,Nat.reduceLT,Nat.reduceBEq,List.map_cons,List.map_nil,List.toList_toArray,Array.toList_append,Option.toArray_some,Option.toArray_none,Bool.and_self,ty,noS,own35Pl,hle,d2]
       refine ⟨_,weak_fgC 7 6 3 6 (l.map wsA) _ rfl (zbm l) rfl (by simp [slot,AV.ids]) (by simp [Blk.idsB,Blk.closed,closedL,AV.closed,idsL,AV.ids]),?_⟩
       simp only [fgL,fgH,AV.fg,Blk.fg,Nat.reduceBEq,cond_true,cond_false,hdle,Bool.and_true,beq_self_eq_true,Bool.true_and,List.drop_zero,htk]
       simp only [go_sem,zac,Nat.reduceAdd,Nat.reduceSub,Nat.reduceMul,Int.reduceToNat,reduceCtorEq,↓reduceIte,Int.reducePow,Nat.reducePow,Int.reduceMod,Nat.reduceLeDiff,Int.reduceLE,Int.reduceNe,Int.reduceEq,Nat.reduceEqDiff,Nat.reduceLT,Nat.reduceBEq,List.map_cons,List.map_nil,List.toList_toArray,Array.toList_append,Option.toArray_some,Option.toArray_none,Bool.and_self,ty,noS,own35Pl]
       refine ⟨_,Weak.refl _,?_⟩
       simp only [go_sem,zac,Nat.reduceAdd,Nat.reduceSub,Nat.reduceMul,Int.reduceToNat,reduceCtorEq,↓reduceIte,Int.reducePow,Nat.reducePow,Int.reduceMod,Nat.reduceLeDiff,Int.reduceLE,Int.reduceNe,Int.reduceEq,Nat.reduceEqDiff,Nat.reduceLT,Nat.reduceBEq,List.map_cons,List.map_nil,List.toList_toArray,Array.toList_append,Option.toArray_some,Option.toArray_none,Bool.and_self,ty,noS]
 · exact hp.elim
end
end Go.Proofs.Ythjceeimbohajaa
namespace Go.Proofs.Ythjceeimbohajaa
open Ax
def g0 (bs : List UInt8) (e : Int) : Nat := (rfixN 1 bs e).toNat
def gb1 (bs : List UInt8) (e : Int) := rfixL 1 bs e
def ge1 (bs : List UInt8) (e : Int) := rfixE 1 bs e
def gd (bs : List UInt8) (e : Int) : Int := numN (gb1 bs e) (ge1 bs e)
def gb2 (bs : List UInt8) (e : Int) := numL (gb1 bs e) (ge1 bs e)
def ge2 (bs : List UInt8) (e : Int) := numE (gb1 bs e) (ge1 bs e)
def gt (bs : List UInt8) (e : Int) : Int := numN (gb2 bs e) (ge2 bs e)
def gb3 (bs : List UInt8) (e : Int) := numL (gb2 bs e) (ge2 bs e)
def ge3 (bs : List UInt8) (e : Int) := numE (gb2 bs e) (ge2 bs e)
def gk (bs : List UInt8) (e : Int) : Bool := decide (g0 bs e % 2 = 1)
def gdd (bs : List UInt8) (e : Int) : Bool := decide (g0 bs e / 2 % 2 = 1)
def gkey (bs : List UInt8) (e : Int) : List UInt8 := if gk bs e then rtS' 64 (gb3 bs e) (ge3 bs e) else []
def gb4 (bs : List UInt8) (e : Int) : List UInt8 := if gk bs e then rtL 64 (gb3 bs e) (ge3 bs e) else gb3 bs e
def ge4 (bs : List UInt8) (e : Int) : Int := if gk bs e then rtE 64 (gb3 bs e) (ge3 bs e) else ge3 bs e
def gval (bs : List UInt8) (e : Int) : List UInt8 := if gdd bs e then [] else rtS' 512 (gb4 bs e) (ge4 bs e)
def ge5 (bs : List UInt8) (e : Int) : Int := if gdd bs e then ge4 bs e else rtE 512 (gb4 bs e) (ge4 bs e)
def gerr (bs : List UInt8) (e : Int) : Int :=
 if ge5 bs e ≠ 0 then ge5 bs e else if 4 ≤ g0 bs e ∨ rchk (gd bs e) (gt bs e) (gk bs e) (gkey bs e) (gdd bs e) (gval bs e) ≠ 0 then 4 else 0
theorem tkL_length (n : Int) (bs : List UInt8) : (tkL n bs).length ≤ bs.length := by unfold tkL; split <;> simp
theorem rtL_length (m : Int) (bs : List UInt8) (e : Int) : (rtL m bs e).length ≤ bs.length := by
 unfold rtL
 have h1 := zbe bs e
 split
 · have := tkL_length (numN bs e) (numL bs e); omega
 · exact h1
section
set_option maxRecDepth 100000
set_option maxHeartbeats 2000000 in
end
end Go.Proofs.Ythjceeimbohajaa
namespace Go.Proofs.Ythjceeimbohajaa
open Ax
def wrL1 (b : List UInt8) (e : Int) : List UInt8 := rtL 64 b e
def wrE1 (b : List UInt8) (e : Int) : Int := rtE 64 b e
def wrL2 (b : List UInt8) (e : Int) : List UInt8 := numL (wrL1 b e) (wrE1 b e)
def wrE2 (b : List UInt8) (e : Int) : Int := numE (wrL1 b e) (wrE1 b e)
def wrL3 (b : List UInt8) (e : Int) : List UInt8 := numL (wrL2 b e) (wrE2 b e)
def wrE3 (b : List UInt8) (e : Int) : Int := numE (wrL2 b e) (wrE2 b e)
def wrL4 (b : List UInt8) (e : Int) : List UInt8 := numL (wrL3 b e) (wrE3 b e)
def wrE4 (b : List UInt8) (e : Int) : Int := numE (wrL3 b e) (wrE3 b e)
def wrL5 (b : List UInt8) (e : Int) : List UInt8 := numL (wrL4 b e) (wrE4 b e)
def wrE5 (b : List UInt8) (e : Int) : Int := numE (wrL4 b e) (wrE4 b e)
def wrL6 (b : List UInt8) (e : Int) : List UInt8 := numL (wrL5 b e) (wrE5 b e)
def wrE6 (b : List UInt8) (e : Int) : Int := numE (wrL5 b e) (wrE5 b e)
def wrV (b : List UInt8) (e : Int) : WS := ⟨numN (wrL1 b e) (wrE1 b e),rtS' 64 b e,numN (wrL2 b e) (wrE2 b e),numN (wrL3 b e) (wrE3 b e),numN (wrL4 b e) (wrE4 b e),numN (wrL5 b e) (wrE5 b e)⟩
def rdW : Nat → List UInt8 → Int → List WS
 | 0,_,_ => []
 | n + 1,b,e => wrV b e :: rdW n (wrL6 b e) (wrE6 b e)
def rdWL : Nat → List UInt8 → Int → List UInt8
 | 0,b,_ => b
 | n + 1,b,e => rdWL n (wrL6 b e) (wrE6 b e)
def rdWE : Nat → List UInt8 → Int → Int
 | 0,_,e => e
 | n + 1,b,e => rdWE n (wrL6 b e) (wrE6 b e)
def rgW : Nat → List UInt8 → Int → List WS
 | 0,_,_ => []
 | n + 1,b,e => if e = 0 then wrV b e :: rgW n (wrL6 b e) (wrE6 b e) else []
theorem wrL_length (b : List UInt8) (e : Int) : (wrL1 b e).length ≤ b.length ∧ (wrL2 b e).length ≤ b.length ∧ (wrL3 b e).length ≤ b.length ∧ (wrL4 b e).length ≤ b.length ∧ (wrL5 b e).length ≤ b.length ∧ (wrL6 b e).length ≤ b.length := by
 have h1 : (wrL1 b e).length ≤ b.length := rtL_length 64 b e
 have h2 : (wrL2 b e).length ≤ (wrL1 b e).length := zbe _ _
 have h3 : (wrL3 b e).length ≤ (wrL2 b e).length := zbe _ _
 have h4 : (wrL4 b e).length ≤ (wrL3 b e).length := zbe _ _
 have h5 : (wrL5 b e).length ≤ (wrL4 b e).length := zbe _ _
 have h6 : (wrL6 b e).length ≤ (wrL5 b e).length := zbe _ _
 omega
def hwL1 (b : List UInt8) : List UInt8 := numL b 0
def hwE1 (b : List UInt8) : Int := numE b 0
def hwL2 (b : List UInt8) : List UInt8 := numL (hwL1 b) (hwE1 b)
def hwE2 (b : List UInt8) : Int := numE (hwL1 b) (hwE1 b)
def hwL3 (b : List UInt8) : List UInt8 := numL (hwL2 b) (hwE2 b)
def hwE3 (b : List UInt8) : Int := numE (hwL2 b) (hwE2 b)
def hwL4 (b : List UInt8) : List UInt8 := numL (hwL3 b) (hwE3 b)
def hwE4 (b : List UInt8) : Int := numE (hwL3 b) (hwE3 b)
def hwL5 (b : List UInt8) : List UInt8 := numL (hwL4 b) (hwE4 b)
def hwE5 (b : List UInt8) : Int := numE (hwL4 b) (hwE4 b)
def hwZ (b : List UInt8) : Int := numN b 0
def hwL (b : List UInt8) : Int := numN (hwL1 b) (hwE1 b)
def hwM (b : List UInt8) : Int := numN (hwL2 b) (hwE2 b)
def hwD (b : List UInt8) : Int := numN (hwL3 b) (hwE3 b)
def hwN (b : List UInt8) : Int := numN (hwL4 b) (hwE4 b)
theorem hwL_length (b : List UInt8) : (hwL1 b).length ≤ b.length ∧ (hwL2 b).length ≤ b.length ∧ (hwL3 b).length ≤ b.length ∧ (hwL4 b).length ≤ b.length ∧ (hwL5 b).length ≤ b.length := by
 have h1 : (hwL1 b).length ≤ b.length := zbe _ _
 have h2 : (hwL2 b).length ≤ (hwL1 b).length := zbe _ _
 have h3 : (hwL3 b).length ≤ (hwL2 b).length := zbe _ _
 have h4 : (hwL4 b).length ≤ (hwL3 b).length := zbe _ _
 have h5 : (hwL5 b).length ≤ (hwL4 b).length := zbe _ _
 omega
structure WT where
 z : Int
 l : Int
 m : Int
 d : Int
 rs : List WS
def wtX : Option WT → AV
 | some x => .tup [.agg [.w (.int .i64 x.z),.w (.int .i64 x.l),.w (.int .i64 x.m),.w (.int .i64 x.d),.sg 6 (x.rs.map wsA) false],.w (.int .i64 0)]
 | none => .tup [.agg [.w (.int .i64 0),.w (.int .i64 0),.w (.int .i64 0),.w (.int .i64 0),.sg 6 [] true],.w (.int .i64 4)]
def pwK (Z L M D : Int) (l : List WS) (R : List UInt8) (E : Int) (b : List UInt8) : Option WT :=
 if (if E = 0 ∧ 0 < R.length then (4 : Int) else E) = 0 ∧ chW Z L M D l = 0 ∧ putW Z L M D l = b then some ⟨Z,L,M,D,l⟩ else none
def prW (b : List UInt8) : Option WT :=
 if outB (hwN b) 0 256 = true then none else pwK (hwZ b) (hwL b) (hwM b) (hwD b) (rdW (hwN b).toNat (hwL5 b) (hwE5 b)) (rdWL (hwN b).toNat (hwL5 b) (hwE5 b)) (rdWE (hwN b).toNat (hwL5 b) (hwE5 b)) b
def rwK (Z L M D : Int) (l : List WS) (b : List UInt8) : Option WT := if chW Z L M D l = 0 ∧ putW Z L M D l = b then some ⟨Z,L,M,D,l⟩ else none
def rrW (b : List UInt8) : Option WT := rwK (hwZ b) (hwL b) (hwM b) (hwD b) (rgW (min (hwN b) 257).toNat (hwL5 b) (hwE5 b)) b
def getWS : zap
 | [.sb b fb],[] => ⟨b.length ≤ 1000000,wtX (prW b),[]⟩
 | _,_ => zbv
def rgetWS : zap
 | [.sb b fb],[] => ⟨b.length ≤ 1000000,wtX (rrW b),[]⟩
 | _,_ => zbv
theorem rgW_stop (k : Nat) (b : List UInt8) {e : Int} (h : ¬ e = 0) : rgW k b e = [] := by
 cases k with
 | zero => rfl
 | succ k => unfold rgW; rw [if_neg h]
def SgetW (f : FuncId) : Option zap :=
 match f with
 | 34 => some newS
 | 37 => some rtextS'
 | 35 => some numS
 | 38 => some doneS
 | 36 => some outS
 | 7 => some putWS
 | 39 => some beqS
 | _ => none
theorem SgetW_ok : Fns Try.prog SgetW := by
 intro f s h
 unfold SgetW at h
 split at h
 · injection h with h; subst h; exact ⟨⟨_,Try.func34,by kernel_rfl,by kernel_rfl⟩,new_sound⟩
 · injection h with h; subst h; exact ⟨⟨_,Try.func37,by kernel_rfl,by kernel_rfl⟩,mtext_sound⟩
 · injection h with h; subst h; exact ⟨⟨_,Try.func35,by kernel_rfl,by kernel_rfl⟩,num_sound⟩
 · injection h with h; subst h; exact ⟨⟨_,Try.func38,by kernel_rfl,by kernel_rfl⟩,done_sound⟩
 · injection h with h; subst h; exact ⟨⟨_,Try.func36,by kernel_rfl,by kernel_rfl⟩,out_sound⟩
 · injection h with h; subst h; exact ⟨⟨_,Try.func7,by kernel_rfl,by kernel_rfl⟩,putW_sound⟩
 · injection h with h; subst h; exact ⟨⟨_,Try.func39,by kernel_rfl,by kernel_rfl⟩,beq_sound⟩
 · cases h
section
set_option maxRecDepth 100000
set_option maxHeartbeats 32000000 in
theorem getW_sound : zaz Try.prog 10 getWS := by
 refine zco (S := SgetW) (T := ty) zbi ty_ok SgetW_ok Try.func10 (c := Try.f10.body.getD .skip) (by kernel_rfl) (by kernel_rfl) (fun xs pins hp _ => ?_)
 unfold getWS at hp ⊢
 split at hp
 · rename_i b fb _
   have hb : b.length ≤ 1000000 := hp
   have tk : ∀ l : List UInt8,List.take l.length l = l := fun l => List.take_length
   obtain ⟨l1,l2,l3,l4,l5⟩ := hwL_length b
   have l1' : (hwL1 b).length ≤ 1000000 := by omega
   have l2' : (hwL2 b).length ≤ 1000000 := by omega
   have l3' : (hwL3 b).length ≤ 1000000 := by omega
   have l4' : (hwL4 b).length ≤ 1000000 := by omega
   have htop : top = 4294967296 := rfl
   refine ⟨by simp,?_⟩
   have a1 : numL b 0 = hwL1 b := rfl
   have a2 : numE b 0 = hwE1 b := rfl
   have a3 : numL (hwL1 b) (hwE1 b) = hwL2 b := rfl
   have a4 : numE (hwL1 b) (hwE1 b) = hwE2 b := rfl
   have a5 : numL (hwL2 b) (hwE2 b) = hwL3 b := rfl
   have a6 : numE (hwL2 b) (hwE2 b) = hwE3 b := rfl
   have a7 : numL (hwL3 b) (hwE3 b) = hwL4 b := rfl
   have a8 : numE (hwL3 b) (hwE3 b) = hwE4 b := rfl
   have a9 : numL (hwL4 b) (hwE4 b) = hwL5 b := rfl
   have a10 : numE (hwL4 b) (hwE4 b) = hwE5 b := rfl
   have c1 : numN b 0 = hwZ b := rfl
   have c2 : numN (hwL1 b) (hwE1 b) = hwL b := rfl
   have c3 : numN (hwL2 b) (hwE2 b) = hwM b := rfl
   have c4 : numN (hwL3 b) (hwE3 b) = hwD b := rfl
   have c5 : numN (hwL4 b) (hwE4 b) = hwN b := rfl
   have hO : prW b = if outB (hwN b) 0 256 = true then none else pwK (hwZ b) (hwL b) (hwM b) (hwD b) (rdW (hwN b).toNat (hwL5 b) (hwE5 b)) (rdWL (hwN b).toNat (hwL5 b) (hwE5 b)) (rdWE (hwN b).toNat (hwL5 b) (hwE5 b)) b := rfl
   generalize hwZ b = Z at *
   generalize hwL b = L at *
   generalize hwM b = M at *
   generalize hwD b = D at *
   generalize hwN b = N at *
   generalize hwL1 b = H1 at *
   generalize hwL2 b = H2 at *
   generalize hwL3 b = H3 at *
   generalize hwL4 b = H4 at *
   generalize hwL5 b = L0 at *
   generalize hwE1 b = I1 at *
   generalize hwE2 b = I2 at *
   generalize hwE3 b = I3 at *
   generalize hwE4 b = I4 at *
   generalize hwE5 b = E0 at *
   unfold Try.f10
   rw [hO]
   cases hN : outB N 0 256 with
   | true =>
     rw [if_pos rfl]
     simp only [go_sem,zaa,Nat.reduceAdd,Nat.reduceSub,Nat.reduceMul,Int.reduceToNat,reduceCtorEq,↓reduceIte,Int.reducePow,Nat.reducePow,Int.reduceMod,Nat.reduceLeDiff,Int.reduceLE,Int.reduceNe,Int.reduceEq,Nat.reduceEqDiff,Nat.reduceLT,Nat.reduceBEq,ty,SgetW,newS,numS,outS,rd,hb,l1',l2',l3',l4',a1,a2,a3,a4,a5,a6,a7,a8,a9,a10,c1,c2,c3,c4,c5,hN,fillS]
     repeat (refine And.intro (by first | omega | decide) ?_)
     try (refine ⟨_,Weak.refl _,?_⟩)
     try simp only [go_sem,zaa,Nat.reduceAdd,Nat.reduceSub,Nat.reduceMul,Int.reduceToNat,reduceCtorEq,↓reduceIte,Int.reducePow,Nat.reducePow,Int.reduceMod,Nat.reduceLeDiff,Int.reduceLE,Int.reduceNe,Int.reduceEq,Nat.reduceEqDiff,Nat.reduceLT,Nat.reduceBEq,ty,wtX]
   | false =>
     rw [if_neg (by simp)]
     have hN2 := zbd hN
     obtain ⟨K,rfl⟩ := Int.eq_ofNat_of_zero_le hN2.1
     have hK : (K : Int).toNat = K := Int.toNat_natCast K
     rw [hK]
     simp only [go_sem,zaa,Nat.reduceAdd,Nat.reduceSub,Nat.reduceMul,Int.reduceToNat,reduceCtorEq,↓reduceIte,Int.reducePow,Nat.reducePow,Int.reduceMod,Nat.reduceLeDiff,Int.reduceLE,Int.reduceNe,Int.reduceEq,Nat.reduceEqDiff,Nat.reduceLT,Nat.reduceBEq,ty,SgetW,newS,numS,outS,rd,hb,l1',l2',l3',l4',a1,a2,a3,a4,a5,a6,a7,a8,a9,a10,c1,c2,c3,c4,c5,hN,fillS]
     refine zfg ⟨fun mm σ => ∃ (acc : List WS) (bs : List UInt8) (E : Int) (k : Nat),mm = k ∧ bs.length ≤ b.length ∧ acc.length + k = K ∧ rdW K L0 E0 = acc ++ rdW k bs E ∧ rdWL K L0 E0 = rdWL k bs E ∧ rdWE K L0 E0 = rdWE k bs E ∧
       σ = ⟨[.sb b fb,.junk,.rf 4 5 0 0,.w (.int .i64 0),.rf 5 2 0 0,.rf 6 5 0 0,.w (.int .i64 K),.junk,.junk,.junk,.junk,.junk,.junk,.junk,.junk,.junk,.junk,.junk,.junk,.junk,.junk,.junk,.junk,.junk,.junk,.junk,.junk,.junk,.junk,.junk,.w (.int .i64 K),.w (.int .i64 acc.length),.junk,.junk,.junk,.junk,.junk,.junk,.junk,.junk,.junk,.junk,.junk,.junk,.junk,.junk,.junk,.junk,.junk,.junk,.junk,.junk,.junk,.junk,.junk,.junk,.junk,.junk,.junk,.junk,.junk,.junk,.junk,.junk,.junk,.junk,.junk,.junk,.junk,.junk,.junk,.junk,.junk,.junk,.junk,.junk,.junk,.junk],[(4,.g 5 [.agg [.w (.int .i64 0),.w (.int .i64 0),.w (.int .i64 0),.w (.int .i64 0),.sg 6 [] true]]),(5,.g 2 [.agg [.sb bs false,.w (.int .i64 E)]]),(6,.g 5 [.agg [.w (.int .i64 Z),.w (.int .i64 L),.w (.int .i64 M),.w (.int .i64 D),.ms 7 6 0 acc.length]]),(7,.g 6 (acc.map wsA))],8⟩,?_,?_⟩
     · refine ⟨_,_,(weak_nilB 52 5 4 6 [.w (.int .i64 Z),.w (.int .i64 L),.w (.int .i64 M),.w (.int .i64 D),.sg 6 [] true] rfl (by simp) (by exact trivial) (by decide)).trans (zaj [0,1,2,3,4,28,52,252] rfl rfl rfl ?_ ?_),[],L0,E0,K,rfl,l5,by simp,rfl,rfl,rfl,rfl⟩
       · simp only [ssT,zar,zas,setSlot,gOf,AV.ren,renL,Blk.ren,Ax.look,Ax.put,reduceCtorEq,↓reduceIte,Nat.reduceEqDiff,Nat.reduceLT,Nat.reduceAdd,List.length_append,List.length_cons,List.length_nil,Option.some.injEq]; try simp
       · simp only [ssT,zar,zas,setSlot,gOf,AV.ren,renL,Blk.ren,Ax.look,Ax.put,reduceCtorEq,↓reduceIte,Nat.reduceEqDiff,Nat.reduceLT,Nat.reduceAdd,List.length_append,List.length_cons,List.length_nil,Option.some.injEq]; try simp [renL]
     · rintro m' σ ⟨acc,bs,E,k,rfl,hbs,hn,hI,hJ,hH,rfl⟩
       have hbs1 : bs.length ≤ 1000000 := by omega
       have hal : (acc.map wsA).length = acc.length := by simp
       cases m' with
       | zero =>
         have d3 : decide ((acc.length : Int) < K) = false := decide_eq_false (by omega)
         have hI : rdW K L0 E0 = acc := by rw [hI]; simp [rdW]
         have hJ : rdWL K L0 E0 = bs := hJ
         have hH : rdWE K L0 E0 = E := hH
         rw [hI,hJ,hH]
         have hdle : decide (0 + acc.length ≤ (acc.map wsA).length) = true := decide_eq_true (by omega)
         have htk : (acc.map wsA).take acc.length = acc.map wsA := List.take_of_length_le (by omega)
         have hc : coe ty 31 (.sg 6 (acc.map wsA) false) = .sg 6 (acc.map wsA) false := by cases acc <;> rfl
         have hex : ∃ q : List WS,acc.map wsA = q.map wsA := ⟨acc,rfl⟩
         have hLm : acc.length ≤ 9223372036854775807 := by omega
         obtain ⟨C,hC⟩ : ∃ C,chW Z L M D acc = C := ⟨_,rfl⟩
         obtain ⟨W,hW⟩ : ∃ W,putW Z L M D acc = W := ⟨_,rfl⟩
         obtain ⟨G,hG⟩ : ∃ G,(if E = 0 ∧ 0 < bs.length then (4 : Int) else E) = G := ⟨_,rfl⟩
         have hcs : (wtX (pwK Z L M D acc bs E b) = .tup [.agg [.w (.int .i64 Z),.w (.int .i64 L),.w (.int .i64 M),.w (.int .i64 D),.sg 6 (acc.map wsA) false],.w (.int .i64 0)] ∧ decide (G = 0) = true ∧ decide (C = 0) = true ∧ decide (W = b) = true) ∨ (wtX (pwK Z L M D acc bs E b) = .tup [.agg [.w (.int .i64 0),.w (.int .i64 0),.w (.int .i64 0),.w (.int .i64 0),.sg 6 [] true],.w (.int .i64 4)] ∧ decide (G = 0) = false) ∨ (wtX (pwK Z L M D acc bs E b) = .tup [.agg [.w (.int .i64 0),.w (.int .i64 0),.w (.int .i64 0),.w (.int .i64 0),.sg 6 [] true],.w (.int .i64 4)] ∧ decide (G = 0) = true ∧ decide (C = 0) = false) ∨ (wtX (pwK Z L M D acc bs E b) = .tup [.agg [.w (.int .i64 0),.w (.int .i64 0),.w (.int .i64 0),.w (.int .i64 0),.sg 6 [] true],.w (.int .i64 4)] ∧ decide (G = 0) = true ∧ decide (C = 0) = true ∧ decide (W = b) = false) := by
           subst hG hC hW
           unfold pwK
           by_cases h1 : (if E = 0 ∧ 0 < bs.length then (4 : Int) else E) = 0
           · by_cases h2 : chW Z L M D acc = 0
             · by_cases h3 : putW Z L M D acc = b
               · rw [if_pos ⟨h1,h2,h3⟩]; exact .inl ⟨rfl,decide_eq_true h1,decide_eq_true h2,decide_eq_true h3⟩
               · rw [if_neg (fun h => h3 h.2.2)]; exact .inr (.inr (.inr ⟨rfl,decide_eq_true h1,decide_eq_true h2,decide_eq_false h3⟩))
             · rw [if_neg (fun h => h2 h.2.1)]; exact .inr (.inr (.inl ⟨rfl,decide_eq_true h1,decide_eq_false h2⟩))
           · rw [if_neg (fun h => h1 h.1)]; exact .inr (.inl ⟨rfl,decide_eq_false h1⟩)
         simp only [go_sem,zaa,Nat.reduceAdd,Nat.reduceSub,Nat.reduceMul,Int.reduceToNat,reduceCtorEq,↓reduceIte,Int.reducePow,Nat.reducePow,Int.reduceMod,Nat.reduceLeDiff,Int.reduceLE,Int.reduceNe,Int.reduceEq,Nat.reduceEqDiff,Nat.reduceLT,Nat.reduceBEq,ty,SgetW,d3]
         refine ⟨_,weak_fgC 7 6 5 6 (acc.map wsA) _ rfl (zbm acc) rfl (by simp [slot,AV.ids]) (by simp [Blk.idsB,Blk.closed,closedL,AV.closed,idsL,AV.ids]),?_⟩
         simp only [fgL,fgH,AV.fg,Blk.fg,Nat.reduceBEq,cond_true,cond_false,hdle,Bool.and_true,beq_self_eq_true,Bool.true_and,List.drop_zero,htk]
         rcases hcs with Y | Y | Y | Y
         all_goals
           rw [Y.1]
           simp only [go_sem,zaa,Nat.reduceAdd,Nat.reduceSub,Nat.reduceMul,Int.reduceToNat,reduceCtorEq,↓reduceIte,Int.reducePow,Nat.reducePow,Int.reduceMod,Nat.reduceLeDiff,Int.reduceLE,Int.reduceNe,Int.reduceEq,Nat.reduceEqDiff,Nat.reduceLT,Nat.reduceBEq,ty,SgetW,putWS,doneS,beqS,rd,hal,hLm,hex,hc,zax,hG,hC,hW,Y.2,zbm]
           try (refine ⟨_,Weak.refl _,?_⟩)
           try simp only [go_sem,zaa,Nat.reduceAdd,Nat.reduceSub,Nat.reduceMul,Int.reduceToNat,reduceCtorEq,↓reduceIte,Int.reducePow,Nat.reducePow,Int.reduceMod,Nat.reduceLeDiff,Int.reduceLE,Int.reduceNe,Int.reduceEq,Nat.reduceEqDiff,Nat.reduceLT,Nat.reduceBEq,ty]
       | succ k =>
         have d3 : decide ((acc.length : Int) < K) = true := decide_eq_true (by omega)
         have hI : rdW K L0 E0 = acc ++ (wrV bs E :: rdW k (wrL6 bs E) (wrE6 bs E)) := hI
         have hJ : rdWL K L0 E0 = rdWL k (wrL6 bs E) (wrE6 bs E) := hJ
         have hH : rdWE K L0 E0 = rdWE k (wrL6 bs E) (wrE6 bs E) := hH
         have e1 : ((acc.length : Int) + 1 + 9223372036854775808) % 18446744073709551616 - 9223372036854775808 = ((acc.length + 1 : Nat) : Int) := by omega
         obtain ⟨g1,g2,g3,g4,g5,g6⟩ := wrL_length bs E
         have i1 : rtL 64 bs E = wrL1 bs E := rfl
         have i2 : rtE 64 bs E = wrE1 bs E := rfl
         have i3 : numL (wrL1 bs E) (wrE1 bs E) = wrL2 bs E := rfl
         have i4 : numE (wrL1 bs E) (wrE1 bs E) = wrE2 bs E := rfl
         have i5 : numL (wrL2 bs E) (wrE2 bs E) = wrL3 bs E := rfl
         have i6 : numE (wrL2 bs E) (wrE2 bs E) = wrE3 bs E := rfl
         have i7 : numL (wrL3 bs E) (wrE3 bs E) = wrL4 bs E := rfl
         have i8 : numE (wrL3 bs E) (wrE3 bs E) = wrE4 bs E := rfl
         have i9 : numL (wrL4 bs E) (wrE4 bs E) = wrL5 bs E := rfl
         have i10 : numE (wrL4 bs E) (wrE4 bs E) = wrE5 bs E := rfl
         have i11 : numL (wrL5 bs E) (wrE5 bs E) = wrL6 bs E := rfl
         have i12 : numE (wrL5 bs E) (wrE5 bs E) = wrE6 bs E := rfl
         have j1 : rtS' 64 bs E = (wrV bs E).k := rfl
         have j2 : numN (wrL1 bs E) (wrE1 bs E) = (wrV bs E).s := rfl
         have j3 : numN (wrL2 bs E) (wrE2 bs E) = (wrV bs E).c := rfl
         have j4 : numN (wrL3 bs E) (wrE3 bs E) = (wrV bs E).t := rfl
         have j5 : numN (wrL4 bs E) (wrE4 bs E) = (wrV bs E).a := rfl
         have j6 : numN (wrL5 bs E) (wrE5 bs E) = (wrV bs E).b := rfl
         have k1 : (wrL1 bs E).length ≤ 1000000 := by omega
         have k2 : (wrL2 bs E).length ≤ 1000000 := by omega
         have k3 : (wrL3 bs E).length ≤ 1000000 := by omega
         have k4 : (wrL4 bs E).length ≤ 1000000 := by omega
         have k5 : (wrL5 bs E).length ≤ 1000000 := by omega
         obtain ⟨r,hr⟩ : ∃ r,wrV bs E = r := ⟨_,rfl⟩
         rw [hr] at hI j1 j2 j3 j4 j5 j6
         obtain ⟨rs,rk,rc,rt,ra,rb⟩ := r
         simp only at j1 j2 j3 j4 j5 j6
         have hat : (acc.map wsA) ++ [.agg [.w (.int .i64 rs),.str rk,.w (.int .i64 rc),.w (.int .i64 rt),.w (.int .i64 ra),.w (.int .i64 rb)]] = (acc ++ [(⟨rs,rk,rc,rt,ra,rb⟩ : WS)]).map wsA := by rw [List.map_append]; rfl
         have hI : rdW K L0 E0 = (acc ++ [(⟨rs,rk,rc,rt,ra,rb⟩ : WS)]) ++ rdW k (wrL6 bs E) (wrE6 bs E) := by rw [hI]; simp
         have hal2 : (acc ++ [(⟨rs,rk,rc,rt,ra,rb⟩ : WS)]).length = acc.length + 1 := by simp
         generalize wrL1 bs E = A1 at *
         generalize wrE1 bs E = B1 at *
         generalize wrL2 bs E = A2 at *
         generalize wrE2 bs E = B2 at *
         generalize wrL3 bs E = A3 at *
         generalize wrE3 bs E = B3 at *
         generalize wrL4 bs E = A4 at *
         generalize wrE4 bs E = B4 at *
         generalize wrL5 bs E = A5 at *
         generalize wrE5 bs E = B5 at *
         generalize wrL6 bs E = A6 at *
         generalize wrE6 bs E = B6 at *
         simp only [go_sem,zaa,Nat.reduceAdd,Nat.reduceSub,Nat.reduceMul,Int.reduceToNat,reduceCtorEq,↓reduceIte,Int.reducePow,Nat.reducePow,Int.reduceMod,Nat.reduceLeDiff,Int.reduceLE,Int.reduceNe,Int.reduceEq,Nat.reduceEqDiff,Nat.reduceLT,Nat.reduceBEq,ty,SgetW,rtextS',numS,rd,hbs1,hal,d3,e1,i1,i2,i3,i4,i5,i6,i7,i8,i9,i10,i11,i12,j1,j2,j3,j4,j5,j6,k1,k2,k3,k4,k5,hat,ids_ws,fillS,Int.toNat_natCast]
         repeat (refine And.intro (by first | omega | decide) ?_)
         refine ⟨k,_,by omega,zaj [0,1,2,3,4,5,6,248] rfl rfl rfl ?_ ?_,acc ++ [(⟨rs,rk,rc,rt,ra,rb⟩ : WS)],A6,B6,k,rfl,by omega,by omega,hI,hJ,hH,rfl⟩
         · simp only [ssT,zar,zas,setSlot,gOf,AV.ren,renL,Blk.ren,Ax.look,Ax.put,reduceCtorEq,↓reduceIte,Nat.reduceEqDiff,Nat.reduceLT,Nat.reduceAdd,List.length_append,List.length_cons,List.length_nil,Option.some.injEq,hal2]; try simp
         · simp only [ssT,zar,zas,setSlot,gOf,AV.ren,renL,Blk.ren,Ax.look,Ax.put,reduceCtorEq,↓reduceIte,Nat.reduceEqDiff,Nat.reduceLT,Nat.reduceAdd,List.length_append,List.length_cons,List.length_nil,Option.some.injEq,hal2,ren_ws]; try simp
 · exact hp.elim
end
end Go.Proofs.Ythjceeimbohajaa
namespace Go.Proofs.Ythjceeimbohajaa
open Ax
def rtextPl : Plan := fun id => match id with
 | 8 => some [(5,10),(6,10),(8,10)]
 | _ => none
section
set_option maxRecDepth 100000
theorem rrtext_sound : zaz Try.prog 41 rrtextS := by
 refine fn_soundF (S := S31) (T := tyC) (pl := rtextPl) zbi tyC_ok S31_ok Try.func41 (c := Try.f41.body.getD .skip) (by kernel_rfl) (by kernel_rfl) (fun xs pins hp _ => ?_)
 unfold rrtextS at hp ⊢
 split at hp
 · rename_i bs f k e k' m _
   obtain ⟨rfl,rfl,hlen⟩ := hp
   refine ⟨by simp,?_⟩
   have em : (if (0 : Int) > m then (0 : Int) else m) = max m 0 := by split <;> omega
   have em2 : (if m > (0 : Int) then m else (0 : Int)) = max m 0 := by split <;> omega
   obtain ⟨B,hB⟩ : ∃ B,numL bs e = B := ⟨_,rfl⟩
   obtain ⟨N,hN⟩ : ∃ N,numN bs e = N := ⟨_,rfl⟩
   obtain ⟨E,hE⟩ : ∃ E,numE bs e = E := ⟨_,rfl⟩
   have hBl := zbe bs e
   rw [hB] at hBl
   have hok : rtOk m bs e ↔ E = 0 ∧ 0 ≤ N ∧ N ≤ max m 0 := by unfold rtOk; rw [hE,hN]
   unfold Try.f41
   by_cases hE0 : E = 0
   · have d1 : decide (E = 0) = true := decide_eq_true hE0
     by_cases hN0 : N < 0
     · have d2 : decide (N < 0) = true := decide_eq_true hN0
       have hr : ¬ rtOk m bs e := fun h => by have := hok.1 h; omega
       simp only [go_sem,coe,zac,Nat.reduceAdd,Nat.reduceSub,Nat.reduceMul,Int.reduceToNat,reduceCtorEq,↓reduceIte,Int.reducePow,Nat.reducePow,Int.reduceMod,Nat.reduceLeDiff,Int.reduceLE,Int.reduceNe,Int.reduceEq,Nat.reduceEqDiff,Nat.reduceLT,Nat.reduceBEq,List.map_cons,List.map_nil,List.toList_toArray,Array.toList_append,Option.toArray_some,Option.toArray_none,Bool.and_self,tyC,zdk,ty,S31,rtextPl,rrnumS,hlen,rrd,hB,hN,hE,d1,d2,em,em2,rtL,rtE,rtS',hr,if_false,hE0,ne_eq,not_true_eq_false]
       refine ⟨_,Weak.refl _,?_⟩
       simp only [go_sem,coe,zac,Nat.reduceAdd,Nat.reduceSub,Nat.reduceMul,Int.reduceToNat,reduceCtorEq,↓reduceIte,Int.reducePow,Nat.reducePow,Int.reduceMod,Nat.reduceLeDiff,Int.reduceLE,Int.reduceNe,Int.reduceEq,Nat.reduceEqDiff,Nat.reduceLT,Nat.reduceBEq,List.map_cons,List.map_nil,List.toList_toArray,Array.toList_append,Option.toArray_some,Option.toArray_none,Bool.and_self,tyC,zdk,ty]
     · have d2 : decide (N < 0) = false := decide_eq_false hN0
       by_cases hNm : max m 0 < N
       · have d3 : decide (max m 0 < N) = true := decide_eq_true hNm
         have hr : ¬ rtOk m bs e := fun h => by have := hok.1 h; omega
         simp only [go_sem,coe,zac,Nat.reduceAdd,Nat.reduceSub,Nat.reduceMul,Int.reduceToNat,reduceCtorEq,↓reduceIte,Int.reducePow,Nat.reducePow,Int.reduceMod,Nat.reduceLeDiff,Int.reduceLE,Int.reduceNe,Int.reduceEq,Nat.reduceEqDiff,Nat.reduceLT,Nat.reduceBEq,List.map_cons,List.map_nil,List.toList_toArray,Array.toList_append,Option.toArray_some,Option.toArray_none,Bool.and_self,tyC,zdk,ty,S31,rtextPl,rrnumS,hlen,rrd,hB,hN,hE,d1,d2,d3,em,em2,rtL,rtE,rtS',hr,if_false,hE0,ne_eq,not_true_eq_false]
         refine ⟨_,Weak.refl _,?_⟩
         simp only [go_sem,coe,zac,Nat.reduceAdd,Nat.reduceSub,Nat.reduceMul,Int.reduceToNat,reduceCtorEq,↓reduceIte,Int.reducePow,Nat.reducePow,Int.reduceMod,Nat.reduceLeDiff,Int.reduceLE,Int.reduceNe,Int.reduceEq,Nat.reduceEqDiff,Nat.reduceLT,Nat.reduceBEq,List.map_cons,List.map_nil,List.toList_toArray,Array.toList_append,Option.toArray_some,Option.toArray_none,Bool.and_self,tyC,zdk,ty]
       · have d3 : decide (max m 0 < N) = false := decide_eq_false hNm
         have hr : rtOk m bs e := hok.2 ⟨hE0,by omega,by omega⟩
         obtain ⟨M,rfl⟩ := Int.eq_ofNat_of_zero_le (show 0 ≤ N by omega)
         have e1 : List.take (B.length - M) (List.drop M B) = B.drop M := List.take_of_length_le (by simp)
         by_cases hl : (B.length : Int) < (M : Int)
         · have d4 : decide ((B.length : Int) < (M : Int)) = true := decide_eq_true hl
           simp only [go_sem,coe,zac,Nat.reduceAdd,Nat.reduceSub,Nat.reduceMul,Int.reduceToNat,reduceCtorEq,↓reduceIte,Int.reducePow,Nat.reducePow,Int.reduceMod,Nat.reduceLeDiff,Int.reduceLE,Int.reduceNe,Int.reduceEq,Nat.reduceEqDiff,Nat.reduceLT,Nat.reduceBEq,List.map_cons,List.map_nil,List.toList_toArray,Array.toList_append,Option.toArray_some,Option.toArray_none,Bool.and_self,tyC,zdk,ty,S31,rtextPl,rrnumS,hlen,rrd,hB,hN,hE,d1,d2,d3,d4,em,em2,rtL,rtE,rtS',hr,if_true,hE0,ne_eq,not_true_eq_false,if_false,tkB,tkL,tkE,hl]
           refine ⟨_,Weak.refl _,?_⟩
           simp only [go_sem,coe,zac,Nat.reduceAdd,Nat.reduceSub,Nat.reduceMul,Int.reduceToNat,reduceCtorEq,↓reduceIte,Int.reducePow,Nat.reducePow,Int.reduceMod,Nat.reduceLeDiff,Int.reduceLE,Int.reduceNe,Int.reduceEq,Nat.reduceEqDiff,Nat.reduceLT,Nat.reduceBEq,List.map_cons,List.map_nil,List.toList_toArray,Array.toList_append,Option.toArray_some,Option.toArray_none,Bool.and_self,tyC,zdk,ty]
         · have d4 : decide ((B.length : Int) < (M : Int)) = false := decide_eq_false hl
           simp only [go_sem,coe,zac,Nat.reduceAdd,Nat.reduceSub,Nat.reduceMul,Int.reduceToNat,reduceCtorEq,↓reduceIte,Int.reducePow,Nat.reducePow,Int.reduceMod,Nat.reduceLeDiff,Int.reduceLE,Int.reduceNe,Int.reduceEq,Nat.reduceEqDiff,Nat.reduceLT,Nat.reduceBEq,List.map_cons,List.map_nil,List.toList_toArray,Array.toList_append,Option.toArray_some,Option.toArray_none,Bool.and_self,tyC,zdk,ty,S31,rtextPl,rrnumS,hlen,rrd,hB,hN,hE,d1,d2,d3,d4,em,em2,rtL,rtE,rtS',hr,if_true,hE0,ne_eq,not_true_eq_false,if_false,tkB,tkL,tkE,if_neg hl,e1,Int.toNat_natCast,Nat.sub_zero]
           refine ⟨by omega,by omega,?_⟩
           refine ⟨_,Weak.refl _,?_⟩
           simp only [go_sem,coe,zac,Nat.reduceAdd,Nat.reduceSub,Nat.reduceMul,Int.reduceToNat,reduceCtorEq,↓reduceIte,Int.reducePow,Nat.reducePow,Int.reduceMod,Nat.reduceLeDiff,Int.reduceLE,Int.reduceNe,Int.reduceEq,Nat.reduceEqDiff,Nat.reduceLT,Nat.reduceBEq,List.map_cons,List.map_nil,List.toList_toArray,Array.toList_append,Option.toArray_some,Option.toArray_none,Bool.and_self,tyC,zdk,ty]
   · have d1 : decide (E = 0) = false := decide_eq_false hE0
     have hr : ¬ rtOk m bs e := fun h => hE0 (hok.1 h).1
     simp only [go_sem,coe,zac,Nat.reduceAdd,Nat.reduceSub,Nat.reduceMul,Int.reduceToNat,reduceCtorEq,↓reduceIte,Int.reducePow,Nat.reducePow,Int.reduceMod,Nat.reduceLeDiff,Int.reduceLE,Int.reduceNe,Int.reduceEq,Nat.reduceEqDiff,Nat.reduceLT,Nat.reduceBEq,List.map_cons,List.map_nil,List.toList_toArray,Array.toList_append,Option.toArray_some,Option.toArray_none,Bool.and_self,tyC,zdk,ty,S31,rtextPl,rrnumS,hlen,rrd,hB,hN,hE,d1,em,em2,rtL,rtE,rtS',hr,if_false,ne_eq,hE0,not_false_eq_true,if_true]
     refine ⟨_,Weak.refl _,?_⟩
     simp only [go_sem,coe,zac,Nat.reduceAdd,Nat.reduceSub,Nat.reduceMul,Int.reduceToNat,reduceCtorEq,↓reduceIte,Int.reducePow,Nat.reducePow,Int.reduceMod,Nat.reduceLeDiff,Int.reduceLE,Int.reduceNe,Int.reduceEq,Nat.reduceEqDiff,Nat.reduceLT,Nat.reduceBEq,List.map_cons,List.map_nil,List.toList_toArray,Array.toList_append,Option.toArray_some,Option.toArray_none,Bool.and_self,tyC,zdk,ty]
 · exact hp.elim
end
end Go.Proofs.Ythjceeimbohajaa
namespace Go.Proofs.Ythjceeimbohajaa
open Ax
def SrgetW (f : FuncId) : Option zap :=
 match f with
 | 41 => some rrtextS
 | 40 => some rrnumS
 | 9 => some putWS
 | _ => none
theorem SrgetW_ok : Fns Try.prog SrgetW := by
 intro f s h
 unfold SrgetW at h
 split at h
 · injection h with h; subst h; exact ⟨⟨_,Try.func41,by kernel_rfl,by kernel_rfl⟩,rrtext_sound⟩
 · injection h with h; subst h; exact ⟨⟨_,Try.func40,by kernel_rfl,by kernel_rfl⟩,rrnum_sound⟩
 · injection h with h; subst h; exact ⟨⟨_,Try.func9,by kernel_rfl,by kernel_rfl⟩,rputW_sound⟩
 · cases h
section
set_option maxRecDepth 100000
set_option maxHeartbeats 32000000 in
theorem rgetW_sound : zaz Try.prog 11 rgetWS := by
 refine zco (S := SrgetW) (T := ty) zbi ty_ok SrgetW_ok Try.func11 (c := Try.f11.body.getD .skip) (by kernel_rfl) (by kernel_rfl) (fun xs pins hp _ => ?_)
 unfold rgetWS at hp ⊢
 split at hp
 · rename_i b fb _
   have hb : b.length ≤ 1000000 := hp
   have tk : ∀ l : List UInt8,List.take l.length l = l := fun l => List.take_length
   obtain ⟨l1,l2,l3,l4,l5⟩ := hwL_length b
   have l1' : (hwL1 b).length ≤ 1000000 := by omega
   have l2' : (hwL2 b).length ≤ 1000000 := by omega
   have l3' : (hwL3 b).length ≤ 1000000 := by omega
   have l4' : (hwL4 b).length ≤ 1000000 := by omega
   have htop : top = 4294967296 := rfl
   refine ⟨by simp,?_⟩
   have a1 : numL b 0 = hwL1 b := rfl
   have a2 : numE b 0 = hwE1 b := rfl
   have a3 : numL (hwL1 b) (hwE1 b) = hwL2 b := rfl
   have a4 : numE (hwL1 b) (hwE1 b) = hwE2 b := rfl
   have a5 : numL (hwL2 b) (hwE2 b) = hwL3 b := rfl
   have a6 : numE (hwL2 b) (hwE2 b) = hwE3 b := rfl
   have a7 : numL (hwL3 b) (hwE3 b) = hwL4 b := rfl
   have a8 : numE (hwL3 b) (hwE3 b) = hwE4 b := rfl
   have a9 : numL (hwL4 b) (hwE4 b) = hwL5 b := rfl
   have a10 : numE (hwL4 b) (hwE4 b) = hwE5 b := rfl
   have c1 : numN b 0 = hwZ b := rfl
   have c2 : numN (hwL1 b) (hwE1 b) = hwL b := rfl
   have c3 : numN (hwL2 b) (hwE2 b) = hwM b := rfl
   have c4 : numN (hwL3 b) (hwE3 b) = hwD b := rfl
   have c5 : numN (hwL4 b) (hwE4 b) = hwN b := rfl
   have hO : rrW b = rwK (hwZ b) (hwL b) (hwM b) (hwD b) (rgW (min (hwN b) 257).toNat (hwL5 b) (hwE5 b)) b := rfl
   generalize hwZ b = Z at *
   generalize hwL b = L at *
   generalize hwM b = M at *
   generalize hwD b = D at *
   generalize hwN b = N at *
   generalize hwL1 b = H1 at *
   generalize hwL2 b = H2 at *
   generalize hwL3 b = H3 at *
   generalize hwL4 b = H4 at *
   generalize hwL5 b = L0 at *
   generalize hwE1 b = I1 at *
   generalize hwE2 b = I2 at *
   generalize hwE3 b = I3 at *
   generalize hwE4 b = I4 at *
   generalize hwE5 b = E0 at *
   unfold Try.f11
   rw [hO]
   obtain ⟨K,hK⟩ : ∃ K,(min N 257).toNat = K := ⟨_,rfl⟩
   rw [hK]
   simp only [go_sem,zaa,Nat.reduceAdd,Nat.reduceSub,Nat.reduceMul,Int.reduceToNat,reduceCtorEq,↓reduceIte,Int.reducePow,Nat.reducePow,Int.reduceMod,Nat.reduceLeDiff,Int.reduceLE,Int.reduceNe,Int.reduceEq,Nat.reduceEqDiff,Nat.reduceLT,Nat.reduceBEq,ty,SrgetW,rrnumS,rrd,hb,l1',l2',l3',l4',a1,a2,a3,a4,a5,a6,a7,a8,a9,a10,c1,c2,c3,c4,c5,fillS]
   refine zfg ⟨fun mm σ => ∃ (acc : List WS) (bs : List UInt8) (E : Int) (k : Nat),mm = k ∧ bs.length ≤ b.length ∧ acc.length + k = K ∧ rgW K L0 E0 = acc ++ rgW k bs E ∧
     σ = ⟨[.sb b fb,.junk,.rf 4 5 0 0,.w (.int .i64 0),.rf 5 5 0 0,.w (.int .i64 N),.rf 6 2 0 0,.w (.int .i64 Z),.w (.int .i64 acc.length),.junk,.junk,.junk,.junk,.junk,.junk,.junk,.junk,.junk,.junk,.junk,.junk,.junk,.junk,.junk,.junk,.junk,.junk,.junk,.junk,.junk,.junk,.junk,.junk,.junk,.junk,.junk,.junk,.junk,.junk,.junk,.junk,.junk,.junk,.junk,.junk,.junk,.junk,.junk,.junk,.junk,.junk,.junk,.junk,.junk,.junk,.junk,.junk,.junk,.junk,.junk,.junk,.junk,.junk,.junk,.junk,.junk,.junk,.junk,.junk,.junk,.junk,.junk,.junk,.junk,.junk,.junk,.junk,.junk,.junk,.junk,.junk,.junk,.junk,.junk,.junk,.junk,.junk,.junk,.junk,.junk,.junk,.junk,.junk,.junk,.junk,.junk,.junk,.junk,.junk,.junk,.junk,.junk,.junk,.junk,.junk,.junk,.junk,.junk,.junk,.junk,.junk,.junk,.junk,.junk,.junk],[(4,.g 5 [.agg [.w (.int .i64 0),.w (.int .i64 0),.w (.int .i64 0),.w (.int .i64 0),.sg 6 [] true]]),(5,.g 5 [.agg [.w (.int .i64 Z),.w (.int .i64 L),.w (.int .i64 M),.w (.int .i64 D),.ms 7 6 0 acc.length]]),(6,.g 2 [.agg [.sb bs fb,.w (.int .i64 E)]]),(7,.g 6 (acc.map wsA))],8⟩,?_,?_⟩
   · refine ⟨_,_,(weak_nilB 20 5 4 6 [.w (.int .i64 Z),.w (.int .i64 L),.w (.int .i64 M),.w (.int .i64 D),.sg 6 [] true] rfl (by simp) (by exact trivial) (by decide)).trans (zaj [0,1,2,3,4,20,84,388] rfl rfl rfl ?_ ?_),[],L0,E0,K,rfl,l5,by simp,rfl,rfl⟩
     · simp only [ssT,zar,zas,setSlot,gOf,AV.ren,renL,Blk.ren,Ax.look,Ax.put,reduceCtorEq,↓reduceIte,Nat.reduceEqDiff,Nat.reduceLT,Nat.reduceAdd,List.length_append,List.length_cons,List.length_nil,Option.some.injEq]; try simp
     · simp only [ssT,zar,zas,setSlot,gOf,AV.ren,renL,Blk.ren,Ax.look,Ax.put,reduceCtorEq,↓reduceIte,Nat.reduceEqDiff,Nat.reduceLT,Nat.reduceAdd,List.length_append,List.length_cons,List.length_nil,Option.some.injEq]; try simp [renL]
   · rintro m' σ ⟨acc,bs,E,k0,rfl,hbs,hn,hI,rfl⟩
     have hbs1 : bs.length ≤ 1000000 := by omega
     have hal : (acc.map wsA).length = acc.length := by simp
     obtain ⟨x1,hx1⟩ : ∃ x,decide ((acc.length : Int) < N) = x := ⟨_,rfl⟩
     obtain ⟨x2,hx2⟩ : ∃ x,decide ((acc.length : Int) ≤ 256) = x := ⟨_,rfl⟩
     obtain ⟨x3,hx3⟩ : ∃ x,decide (E = 0) = x := ⟨_,rfl⟩
     by_cases hgo : x1 = true ∧ x2 = true ∧ x3 = true
     · obtain ⟨rfl,rfl,rfl⟩ := hgo
       have f1 := of_decide_eq_true hx1
       have f2 := of_decide_eq_true hx2
       have hz : E = 0 := of_decide_eq_true hx3
       obtain ⟨k,rfl⟩ : ∃ k,m' = k + 1 := ⟨m' - 1,by omega⟩
       have hI : rgW K L0 E0 = acc ++ (wrV bs E :: rgW k (wrL6 bs E) (wrE6 bs E)) := by
           rw [hI]; conv => lhs; unfold rgW
           rw [if_pos hz]
       have e1 : ((acc.length : Int) + 1 + 9223372036854775808) % 18446744073709551616 - 9223372036854775808 = ((acc.length + 1 : Nat) : Int) := by omega
       obtain ⟨g1,g2,g3,g4,g5,g6⟩ := wrL_length bs E
       have i1 : rtL 64 bs E = wrL1 bs E := rfl
       have i2 : rtE 64 bs E = wrE1 bs E := rfl
       have i3 : numL (wrL1 bs E) (wrE1 bs E) = wrL2 bs E := rfl
       have i4 : numE (wrL1 bs E) (wrE1 bs E) = wrE2 bs E := rfl
       have i5 : numL (wrL2 bs E) (wrE2 bs E) = wrL3 bs E := rfl
       have i6 : numE (wrL2 bs E) (wrE2 bs E) = wrE3 bs E := rfl
       have i7 : numL (wrL3 bs E) (wrE3 bs E) = wrL4 bs E := rfl
       have i8 : numE (wrL3 bs E) (wrE3 bs E) = wrE4 bs E := rfl
       have i9 : numL (wrL4 bs E) (wrE4 bs E) = wrL5 bs E := rfl
       have i10 : numE (wrL4 bs E) (wrE4 bs E) = wrE5 bs E := rfl
       have i11 : numL (wrL5 bs E) (wrE5 bs E) = wrL6 bs E := rfl
       have i12 : numE (wrL5 bs E) (wrE5 bs E) = wrE6 bs E := rfl
       have j1 : rtS' 64 bs E = (wrV bs E).k := rfl
       have j2 : numN (wrL1 bs E) (wrE1 bs E) = (wrV bs E).s := rfl
       have j3 : numN (wrL2 bs E) (wrE2 bs E) = (wrV bs E).c := rfl
       have j4 : numN (wrL3 bs E) (wrE3 bs E) = (wrV bs E).t := rfl
       have j5 : numN (wrL4 bs E) (wrE4 bs E) = (wrV bs E).a := rfl
       have j6 : numN (wrL5 bs E) (wrE5 bs E) = (wrV bs E).b := rfl
       have k1 : (wrL1 bs E).length ≤ 1000000 := by omega
       have k2 : (wrL2 bs E).length ≤ 1000000 := by omega
       have k3 : (wrL3 bs E).length ≤ 1000000 := by omega
       have k4 : (wrL4 bs E).length ≤ 1000000 := by omega
       have k5 : (wrL5 bs E).length ≤ 1000000 := by omega
       obtain ⟨r,hr⟩ : ∃ r,wrV bs E = r := ⟨_,rfl⟩
       rw [hr] at hI j1 j2 j3 j4 j5 j6
       obtain ⟨rs,rk,rc,rt,ra,rb⟩ := r
       simp only at j1 j2 j3 j4 j5 j6
       have hat : (acc.map wsA) ++ [.agg [.w (.int .i64 rs),.str rk,.w (.int .i64 rc),.w (.int .i64 rt),.w (.int .i64 ra),.w (.int .i64 rb)]] = (acc ++ [(⟨rs,rk,rc,rt,ra,rb⟩ : WS)]).map wsA := by rw [List.map_append]; rfl
       have hI : rgW K L0 E0 = (acc ++ [(⟨rs,rk,rc,rt,ra,rb⟩ : WS)]) ++ rgW k (wrL6 bs E) (wrE6 bs E) := by rw [hI]; simp
       have hal2 : (acc ++ [(⟨rs,rk,rc,rt,ra,rb⟩ : WS)]).length = acc.length + 1 := by simp
       generalize wrL1 bs E = A1 at *
       generalize wrE1 bs E = B1 at *
       generalize wrL2 bs E = A2 at *
       generalize wrE2 bs E = B2 at *
       generalize wrL3 bs E = A3 at *
       generalize wrE3 bs E = B3 at *
       generalize wrL4 bs E = A4 at *
       generalize wrE4 bs E = B4 at *
       generalize wrL5 bs E = A5 at *
       generalize wrE5 bs E = B5 at *
       generalize wrL6 bs E = A6 at *
       generalize wrE6 bs E = B6 at *
       simp only [go_sem,zaa,Nat.reduceAdd,Nat.reduceSub,Nat.reduceMul,Int.reduceToNat,reduceCtorEq,↓reduceIte,Int.reducePow,Nat.reducePow,Int.reduceMod,Nat.reduceLeDiff,Int.reduceLE,Int.reduceNe,Int.reduceEq,Nat.reduceEqDiff,Nat.reduceLT,Nat.reduceBEq,ty,SrgetW,rrtextS,rrnumS,rrd,hbs1,hal,hx1,hx2,hx3,e1,i1,i2,i3,i4,i5,i6,i7,i8,i9,i10,i11,i12,j1,j2,j3,j4,j5,j6,k1,k2,k3,k4,k5,hat,ids_ws,fillS,Int.toNat_natCast]
       repeat (refine And.intro (by first | omega | decide) ?_)
       refine ⟨k,_,by omega,zaj [0,1,2,3,4,5,6,528] rfl rfl rfl ?_ ?_,acc ++ [(⟨rs,rk,rc,rt,ra,rb⟩ : WS)],A6,B6,k,rfl,by omega,by omega,hI,rfl⟩
       · simp only [ssT,zar,zas,setSlot,gOf,AV.ren,renL,Blk.ren,Ax.look,Ax.put,reduceCtorEq,↓reduceIte,Nat.reduceEqDiff,Nat.reduceLT,Nat.reduceAdd,List.length_append,List.length_cons,List.length_nil,Option.some.injEq,hal2]; try simp
       · simp only [ssT,zar,zas,setSlot,gOf,AV.ren,renL,Blk.ren,Ax.look,Ax.put,reduceCtorEq,↓reduceIte,Nat.reduceEqDiff,Nat.reduceLT,Nat.reduceAdd,List.length_append,List.length_cons,List.length_nil,Option.some.injEq,hal2,ren_ws]; try simp
     · have hst : ¬ E = 0 ∨ m' = 0 := by
         by_cases h2 : E = 0
         · refine .inr ?_
           have e2 : x3 = true := by rw [← hx3]; exact decide_eq_true h2
           rcases Nat.eq_zero_or_pos m' with h | h
           · exact h
           · exact (hgo ⟨by rw [← hx1]; exact decide_eq_true (by omega),by rw [← hx2]; exact decide_eq_true (by omega),e2⟩).elim
         · exact .inl h2
       have hI : rgW K L0 E0 = acc := by
         rcases hst with h | h
         · rw [hI,rgW_stop _ _ h,List.append_nil]
         · subst h; rw [hI]; simp [rgW]
       rw [hI]
       have hdle : decide (0 + acc.length ≤ (acc.map wsA).length) = true := decide_eq_true (by omega)
       have htk : (acc.map wsA).take acc.length = acc.map wsA := List.take_of_length_le (by omega)
       have hc : coe ty 22 (.sg 6 (acc.map wsA) false) = .sg 6 (acc.map wsA) false := by cases acc <;> rfl
       have hex : ∃ q : List WS,acc.map wsA = q.map wsA := ⟨acc,rfl⟩
       have hLm : acc.length ≤ 9223372036854775807 := by omega
       obtain ⟨C,hC⟩ : ∃ C,chW Z L M D acc = C := ⟨_,rfl⟩
       obtain ⟨W,hW⟩ : ∃ W,putW Z L M D acc = W := ⟨_,rfl⟩
       have hcs : (wtX (rwK Z L M D acc b) = .tup [.agg [.w (.int .i64 Z),.w (.int .i64 L),.w (.int .i64 M),.w (.int .i64 D),.sg 6 (acc.map wsA) false],.w (.int .i64 0)] ∧ decide (C = 0) = true ∧ decide (W = b) = true) ∨ (wtX (rwK Z L M D acc b) = .tup [.agg [.w (.int .i64 0),.w (.int .i64 0),.w (.int .i64 0),.w (.int .i64 0),.sg 6 [] true],.w (.int .i64 4)] ∧ decide (C = 0) = false) ∨ (wtX (rwK Z L M D acc b) = .tup [.agg [.w (.int .i64 0),.w (.int .i64 0),.w (.int .i64 0),.w (.int .i64 0),.sg 6 [] true],.w (.int .i64 4)] ∧ decide (C = 0) = true ∧ decide (W = b) = false) := by
         subst hC hW
         unfold rwK
         by_cases h2 : chW Z L M D acc = 0
         · by_cases h3 : putW Z L M D acc = b
           · rw [if_pos ⟨h2,h3⟩]; exact .inl ⟨rfl,decide_eq_true h2,decide_eq_true h3⟩
           · rw [if_neg (fun h => h3 h.2)]; exact .inr (.inr ⟨rfl,decide_eq_true h2,decide_eq_false h3⟩)
         · rw [if_neg (fun h => h2 h.1)]; exact .inr (.inl ⟨rfl,decide_eq_false h2⟩)
       clear hI hst
       cases x1 <;> cases x2 <;> cases x3
       case true.true.true => exact (hgo ⟨rfl,rfl,rfl⟩).elim
       all_goals
         simp only [go_sem,zaa,Nat.reduceAdd,Nat.reduceSub,Nat.reduceMul,Int.reduceToNat,reduceCtorEq,↓reduceIte,Int.reducePow,Nat.reducePow,Int.reduceMod,Nat.reduceLeDiff,Int.reduceLE,Int.reduceNe,Int.reduceEq,Nat.reduceEqDiff,Nat.reduceLT,Nat.reduceBEq,ty,SrgetW,hx1,hx2,hx3]
         refine ⟨_,weak_fgC 7 6 4 5 (acc.map wsA) _ rfl (zbm acc) rfl (by simp [slot,AV.ids]) (by simp [Blk.idsB,Blk.closed,closedL,AV.closed,idsL,AV.ids]),?_⟩
         simp only [fgL,fgH,AV.fg,Blk.fg,Nat.reduceBEq,cond_true,cond_false,hdle,Bool.and_true,beq_self_eq_true,Bool.true_and,List.drop_zero,htk]
         rcases hcs with Y | Y | Y
         all_goals
           rw [Y.1]
           simp only [go_sem,zaa,Nat.reduceAdd,Nat.reduceSub,Nat.reduceMul,Int.reduceToNat,reduceCtorEq,↓reduceIte,Int.reducePow,Nat.reducePow,Int.reduceMod,Nat.reduceLeDiff,Int.reduceLE,Int.reduceNe,Int.reduceEq,Nat.reduceEqDiff,Nat.reduceLT,Nat.reduceBEq,ty,SrgetW,putWS,hal,hLm,hex,hc,zax,hC,hW,Y.2,zbm]
           try (refine ⟨_,Weak.refl _,?_⟩)
           try simp only [go_sem,zaa,Nat.reduceAdd,Nat.reduceSub,Nat.reduceMul,Int.reduceToNat,reduceCtorEq,↓reduceIte,Int.reducePow,Nat.reducePow,Int.reduceMod,Nat.reduceLeDiff,Int.reduceLE,Int.reduceNe,Int.reduceEq,Nat.reduceEqDiff,Nat.reduceLT,Nat.reduceBEq,ty]
 · exact hp.elim
end
end Go.Proofs.Ythjceeimbohajaa
namespace Go.Proofs.Ythjceeimbohajaa
open Ax
def as35S : zap
 | [.sg 6 xs f],[] => ⟨xs.length ≤ 1000000 ∧ ∃ l : List WS,xs = l.map wsA,.sg 6 xs false,[]⟩
 | _,_ => zbv
def back35S : zap
 | [.agg [.w (.int .i64 Z),.w (.int .i64 L),.w (.int .i64 M),.w (.int .i64 D),.sg 6 xs f]],[] => ⟨xs.length ≤ 1000000 ∧ ∃ l : List WS,xs = l.map wsA,.agg [.w (.int .i64 Z),.w (.int .i64 L),.w (.int .i64 M),.w (.int .i64 D),.sg 6 xs false],[]⟩
 | _,_ => zbv
theorem slot_fgLW (id s : Nat) (zs : List AV) : ∀ (sl : List AV) (i : Nat),slot (fgL id s zs sl) i = (slot sl i).fg id s zs
 | [],i => rfl
 | x :: sl,0 => rfl
 | x :: sl,i + 1 => slot_fgLW id s zs sl i
theorem gW_ends {T : zab} {sl : List AV} {H : Heap} {nx id n s : Nat} {ws rs : List AV} {q : Prop} (i : Nat) (h2 : slot sl i = .ms id s 0 n) (hl : Ax.look H id = some (.g s ws)) (hc : closedL ws = true) (hn : n = ws.length) (hr : rs = ws) :
   EndsW T [.tmp i] [] ⟨q,.sg s rs false,[]⟩ .ret ⟨sl,H,nx⟩ := by
 subst hn hr
 have hs : slot (fgL id s rs sl) i = .sg s rs false := by
   rw [slot_fgLW,h2]
   simp [AV.fg]
 refine ⟨_,weak_fg id s i rs hl hc (by rw [h2]; simp [AV.ids]),?_⟩
 simp only [Ax.Ends,Ax.rvals,EndsX,rone,hs,AV.ids,idsL,newIds,upTo,nodup,pinsOf,List.nil_append,AV.ren,renL,and_self]
section
set_option maxRecDepth 100000
set_option maxHeartbeats 4000000 in
theorem as35_sound : zaz Try.prog 43 as35S := by
 refine zco (S := noS) (T := ty) zbi ty_ok zcf Try.func43 (c := Try.f43.body.getD .skip) (by kernel_rfl) (by kernel_rfl) (fun xs pins hp _ => ?_)
 unfold as35S at hp ⊢
 split at hp
 · rename_i xs f _
   obtain ⟨hL,l,rfl⟩ := hp
   rw [List.length_map] at hL
   have hle : (l.map wsA).length = l.length := by simp
   have ht : top = 4294967296 := rfl
   refine ⟨by simp,?_⟩
   unfold Try.f43
   simp only [go_sem,zaa,Nat.reduceAdd,Nat.reduceSub,Nat.reduceMul,Int.reduceToNat,reduceCtorEq,↓reduceIte,Int.reducePow,Nat.reducePow,Int.reduceMod,Nat.reduceLeDiff,Int.reduceLE,Int.reduceNe,Int.reduceEq,Nat.reduceEqDiff,Nat.reduceLT,Nat.reduceBEq,ty,noS,hle]
   refine zfg ⟨fun m σ => ∃ i : Nat,m = l.length - i ∧ i ≤ l.length ∧
       σ = ⟨[.sg 6 (l.map wsA) f,.junk,.sg 1 [] true,.ms 4 6 0 i,.w (.int .i64 i),.junk,.junk,.junk,.junk,.junk,.junk,.junk,.junk,.junk,.junk,.junk,.junk,.junk,.junk],[(4,.g 6 ((l.take i).map wsA))],5⟩,?_,?_⟩
   · refine ⟨_,_,(weak_nil 3 6 (.g 6 []) ⟨by decide,rfl⟩ (by exact trivial)).trans (zaj [0,1,2,3,28] rfl rfl rfl ?_ ?_),0,rfl,by omega,rfl⟩
     · simp only [ssT,zar,zas,setSlot,gOf,AV.ren,renL,Blk.ren,Ax.look,Ax.put,reduceCtorEq,↓reduceIte,Nat.reduceEqDiff,Nat.reduceLT,Nat.reduceAdd,List.length_append,List.length_cons,List.length_nil,Option.some.injEq]; try simp
       try rfl
     · simp only [ssT,zar,zas,setSlot,gOf,AV.ren,renL,Blk.ren,Ax.look,Ax.put,reduceCtorEq,↓reduceIte,Nat.reduceEqDiff,Nat.reduceLT,Nat.reduceAdd,List.length_append,List.length_cons,List.length_nil,Option.some.injEq]; try simp [renL]
   · rintro m σ ⟨i,rfl,hi,rfl⟩
     have e1 : ((i : Int) + 1 + 9223372036854775808) % 18446744073709551616 - 9223372036854775808 = ((i + 1 : Nat) : Int) := by omega
     have hml : ((l.take i).map wsA).length = i := by simp; omega
     by_cases hil : i < l.length
     · have d1 : decide ((i : Int) < l.length) = true := decide_eq_true (by omega)
       have hs1 := zck l i hil
       have htk : l.take (i + 1) = l.take i ++ [l[i]] := List.take_succ_eq_append_getElem hil
       obtain ⟨r,hr⟩ : ∃ r,l[i] = r := ⟨_,rfl⟩
       rw [hr] at hs1 htk
       obtain ⟨s,k,c,t,a,b⟩ := r
       have hs1 : slot (l.map wsA) i = .agg [.w (.int .i64 s),.str k,.w (.int .i64 c),.w (.int .i64 t),.w (.int .i64 a),.w (.int .i64 b)] := hs1
       have hat : (l.take i).map wsA ++ [.agg [.w (.int .i64 s),.str k,.w (.int .i64 c),.w (.int .i64 t),.w (.int .i64 a),.w (.int .i64 b)]] = (l.take (i + 1)).map wsA := by rw [htk,List.map_append]; rfl
       simp only [go_sem,zaa,Nat.reduceAdd,Nat.reduceSub,Nat.reduceMul,Int.reduceToNat,reduceCtorEq,↓reduceIte,Int.reducePow,Nat.reducePow,Int.reduceMod,Nat.reduceLeDiff,Int.reduceLE,Int.reduceNe,Int.reduceEq,Nat.reduceEqDiff,Nat.reduceLT,Nat.reduceBEq,ty,noS,hle,hml,d1,hs1,e1,Int.toNat_natCast,hat]
       repeat (refine And.intro (by first | omega | decide) ?_)
       refine ⟨l.length - (i + 1),_,by omega,zaj [0,1,2,3,85] rfl rfl rfl ?_ ?_,i + 1,rfl,by omega,rfl⟩
       · simp only [ssT,zar,zas,setSlot,gOf,AV.ren,renL,Blk.ren,Ax.look,Ax.put,reduceCtorEq,↓reduceIte,Nat.reduceEqDiff,Nat.reduceLT,Nat.reduceAdd,List.length_append,List.length_cons,List.length_nil,Option.some.injEq]; try simp
       · simp only [ssT,zar,zas,setSlot,gOf,AV.ren,renL,Blk.ren,Ax.look,Ax.put,reduceCtorEq,↓reduceIte,Nat.reduceEqDiff,Nat.reduceLT,Nat.reduceAdd,List.length_append,List.length_cons,List.length_nil,Option.some.injEq,ren_ws]; try simp
     · have d1 : decide ((i : Int) < l.length) = false := decide_eq_false (by omega)
       have hii : l.take i = l := List.take_of_length_le (by omega)
       rw [hii] at hml ⊢
       simp only [go_sem,zaa,Nat.reduceAdd,Nat.reduceSub,Nat.reduceMul,Int.reduceToNat,reduceCtorEq,↓reduceIte,Int.reducePow,Nat.reducePow,Int.reduceMod,Nat.reduceLeDiff,Int.reduceLE,Int.reduceNe,Int.reduceEq,Nat.reduceEqDiff,Nat.reduceLT,Nat.reduceBEq,ty,noS,hle,d1]
       refine ⟨_,Weak.refl _,?_⟩
       simp only [go_sem,zaa,Nat.reduceAdd,Nat.reduceSub,Nat.reduceMul,Int.reduceToNat,reduceCtorEq,↓reduceIte,Int.reducePow,Nat.reducePow,Int.reduceMod,Nat.reduceLeDiff,Int.reduceLE,Int.reduceNe,Int.reduceEq,Nat.reduceEqDiff,Nat.reduceLT,Nat.reduceBEq,ty,noS]
       exact gW_ends 2 rfl rfl (zbm l) hml.symm rfl
 · exact hp.elim
def Sback35 (f : FuncId) : Option zap :=
 match f with
 | 43 => some as35S
 | _ => none
theorem Sback35_ok : Fns Try.prog Sback35 := by
 intro f s h
 unfold Sback35 at h
 split at h
 · injection h with h; subst h; exact ⟨⟨_,Try.func43,by kernel_rfl,by kernel_rfl⟩,as35_sound⟩
 · cases h
set_option maxHeartbeats 4000000 in
theorem back35_sound : zaz Try.prog 13 back35S := by
 refine zat (S := Sback35) (T := tyF) zbi tyF_ok Sback35_ok Try.func13 (c := Try.f13.body.getD .skip) (by kernel_rfl) (by kernel_rfl) (fun xs pins hp _ => ?_)
 unfold back35S at hp ⊢
 split at hp
 · rename_i Z L M D xs f _
   obtain ⟨hL,l,rfl⟩ := hp
   have hx : ∃ k : List WS,l.map wsA = k.map wsA := ⟨l,rfl⟩
   have hcl := zbm l
   have hc : coe (setFlat ty) 31 (.sg 6 (l.map wsA) f) = .sg 6 (l.map wsA) f := by cases l <;> rfl
   refine ⟨by simp,?_⟩
   unfold Try.f13
   simp only [go_sem,zaa,Nat.reduceAdd,Nat.reduceSub,Nat.reduceMul,Int.reduceToNat,reduceCtorEq,↓reduceIte,Int.reducePow,Nat.reducePow,Int.reduceMod,Nat.reduceLeDiff,Int.reduceLE,Int.reduceNe,Int.reduceEq,Nat.reduceEqDiff,Nat.reduceLT,Nat.reduceBEq,tyF,setFlat,ty,Sback35,as35S,hL,hx,hcl,hc]
 · exact hp.elim
theorem eqWS_dec (s : Int) (k : List UInt8) (c t a b s' : Int) (k' : List UInt8) (c' t' a' b' : Int) :
   (decide (s = s') && (decide (k = k') && (decide (c = c') && (decide (t = t') && (decide (a = a') && decide (b = b')))))) = decide ((⟨s,k,c,t,a,b⟩ : WS) = ⟨s',k',c',t',a',b'⟩) := by
 simp only [WS.mk.injEq,Bool.decide_and]
def zfk : zap
 | [.sg 6 xs f,.sg 6 ys g],[] => ⟨xs.length ≤ 9223372036854775807 ∧ ys.length ≤ 9223372036854775807 ∧ (∃ l : List WS,xs = l.map wsA) ∧ ∃ k : List WS,ys = k.map wsA,.w (.bool (decide (xs.map uws = ys.map uws))),[]⟩
 | _,_ => zbv
def same35S : zap
 | [.agg [.w (.int .i64 Z),.w (.int .i64 L),.w (.int .i64 M),.w (.int .i64 D),.sg 6 xs f],.agg [.w (.int .i64 Z'),.w (.int .i64 L'),.w (.int .i64 M'),.w (.int .i64 D'),.sg 6 ys g]],[] => ⟨xs.length ≤ 9223372036854775807 ∧ ys.length ≤ 9223372036854775807 ∧ (∃ l : List WS,xs = l.map wsA) ∧ ∃ k : List WS,ys = k.map wsA,.w (.bool (decide (Z = Z') && (decide (L = L') && (decide (M = M') && (decide (D = D') && decide (xs.map uws = ys.map uws)))))),[]⟩
 | _,_ => zbv
def zbf : Plan := fun id => match id with
 | 6 => some []
 | _ => none
theorem same_lenW {α : Type} {l k : List α} (h : l.length ≠ k.length) : ¬ l = k := fun e => h (by rw [e])
theorem same_dropW {l k : List WS} {i : Nat} (h1 : i < l.length) (h2 : i < k.length) : (l.drop i = k.drop i) = (l[i] = k[i] ∧ l.drop (i + 1) = k.drop (i + 1)) := by
 rw [List.drop_eq_getElem_cons h1,List.drop_eq_getElem_cons h2,List.cons.injEq]
set_option maxHeartbeats 4000000 in
theorem sameR35_sound : zaz Try.prog 42 zfk := by
 refine fn_soundF (S := noS) (T := ty) (pl := zbf) zbi ty_ok zcf Try.func42 (c := Try.f42.body.getD .skip) (by kernel_rfl) (by kernel_rfl) (fun xs pins hp _ => ?_)
 unfold zfk at hp ⊢
 split at hp
 · rename_i xs f ys g _
   obtain ⟨hL,hK,⟨l,rfl⟩,k,rfl⟩ := hp
   rw [List.length_map] at hL hK
   have hle : (l.map wsA).length = l.length := by simp
   have hke : (k.map wsA).length = k.length := by simp
   rw [zax,zax]
   refine ⟨by simp,?_⟩
   unfold Try.f42
   by_cases hn : l.length = k.length
   · have d1 : decide ((l.length : Int) = k.length) = true := decide_eq_true (by omega)
     simp only [go_sem,coe,zac,Nat.reduceAdd,Nat.reduceSub,Nat.reduceMul,Int.reduceToNat,reduceCtorEq,↓reduceIte,Int.reducePow,Nat.reducePow,Int.reduceMod,Nat.reduceLeDiff,Int.reduceLE,Int.reduceNe,Int.reduceEq,Nat.reduceEqDiff,Nat.reduceLT,Nat.reduceBEq,List.map_cons,List.map_nil,List.toList_toArray,Array.toList_append,Option.toArray_some,Option.toArray_none,Bool.and_self,ty,noS,zbf,hle,hke,d1]
     refine awpF_loopW ⟨fun m σ => ∃ i : Nat,m = l.length - i ∧ i ≤ l.length ∧ (l.drop i = k.drop i) = (l = k) ∧
       σ = ⟨[.sg 6 (l.map wsA) f,.sg 6 (k.map wsA) g,.junk,.junk,.junk,.w (.int .i64 i),.junk,.junk,.junk,.junk,.junk,.junk,.junk,.junk,.junk,.junk,.junk,.junk,.junk,.junk,.junk,.junk,.junk,.junk,.junk,.junk],[],4⟩,?_,?_⟩
     · refine ⟨_,_,zaj [0,1,2,3] rfl rfl rfl ?_ ?_,0,rfl,by omega,rfl,rfl⟩
       · simp only [ssT,zar,zas,setSlot,gOf,AV.ren,renL,Blk.ren,Ax.look,Ax.put,reduceCtorEq,↓reduceIte,Nat.reduceEqDiff,Nat.reduceLT,Nat.reduceAdd,List.length_append,List.length_cons,List.length_nil,Option.some.injEq]; try simp
       · simp only [ssT,zar,zas,setSlot,gOf,AV.ren,renL,Blk.ren,Ax.look,Ax.put,reduceCtorEq,↓reduceIte,Nat.reduceEqDiff,Nat.reduceLT,Nat.reduceAdd,List.length_append,List.length_cons,List.length_nil,Option.some.injEq]
     · rintro m σ ⟨i,rfl,hi,hs,rfl⟩
       by_cases hil : i < l.length
       · have d2 : decide ((i : Int) < l.length) = true := decide_eq_true (by omega)
         have e1 : ((i : Int) + 1 + 9223372036854775808) % 18446744073709551616 - 9223372036854775808 = ((i + 1 : Nat) : Int) := by omega
         have hs1 := zck l i hil
         have hs2 := zck k i (by omega)
         have hd := same_dropW hil (show i < k.length by omega)
         rw [hs] at hd
         obtain ⟨a,ha⟩ : ∃ x,l[i] = x := ⟨_,rfl⟩
         obtain ⟨b,hb⟩ : ∃ x,k[i]'(by omega) = x := ⟨_,rfl⟩
         rw [ha] at hs1 hd
         rw [hb] at hs2 hd
         obtain ⟨s1,k1,c1,t1,a1,b1⟩ := a
         obtain ⟨s2,k2,c2,t2,a2,b2⟩ := b
         have hs1 : slot (l.map wsA) i = .agg [.w (.int .i64 s1),.str k1,.w (.int .i64 c1),.w (.int .i64 t1),.w (.int .i64 a1),.w (.int .i64 b1)] := hs1
         have hs2 : slot (k.map wsA) i = .agg [.w (.int .i64 s2),.str k2,.w (.int .i64 c2),.w (.int .i64 t2),.w (.int .i64 a2),.w (.int .i64 b2)] := hs2
         by_cases he : (⟨s1,k1,c1,t1,a1,b1⟩ : WS) = ⟨s2,k2,c2,t2,a2,b2⟩
         · have d3 := decide_eq_true he
           simp only [he,true_and] at hd
           simp only [go_sem,coe,zac,Nat.reduceAdd,Nat.reduceSub,Nat.reduceMul,Int.reduceToNat,reduceCtorEq,↓reduceIte,Int.reducePow,Nat.reducePow,Int.reduceMod,Nat.reduceLeDiff,Int.reduceLE,Int.reduceNe,Int.reduceEq,Nat.reduceEqDiff,Nat.reduceLT,Nat.reduceBEq,List.map_cons,List.map_nil,List.toList_toArray,Array.toList_append,Option.toArray_some,Option.toArray_none,Bool.and_self,ty,noS,zbf,hle,hke,d2,e1,hs1,hs2,eqWS_dec,d3,Int.toNat_natCast]
           repeat (refine And.intro (by omega) ?_)
           refine ⟨l.length - (i + 1),_,by omega,zaj [0,1,2,3] rfl rfl rfl ?_ ?_,i + 1,rfl,by omega,hd.symm,rfl⟩
           · simp only [ssT,zar,zas,setSlot,gOf,AV.ren,renL,Blk.ren,Ax.look,Ax.put,reduceCtorEq,↓reduceIte,Nat.reduceEqDiff,Nat.reduceLT,Nat.reduceAdd,List.length_append,List.length_cons,List.length_nil,Option.some.injEq]
           · simp only [ssT,zar,zas,setSlot,gOf,AV.ren,renL,Blk.ren,Ax.look,Ax.put,reduceCtorEq,↓reduceIte,Nat.reduceEqDiff,Nat.reduceLT,Nat.reduceAdd,List.length_append,List.length_cons,List.length_nil,Option.some.injEq]
         · have d3 := decide_eq_false he
           have hno : decide (l = k) = false := decide_eq_false (by rw [hd]; exact fun h => he h.1)
           rw [hno]
           simp only [go_sem,coe,zac,Nat.reduceAdd,Nat.reduceSub,Nat.reduceMul,Int.reduceToNat,reduceCtorEq,↓reduceIte,Int.reducePow,Nat.reducePow,Int.reduceMod,Nat.reduceLeDiff,Int.reduceLE,Int.reduceNe,Int.reduceEq,Nat.reduceEqDiff,Nat.reduceLT,Nat.reduceBEq,List.map_cons,List.map_nil,List.toList_toArray,Array.toList_append,Option.toArray_some,Option.toArray_none,Bool.and_self,ty,noS,zbf,hle,hke,d2,e1,hs1,hs2,eqWS_dec,d3,Int.toNat_natCast]
           repeat (refine And.intro (by omega) ?_)
           refine ⟨_,Weak.refl _,?_⟩
           simp only [go_sem,coe,zac,Nat.reduceAdd,Nat.reduceSub,Nat.reduceMul,Int.reduceToNat,reduceCtorEq,↓reduceIte,Int.reducePow,Nat.reducePow,Int.reduceMod,Nat.reduceLeDiff,Int.reduceLE,Int.reduceNe,Int.reduceEq,Nat.reduceEqDiff,Nat.reduceLT,Nat.reduceBEq,List.map_cons,List.map_nil,List.toList_toArray,Array.toList_append,Option.toArray_some,Option.toArray_none,Bool.and_self,ty,noS,zbf]
           exact zav 4 rfl
       · have d2 : decide ((i : Int) < l.length) = false := decide_eq_false (by omega)
         have : decide (l = k) = true := by
           refine decide_eq_true ?_
           rw [← hs,List.drop_of_length_le (by omega),List.drop_of_length_le (by omega)]
         rw [this]
         simp only [go_sem,coe,zac,Nat.reduceAdd,Nat.reduceSub,Nat.reduceMul,Int.reduceToNat,reduceCtorEq,↓reduceIte,Int.reducePow,Nat.reducePow,Int.reduceMod,Nat.reduceLeDiff,Int.reduceLE,Int.reduceNe,Int.reduceEq,Nat.reduceEqDiff,Nat.reduceLT,Nat.reduceBEq,List.map_cons,List.map_nil,List.toList_toArray,Array.toList_append,Option.toArray_some,Option.toArray_none,Bool.and_self,ty,noS,zbf,hle,hke,d2]
         refine ⟨_,Weak.refl _,?_⟩
         simp only [go_sem,coe,zac,Nat.reduceAdd,Nat.reduceSub,Nat.reduceMul,Int.reduceToNat,reduceCtorEq,↓reduceIte,Int.reducePow,Nat.reducePow,Int.reduceMod,Nat.reduceLeDiff,Int.reduceLE,Int.reduceNe,Int.reduceEq,Nat.reduceEqDiff,Nat.reduceLT,Nat.reduceBEq,List.map_cons,List.map_nil,List.toList_toArray,Array.toList_append,Option.toArray_some,Option.toArray_none,Bool.and_self,ty,noS,zbf]
         exact zav 4 rfl
   · have d1 : decide ((l.length : Int) = k.length) = false := decide_eq_false (by omega)
     rw [decide_eq_false (same_lenW hn)]
     simp only [go_sem,coe,zac,Nat.reduceAdd,Nat.reduceSub,Nat.reduceMul,Int.reduceToNat,reduceCtorEq,↓reduceIte,Int.reducePow,Nat.reducePow,Int.reduceMod,Nat.reduceLeDiff,Int.reduceLE,Int.reduceNe,Int.reduceEq,Nat.reduceEqDiff,Nat.reduceLT,Nat.reduceBEq,List.map_cons,List.map_nil,List.toList_toArray,Array.toList_append,Option.toArray_some,Option.toArray_none,Bool.and_self,ty,noS,zbf,hle,hke,d1]
     exact zav 4 rfl
 · exact hp.elim
set_option maxHeartbeats 4000000 in
theorem equal35_sound : zaz Try.prog 44 zfk := by
 refine fn_soundF (S := noS) (T := ty) (pl := zbf) zbi ty_ok zcf Try.func44 (c := Try.f44.body.getD .skip) (by kernel_rfl) (by kernel_rfl) (fun xs pins hp _ => ?_)
 unfold zfk at hp ⊢
 split at hp
 · rename_i xs f ys g _
   obtain ⟨hL,hK,⟨l,rfl⟩,k,rfl⟩ := hp
   rw [List.length_map] at hL hK
   have hle : (l.map wsA).length = l.length := by simp
   have hke : (k.map wsA).length = k.length := by simp
   rw [zax,zax]
   refine ⟨by simp,?_⟩
   unfold Try.f44
   by_cases hn : l.length = k.length
   · have d1 : decide ((l.length : Int) = k.length) = true := decide_eq_true (by omega)
     simp only [go_sem,coe,zac,Nat.reduceAdd,Nat.reduceSub,Nat.reduceMul,Int.reduceToNat,reduceCtorEq,↓reduceIte,Int.reducePow,Nat.reducePow,Int.reduceMod,Nat.reduceLeDiff,Int.reduceLE,Int.reduceNe,Int.reduceEq,Nat.reduceEqDiff,Nat.reduceLT,Nat.reduceBEq,List.map_cons,List.map_nil,List.toList_toArray,Array.toList_append,Option.toArray_some,Option.toArray_none,Bool.and_self,ty,noS,zbf,hle,hke,d1]
     refine awpF_loopW ⟨fun m σ => ∃ i : Nat,m = l.length - i ∧ i ≤ l.length ∧ (l.drop i = k.drop i) = (l = k) ∧
       σ = ⟨[.sg 6 (l.map wsA) f,.sg 6 (k.map wsA) g,.junk,.junk,.junk,.junk,.junk,.junk,.junk,.junk,.junk,.junk,.w (.int .i64 l.length),.w (.int .i64 i),.junk,.junk,.junk,.junk,.junk,.junk,.junk,.junk,.junk,.junk,.junk,.junk],[],4⟩,?_,?_⟩
     · refine ⟨_,_,zaj [0,1,2,3] rfl rfl rfl ?_ ?_,0,rfl,by omega,rfl,rfl⟩
       · simp only [ssT,zar,zas,setSlot,gOf,AV.ren,renL,Blk.ren,Ax.look,Ax.put,reduceCtorEq,↓reduceIte,Nat.reduceEqDiff,Nat.reduceLT,Nat.reduceAdd,List.length_append,List.length_cons,List.length_nil,Option.some.injEq]; try simp
       · simp only [ssT,zar,zas,setSlot,gOf,AV.ren,renL,Blk.ren,Ax.look,Ax.put,reduceCtorEq,↓reduceIte,Nat.reduceEqDiff,Nat.reduceLT,Nat.reduceAdd,List.length_append,List.length_cons,List.length_nil,Option.some.injEq]
     · rintro m σ ⟨i,rfl,hi,hs,rfl⟩
       by_cases hil : i < l.length
       · have d2 : decide ((i : Int) < l.length) = true := decide_eq_true (by omega)
         have e1 : ((i : Int) + 1 + 9223372036854775808) % 18446744073709551616 - 9223372036854775808 = ((i + 1 : Nat) : Int) := by omega
         have hs1 := zck l i hil
         have hs2 := zck k i (by omega)
         have hd := same_dropW hil (show i < k.length by omega)
         rw [hs] at hd
         obtain ⟨a,ha⟩ : ∃ x,l[i] = x := ⟨_,rfl⟩
         obtain ⟨b,hb⟩ : ∃ x,k[i]'(by omega) = x := ⟨_,rfl⟩
         rw [ha] at hs1 hd
         rw [hb] at hs2 hd
         obtain ⟨s1,k1,c1,t1,a1,b1⟩ := a
         obtain ⟨s2,k2,c2,t2,a2,b2⟩ := b
         have hs1 : slot (l.map wsA) i = .agg [.w (.int .i64 s1),.str k1,.w (.int .i64 c1),.w (.int .i64 t1),.w (.int .i64 a1),.w (.int .i64 b1)] := hs1
         have hs2 : slot (k.map wsA) i = .agg [.w (.int .i64 s2),.str k2,.w (.int .i64 c2),.w (.int .i64 t2),.w (.int .i64 a2),.w (.int .i64 b2)] := hs2
         by_cases he : (⟨s1,k1,c1,t1,a1,b1⟩ : WS) = ⟨s2,k2,c2,t2,a2,b2⟩
         · have d3 := decide_eq_true he
           simp only [he,true_and] at hd
           simp only [go_sem,coe,zac,Nat.reduceAdd,Nat.reduceSub,Nat.reduceMul,Int.reduceToNat,reduceCtorEq,↓reduceIte,Int.reducePow,Nat.reducePow,Int.reduceMod,Nat.reduceLeDiff,Int.reduceLE,Int.reduceNe,Int.reduceEq,Nat.reduceEqDiff,Nat.reduceLT,Nat.reduceBEq,List.map_cons,List.map_nil,List.toList_toArray,Array.toList_append,Option.toArray_some,Option.toArray_none,Bool.and_self,ty,noS,zbf,hle,hke,d2,e1,hs1,hs2,eqWS_dec,d3,Int.toNat_natCast]
           repeat (refine And.intro (by omega) ?_)
           refine ⟨l.length - (i + 1),_,by omega,zaj [0,1,2,3] rfl rfl rfl ?_ ?_,i + 1,rfl,by omega,hd.symm,rfl⟩
           · simp only [ssT,zar,zas,setSlot,gOf,AV.ren,renL,Blk.ren,Ax.look,Ax.put,reduceCtorEq,↓reduceIte,Nat.reduceEqDiff,Nat.reduceLT,Nat.reduceAdd,List.length_append,List.length_cons,List.length_nil,Option.some.injEq]
           · simp only [ssT,zar,zas,setSlot,gOf,AV.ren,renL,Blk.ren,Ax.look,Ax.put,reduceCtorEq,↓reduceIte,Nat.reduceEqDiff,Nat.reduceLT,Nat.reduceAdd,List.length_append,List.length_cons,List.length_nil,Option.some.injEq]
         · have d3 := decide_eq_false he
           have hno : decide (l = k) = false := decide_eq_false (by rw [hd]; exact fun h => he h.1)
           rw [hno]
           simp only [go_sem,coe,zac,Nat.reduceAdd,Nat.reduceSub,Nat.reduceMul,Int.reduceToNat,reduceCtorEq,↓reduceIte,Int.reducePow,Nat.reducePow,Int.reduceMod,Nat.reduceLeDiff,Int.reduceLE,Int.reduceNe,Int.reduceEq,Nat.reduceEqDiff,Nat.reduceLT,Nat.reduceBEq,List.map_cons,List.map_nil,List.toList_toArray,Array.toList_append,Option.toArray_some,Option.toArray_none,Bool.and_self,ty,noS,zbf,hle,hke,d2,e1,hs1,hs2,eqWS_dec,d3,Int.toNat_natCast]
           repeat (refine And.intro (by omega) ?_)
           refine ⟨_,Weak.refl _,?_⟩
           simp only [go_sem,coe,zac,Nat.reduceAdd,Nat.reduceSub,Nat.reduceMul,Int.reduceToNat,reduceCtorEq,↓reduceIte,Int.reducePow,Nat.reducePow,Int.reduceMod,Nat.reduceLeDiff,Int.reduceLE,Int.reduceNe,Int.reduceEq,Nat.reduceEqDiff,Nat.reduceLT,Nat.reduceBEq,List.map_cons,List.map_nil,List.toList_toArray,Array.toList_append,Option.toArray_some,Option.toArray_none,Bool.and_self,ty,noS,zbf]
           exact zav 4 rfl
       · have d2 : decide ((i : Int) < l.length) = false := decide_eq_false (by omega)
         have : decide (l = k) = true := by
           refine decide_eq_true ?_
           rw [← hs,List.drop_of_length_le (by omega),List.drop_of_length_le (by omega)]
         rw [this]
         simp only [go_sem,coe,zac,Nat.reduceAdd,Nat.reduceSub,Nat.reduceMul,Int.reduceToNat,reduceCtorEq,↓reduceIte,Int.reducePow,Nat.reducePow,Int.reduceMod,Nat.reduceLeDiff,Int.reduceLE,Int.reduceNe,Int.reduceEq,Nat.reduceEqDiff,Nat.reduceLT,Nat.reduceBEq,List.map_cons,List.map_nil,List.toList_toArray,Array.toList_append,Option.toArray_some,Option.toArray_none,Bool.and_self,ty,noS,zbf,hle,hke,d2]
         refine ⟨_,Weak.refl _,?_⟩
         simp only [go_sem,coe,zac,Nat.reduceAdd,Nat.reduceSub,Nat.reduceMul,Int.reduceToNat,reduceCtorEq,↓reduceIte,Int.reducePow,Nat.reducePow,Int.reduceMod,Nat.reduceLeDiff,Int.reduceLE,Int.reduceNe,Int.reduceEq,Nat.reduceEqDiff,Nat.reduceLT,Nat.reduceBEq,List.map_cons,List.map_nil,List.toList_toArray,Array.toList_append,Option.toArray_some,Option.toArray_none,Bool.and_self,ty,noS,zbf]
         exact zav 4 rfl
   · have d1 : decide ((l.length : Int) = k.length) = false := decide_eq_false (by omega)
     rw [decide_eq_false (same_lenW hn)]
     simp only [go_sem,coe,zac,Nat.reduceAdd,Nat.reduceSub,Nat.reduceMul,Int.reduceToNat,reduceCtorEq,↓reduceIte,Int.reducePow,Nat.reducePow,Int.reduceMod,Nat.reduceLeDiff,Int.reduceLE,Int.reduceNe,Int.reduceEq,Nat.reduceEqDiff,Nat.reduceLT,Nat.reduceBEq,List.map_cons,List.map_nil,List.toList_toArray,Array.toList_append,Option.toArray_some,Option.toArray_none,Bool.and_self,ty,noS,zbf,hle,hke,d1]
     exact zav 4 rfl
 · exact hp.elim
def Ssame35 (f : FuncId) : Option zap :=
 match f with
 | 42 => some zfk
 | 44 => some zfk
 | _ => none
theorem Ssame35_ok : Fns Try.prog Ssame35 := by
 intro f s h
 unfold Ssame35 at h
 split at h
 · injection h with h; subst h; exact ⟨⟨_,Try.func42,by kernel_rfl,by kernel_rfl⟩,sameR35_sound⟩
 · injection h with h; subst h; exact ⟨⟨_,Try.func44,by kernel_rfl,by kernel_rfl⟩,equal35_sound⟩
 · cases h
set_option maxHeartbeats 8000000 in
theorem wsame35_sound : zaz Try.prog 14 same35S := by
 refine zco (S := Ssame35) (T := ty) zbi ty_ok Ssame35_ok Try.func14 (c := Try.f14.body.getD .skip) (by kernel_rfl) (by kernel_rfl) (fun xs pins hp _ => ?_)
 unfold same35S at hp ⊢
 split at hp
 · rename_i Z L M D xs f Z' L' M' D' ys g _
   obtain ⟨hL,hK,⟨l,rfl⟩,k,rfl⟩ := hp
   have hx : ∃ q : List WS,l.map wsA = q.map wsA := ⟨l,rfl⟩
   have hy : ∃ q : List WS,k.map wsA = q.map wsA := ⟨k,rfl⟩
   rw [zax,zax]
   refine ⟨by simp,?_⟩
   obtain ⟨Q,hQ⟩ : ∃ Q,decide (l = k) = Q := ⟨_,rfl⟩
   have hc : coe ty 31 (.sg 6 (l.map wsA) f) = .sg 6 (l.map wsA) f := by cases l <;> rfl
   have hd : coe ty 31 (.sg 6 (k.map wsA) g) = .sg 6 (k.map wsA) g := by cases k <;> rfl
   unfold Try.f14
   cases h1 : decide (Z = Z') <;> cases h2 : decide (L = L') <;> cases h3 : decide (M = M') <;> cases h4 : decide (D = D')
   all_goals
     simp only [go_sem,zaa,Nat.reduceAdd,Nat.reduceSub,Nat.reduceMul,Int.reduceToNat,reduceCtorEq,↓reduceIte,Int.reducePow,Nat.reducePow,Int.reduceMod,Nat.reduceLeDiff,Int.reduceLE,Int.reduceNe,Int.reduceEq,Nat.reduceEqDiff,Nat.reduceLT,Nat.reduceBEq,ty,Ssame35,zfk,hL,hK,hx,hy,zax,h1,h2,h3,h4,hQ,hc,hd,Bool.true_and,Bool.false_and]
     exact zav 4 rfl
 · exact hp.elim
set_option maxHeartbeats 8000000 in
theorem rsame35_sound : zaz Try.prog 12 same35S := by
 refine zco (S := Ssame35) (T := ty) zbi ty_ok Ssame35_ok Try.func12 (c := Try.f12.body.getD .skip) (by kernel_rfl) (by kernel_rfl) (fun xs pins hp _ => ?_)
 unfold same35S at hp ⊢
 split at hp
 · rename_i Z L M D xs f Z' L' M' D' ys g _
   obtain ⟨hL,hK,⟨l,rfl⟩,k,rfl⟩ := hp
   have hx : ∃ q : List WS,l.map wsA = q.map wsA := ⟨l,rfl⟩
   have hy : ∃ q : List WS,k.map wsA = q.map wsA := ⟨k,rfl⟩
   rw [zax,zax]
   refine ⟨by simp,?_⟩
   obtain ⟨Q,hQ⟩ : ∃ Q,decide (l = k) = Q := ⟨_,rfl⟩
   have hc : coe ty 22 (.sg 6 (l.map wsA) f) = .sg 6 (l.map wsA) f := by cases l <;> rfl
   have hd : coe ty 22 (.sg 6 (k.map wsA) g) = .sg 6 (k.map wsA) g := by cases k <;> rfl
   unfold Try.f12
   cases h1 : decide (Z = Z') <;> cases h2 : decide (L = L') <;> cases h3 : decide (M = M') <;> cases h4 : decide (D = D')
   all_goals
     simp only [go_sem,zaa,Nat.reduceAdd,Nat.reduceSub,Nat.reduceMul,Int.reduceToNat,reduceCtorEq,↓reduceIte,Int.reducePow,Nat.reducePow,Int.reduceMod,Nat.reduceLeDiff,Int.reduceLE,Int.reduceNe,Int.reduceEq,Nat.reduceEqDiff,Nat.reduceLT,Nat.reduceBEq,ty,Ssame35,zfk,hL,hK,hx,hy,zax,h1,h2,h3,h4,hQ,hc,hd,Bool.true_and,Bool.false_and]
     exact zav 4 rfl
 · exact hp.elim
end
end Go.Proofs.Ythjceeimbohajaa
