/- What the proofs of this seat stand on; it asks nothing. -/
import Derived.Test.YtmedjkjoannbmaaZa16
set_option linter.unusedSimpArgs false
set_option linter.unusedVariables false
namespace Go.Proofs.Ytmedjkjoannbmaa
open Ax
abbrev zcq := List UInt8 × Int
def itS (st : zcq → zcq) (s : zcq) : Nat → zcq
 | 0 => s
 | i + 1 => st (itS st s i)
def itL {α : Type} (v : zcq → α) (st : zcq → zcq) (s : zcq) : Nat → List α
 | 0 => []
 | i + 1 => itL v st s i ++ [v (itS st s i)]
theorem itL_len {α : Type} (v : zcq → α) (st : zcq → zcq) (s : zcq) : ∀ i,(itL v st s i).length = i
 | 0 => rfl
 | i + 1 => by unfold itL; rw [List.length_append,itL_len v st s i]; rfl
theorem itL_all {α : Type} (P : α → Prop) (v : zcq → α) (st : zcq → zcq) (s : zcq) (h : ∀ s,P (v s)) : ∀ i,∀ x ∈ itL v st s i,P x
 | 0,x,hx => by simp [itL] at hx
 | i + 1,x,hx => by
   unfold itL at hx
   rw [List.mem_append] at hx
   rcases hx with hx | hx
   · exact itL_all P v st s h i x hx
   · rw [List.mem_singleton] at hx; rw [hx]; exact h _
theorem it_put {α : Type} (v : zcq → α) (st : zcq → zcq) (f : α → List UInt8) (l : List α) (h : ∀ x ∈ l,∀ z,st (f x ++ z,0) = (z,0) ∧ v (f x ++ z,0) = x) (z : List UInt8) :
   ∀ j,j ≤ l.length → itS st (l.flatMap f ++ z,0) j = ((l.drop j).flatMap f ++ z,0) ∧ itL v st (l.flatMap f ++ z,0) j = l.take j
 | 0,_ => by simp [itS,itL]
 | j + 1,hj => by
   obtain ⟨h1,h2⟩ := it_put v st f l h z j (by omega)
   have e : (l.drop j).flatMap f ++ z = f l[j] ++ ((l.drop (j + 1)).flatMap f ++ z) := by
     rw [List.drop_eq_getElem_cons (by omega),List.flatMap_cons,List.append_assoc]
   obtain ⟨g1,g2⟩ := h l[j] (List.getElem_mem (by omega)) ((l.drop (j + 1)).flatMap f ++ z)
   unfold itS itL
   rw [h1,h2,e,g1,g2]
   refine ⟨rfl,?_⟩
   rw [List.take_succ_eq_append_getElem (by omega)]
def stN (s : zcq) : zcq := (numL s.1 s.2,numE s.1 s.2)
def stT (m : Int) (s : zcq) : zcq := (rtL m s.1 s.2,rtE m s.1 s.2)
def stX (s : zcq) : zcq := (zfg 1 s.1 s.2,rfixE 1 s.1 s.2)
def vB (m : Int) (s : zcq) : Bat := zdg (rtS' m s.1 s.2)
def vP (s : zcq) : Int := numN s.1 s.2
def vN (s : zcq) : List UInt8 := rtS' 255 s.1 s.2
def vX (s : zcq) : Bool := decide (zei 1 s.1 s.2 = 1)
theorem stN_put (n : Int) (hn : okI n) (z : List UInt8) : stN (pq n ++ z,0) = (z,0) ∧ vP (pq n ++ z,0) = n := by
 obtain ⟨t1,t2,t3⟩ := num_put n hn.1 hn.2 z
 unfold stN vP pq
 simp only
 rw [t1,t2,t3]; exact ⟨rfl,rfl⟩
theorem stT_put (m : Int) (s : List UInt8) (hs : (s.length : Int) ≤ m) (h2 : s.length ≤ 1000000) (z : List UInt8) : stT m (zaj s ++ z,0) = (z,0) ∧ rtS' m (zaj s ++ z) 0 = s := by
 obtain ⟨t1,t2,t3⟩ := text_put m s z (by omega) (by omega)
 unfold stT
 simp only
 rw [t1,t2,t3]; exact ⟨rfl,rfl⟩
theorem stX_put (v : Bool) (z : List UInt8) : stX ([UInt8.ofNat (bitN v).toNat] ++ z,0) = (z,0) ∧ vX ([UInt8.ofNat (bitN v).toNat] ++ z,0) = v := by
 obtain ⟨t1,t2,t3⟩ := fix1_cons (UInt8.ofNat (bitN v).toNat) z
 unfold stX vX
 simp only [List.singleton_append,t1,t2,t3]
 exact ⟨trivial,by cases v <;> decide⟩
abbrev Cnt := (zcq → zcq) → zcq → Int → Nat
def Cnt.good (c : Cnt) : Prop := ∀ (st : zcq → zcq) (s : zcq) (n : Nat),n ≤ 64 → (∀ j,j ≤ n → (itS st s j).2 = 0) → c st s n = n
structure Rs where
 k : Int
 er : Int
 o : Int
 x : Int
 d : Bool
 g : Int
 bl : List Bat
 pl : List Int
 nl : List (List UInt8)
def h1A (b : List UInt8) : zcq := stN (sq0 b)
def h2A (b : List UInt8) : zcq := stN (h1A b)
def h3A (b : List UInt8) : zcq := stN (h2A b)
def h4A (b : List UInt8) : zcq := stN (h3A b)
def h5A (b : List UInt8) : zcq := stX (h4A b)
def b0A (b : List UInt8) : zcq := stN (h5A b)
def bnA (c : Cnt) (m : Int) (b : List UInt8) : Nat := c (stT m) (b0A b) (vP (h5A b))
def b1A (c : Cnt) (m : Int) (b : List UInt8) : zcq := itS (stT m) (b0A b) (bnA c m b)
def p0A (c : Cnt) (m : Int) (b : List UInt8) : zcq := stN (b1A c m b)
def pnA (c : Cnt) (m : Int) (b : List UInt8) : Nat := c stN (p0A c m b) (vP (b1A c m b))
def p1A (c : Cnt) (m : Int) (b : List UInt8) : zcq := itS stN (p0A c m b) (pnA c m b)
def n0A (c : Cnt) (m : Int) (b : List UInt8) : zcq := stN (p1A c m b)
def nnA (c : Cnt) (m : Int) (b : List UInt8) : Nat := c (stT 255) (n0A c m b) (vP (p1A c m b))
def n1A (c : Cnt) (m : Int) (b : List UInt8) : zcq := itS (stT 255) (n0A c m b) (nnA c m b)
def rdA (c : Cnt) (m : Int) (b : List UInt8) : Rs :=
 ⟨kq b,vP (sq0 b),vP (h1A b),vP (h2A b),vX (h4A b),vP (h3A b),itL (vB m) (stT m) (b0A b) (bnA c m b),itL vP stN (p0A c m b) (pnA c m b),itL vN (stT 255) (n0A c m b) (nnA c m b)⟩
def errR (a : Rs) : Int := errA a.k a.bl a.pl a.nl
def zfb (a : Rs) : List UInt8 := layA a.k a.er a.o a.x a.d a.g a.bl a.pl a.nl
def fitA (a : Rs) : Prop := (0 ≤ a.k ∧ a.k < 256) ∧ okI a.er ∧ okI a.o ∧ okI a.x ∧ okI a.g ∧ ∀ n ∈ a.pl,okI n
theorem badB_all : ∀ (l : List Bat),badB l = 0 → ∀ x ∈ l,bE x = 0
 | [],_,x,hx => by simp at hx
 | y :: r,h,x,hx => by
   unfold badB at h
   by_cases hy : bE y = 0
   · rw [if_pos hy] at h
     rw [List.mem_cons] at hx
     rcases hx with rfl | hx
     · exact hy
     · exact badB_all r h x hx
   · rw [if_neg hy] at h; exact (hy h).elim
theorem errR_ok {a : Rs} (h : errR a = 0) : (a.bl.length ≤ 64 ∧ a.pl.length ≤ 64 ∧ a.nl.length ≤ 64) ∧ (∀ x ∈ a.bl,bE x = 0) ∧ ∀ s ∈ a.nl,s.length ≤ 255 := by
 unfold errR errA at h
 by_cases hc : chkA a.k a.bl.length a.pl.length a.nl = 0
 · rw [if_pos hc] at h
   obtain ⟨_,h1,h2,h3,h4⟩ := chkA_ok hc
   exact ⟨⟨h1,h2,h3⟩,badB_all _ h,h4⟩
 · rw [if_neg hc] at h; exact (hc h).elim
theorem it_err (v : zcq → Bat) {α : Type} (w : zcq → α) (st : zcq → zcq) (f : α → List UInt8) (l : List α) (h : ∀ x ∈ l,∀ z,st (f x ++ z,0) = (z,0) ∧ w (f x ++ z,0) = x) (z : List UInt8) : ∀ j,j ≤ l.length → (itS st (l.flatMap f ++ z,0) j).2 = 0 := by
 intro j hj
 rw [(it_put w st f l h z j hj).1]
theorem rd_layA (c : Cnt) (hc : c.good) (m : Int) (hm : 8192 ≤ m) (a : Rs) (h : errR a = 0) (hf : fitA a) (z : List UInt8) : rdA c m (zfb a ++ z) = a ∧ n1A c m (zfb a ++ z) = (z,0) := by
 obtain ⟨⟨l1,l2,l3⟩,hb,hn⟩ := errR_ok h
 obtain ⟨hk,f1,f2,f3,f4,f5⟩ := hf
 obtain ⟨k,er,o,x,d,g,bl,pl,nl⟩ := a
 simp only at l1 l2 l3 hb hn hk f1 f2 f3 f4 f5
 have hB : ∀ y ∈ bl,∀ z,stT m (zaj (bB y) ++ z,0) = (z,0) ∧ vB m (zaj (bB y) ++ z,0) = y := by
   intro y hy z
   have h1 := bB_length (hb y hy)
   obtain ⟨t1,t2⟩ := stT_put m (bB y) (by omega) (by omega) z
   exact ⟨t1,by unfold vB; simp only; rw [t2]; unfold zdg; rw [bget_put (hb y hy)]; rfl⟩
 have hP : ∀ y ∈ pl,∀ z,stN (pq y ++ z,0) = (z,0) ∧ vP (pq y ++ z,0) = y := fun y hy z => stN_put y (f5 y hy) z
 have hN : ∀ y ∈ nl,∀ z,stT 255 (zaj y ++ z,0) = (z,0) ∧ vN (zaj y ++ z,0) = y := by
   intro y hy z
   have h1 := hn y hy
   exact stT_put 255 y (by omega) (by omega) z
 have e : zfb ⟨k,er,o,x,d,g,bl,pl,nl⟩ ++ z = UInt8.ofNat k.toNat :: (pq er ++ (pq o ++ (pq x ++ (pq g ++ ([UInt8.ofNat (bitN d).toNat] ++ (pq (bl.length : Int) ++ (catB bl ++ (pq (pl.length : Int) ++ (catP pl ++ (pq (nl.length : Int) ++ (catN nl ++ z))))))))))) := by
   simp [zfb,layA,headA]
 obtain ⟨b,hbb⟩ : ∃ b,zfb ⟨k,er,o,x,d,g,bl,pl,nl⟩ ++ z = b := ⟨_,rfl⟩
 rw [hbb] at e ⊢
 obtain ⟨q0,qk⟩ := sq0_put k hk (pq er ++ (pq o ++ (pq x ++ (pq g ++ ([UInt8.ofNat (bitN d).toNat] ++ (pq (bl.length : Int) ++ (catB bl ++ (pq (pl.length : Int) ++ (catP pl ++ (pq (nl.length : Int) ++ (catN nl ++ z)))))))))))
 rw [← e] at q0 qk
 have okn : ∀ n : Nat,n ≤ 64 → okI (n : Int) := fun n hn => ⟨by omega,by omega⟩
 have s1 := stN_put er f1 (pq o ++ (pq x ++ (pq g ++ ([UInt8.ofNat (bitN d).toNat] ++ (pq (bl.length : Int) ++ (catB bl ++ (pq (pl.length : Int) ++ (catP pl ++ (pq (nl.length : Int) ++ (catN nl ++ z))))))))))
 have s2 := stN_put o f2 (pq x ++ (pq g ++ ([UInt8.ofNat (bitN d).toNat] ++ (pq (bl.length : Int) ++ (catB bl ++ (pq (pl.length : Int) ++ (catP pl ++ (pq (nl.length : Int) ++ (catN nl ++ z)))))))))
 have s3 := stN_put x f3 (pq g ++ ([UInt8.ofNat (bitN d).toNat] ++ (pq (bl.length : Int) ++ (catB bl ++ (pq (pl.length : Int) ++ (catP pl ++ (pq (nl.length : Int) ++ (catN nl ++ z))))))))
 have s4 := stN_put g f4 ([UInt8.ofNat (bitN d).toNat] ++ (pq (bl.length : Int) ++ (catB bl ++ (pq (pl.length : Int) ++ (catP pl ++ (pq (nl.length : Int) ++ (catN nl ++ z)))))))
 have s5 := stX_put d (pq (bl.length : Int) ++ (catB bl ++ (pq (pl.length : Int) ++ (catP pl ++ (pq (nl.length : Int) ++ (catN nl ++ z))))))
 have s6 := stN_put (bl.length : Int) (okn _ l1) (catB bl ++ (pq (pl.length : Int) ++ (catP pl ++ (pq (nl.length : Int) ++ (catN nl ++ z)))))
 have s7 := it_put (vB m) (stT m) (fun y => zaj (bB y)) bl hB (pq (pl.length : Int) ++ (catP pl ++ (pq (nl.length : Int) ++ (catN nl ++ z)))) bl.length (Nat.le_refl _)
 have s7e := it_err (vB m) (vB m) (stT m) (fun y => zaj (bB y)) bl hB (pq (pl.length : Int) ++ (catP pl ++ (pq (nl.length : Int) ++ (catN nl ++ z))))
 have s8 := stN_put (pl.length : Int) (okn _ l2) (catP pl ++ (pq (nl.length : Int) ++ (catN nl ++ z)))
 have s9 := it_put vP stN pq pl hP (pq (nl.length : Int) ++ (catN nl ++ z)) pl.length (Nat.le_refl _)
 have s9e := it_err (vB m) vP stN pq pl hP (pq (nl.length : Int) ++ (catN nl ++ z))
 have s10 := stN_put (nl.length : Int) (okn _ l3) (catN nl ++ z)
 have s11 := it_put vN (stT 255) zaj nl hN z nl.length (Nat.le_refl _)
 have s11e := it_err (vB m) vN (stT 255) zaj nl hN z
 have eB : catB bl = bl.flatMap fun y => zaj (bB y) := rfl
 have eP : catP pl = pl.flatMap pq := rfl
 have eN : catN nl = nl.flatMap zaj := rfl
 rw [← eB] at s7 s7e
 rw [← eP] at s9 s9e
 rw [← eN] at s11 s11e
 rw [List.drop_length,List.take_length] at s7 s9 s11
 simp only [List.flatMap_nil,List.nil_append] at s7 s9 s11
 have g1 : h1A b = (pq o ++ (pq x ++ (pq g ++ ([UInt8.ofNat (bitN d).toNat] ++ (pq (bl.length : Int) ++ (catB bl ++ (pq (pl.length : Int) ++ (catP pl ++ (pq (nl.length : Int) ++ (catN nl ++ z))))))))),0) := by unfold h1A; rw [q0]; exact s1.1
 have g2 := s2.1
 rw [← g1] at g2
 have g3 := s3.1
 rw [← g2] at g3
 have g4 := s4.1
 rw [← g3] at g4
 have g5 := s5.1
 rw [← g4] at g5
 have g6 := s6.1
 rw [← g5] at g6
 have v1 : vP (sq0 b) = er := by rw [q0]; exact s1.2
 have v2 : vP (h1A b) = o := by rw [g1]; exact s2.2
 have v3 : vP (h2A b) = x := by unfold h2A; rw [g2]; exact s3.2
 have v4 : vP (h3A b) = g := by unfold h3A h2A; rw [g3]; exact s4.2
 have v5 : vX (h4A b) = d := by unfold h4A h3A h2A; rw [g4]; exact s5.2
 have v6 : vP (h5A b) = (bl.length : Int) := by unfold h5A h4A h3A h2A; rw [g5]; exact s6.2
 have w0 : b0A b = (catB bl ++ (pq (pl.length : Int) ++ (catP pl ++ (pq (nl.length : Int) ++ (catN nl ++ z)))),0) := by unfold b0A h5A h4A h3A h2A; exact g6
 have wn : bnA c m b = bl.length := by
   unfold bnA; rw [v6]
   exact hc _ _ _ l1 (by rw [w0]; exact s7e)
 have w1 : b1A c m b = (pq (pl.length : Int) ++ (catP pl ++ (pq (nl.length : Int) ++ (catN nl ++ z))),0) := by unfold b1A; rw [wn,w0]; exact s7.1
 have x0 : p0A c m b = (catP pl ++ (pq (nl.length : Int) ++ (catN nl ++ z)),0) := by unfold p0A; rw [w1]; exact s8.1
 have xn : pnA c m b = pl.length := by
   unfold pnA; rw [w1,s8.2]
   exact hc _ _ _ l2 (by rw [x0]; exact s9e)
 have x1 : p1A c m b = (pq (nl.length : Int) ++ (catN nl ++ z),0) := by unfold p1A; rw [xn,x0]; exact s9.1
 have y0 : n0A c m b = (catN nl ++ z,0) := by unfold n0A; rw [x1]; exact s10.1
 have yn : nnA c m b = nl.length := by
   unfold nnA; rw [x1,s10.2]
   exact hc _ _ _ l3 (by rw [y0]; exact s11e)
 have y1 : n1A c m b = (z,0) := by unfold n1A; rw [yn,y0]; exact s11.1
 refine ⟨?_,y1⟩
 unfold rdA
 rw [qk,v1,v2,v3,v4,v5,wn,xn,yn,w0,x0,y0,s7.2,s9.2,s11.2]
def c64 : Cnt := fun _ _ n => (min (max n 0) 64).toNat
theorem c64_good : c64.good := by intro st s n hn _; unfold c64; omega
def okA (c : Cnt) (m : Int) (b : List UInt8) : Prop := errR (rdA c m b) = 0 ∧ zfb (rdA c m b) = b
theorem rdA_fit (c : Cnt) (m : Int) (b : List UInt8) : fitA (rdA c m b) :=
 ⟨kq_rng b,zcb _ _,zcb _ _,zcb _ _,zcb _ _,itL_all okI vP stN _ (fun s => zcb s.1 s.2) _⟩
theorem okA_same {c c' : Cnt} (hc : c'.good) {m m' : Int} (hm : 8192 ≤ m') {b : List UInt8} (h : okA c m b) : rdA c' m' b = rdA c m b ∧ okA c' m' b ∧ n1A c' m' b = ([],0) := by
 have h1 := rd_layA c' hc m' hm (rdA c m b) h.1 (rdA_fit c m b) []
 rw [List.append_nil,h.2] at h1
 refine ⟨h1.1,?_,h1.2⟩
 unfold okA
 rw [h1.1]
 exact h
end Go.Proofs.Ytmedjkjoannbmaa
namespace Go.Proofs.Ytmedjkjoannbmaa
open Ax
def putAS : zaq
 | [.agg [.w (.int .u8 k),.w (.int .i64 er),.w (.int .i64 o),.w (.int .i64 x),.w (.bool d),.w (.int .i64 g),.sg 6 bs f1,.si ps f2,.sg 1 ns f3]],[] => ⟨((0 ≤ k ∧ k < 256) ∧ okI er ∧ okI o ∧ okI x ∧ okI g) ∧ (bs.length ≤ 1000000 ∧ ps.length ≤ 1000000 ∧ ns.length ≤ 1000000) ∧ (∃ l : List (Bat × Bool),bs = l.map bvp ∧ ∀ p ∈ l,p.1.rs.length ≤ 40) ∧ (∀ n ∈ ps,okI n) ∧ ∃ ks : List (List UInt8),ns = ks.map AV.str,
     .tup [.ms 0 1 0 (putA k er o x d g (bs.map ubat) ps (ns.map ustr22)).length,.w (.int .i64 (errA k (bs.map ubat) ps (ns.map ustr22)))],[.b (putA k er o x d g (bs.map ubat) ps (ns.map ustr22))]⟩
 | _,_ => zbv
def SputA (f : FuncId) : Option zaq :=
 match f with
 | 36 => some chkAS
 | 37 => some putS
 | 38 => some zfr
 | 39 => some zdd
 | 40 => some zcp
 | _ => none
theorem SputA_ok : Fns Try.prog SputA := by
 intro f s h
 unfold SputA at h
 split at h
 · injection h with h; subst h; exact ⟨⟨_,Try.func36,by kernel_rfl,by kernel_rfl⟩,chkA_sound⟩
 · injection h with h; subst h; exact ⟨⟨_,Try.func37,by kernel_rfl,by kernel_rfl⟩,put_sound⟩
 · injection h with h; subst h; exact ⟨⟨_,Try.func38,by kernel_rfl,by kernel_rfl⟩,bit22_sound⟩
 · injection h with h; subst h; exact ⟨⟨_,Try.func39,by kernel_rfl,by kernel_rfl⟩,bput4_sound⟩
 · injection h with h; subst h; exact ⟨⟨_,Try.func40,by kernel_rfl,by kernel_rfl⟩,text_sound⟩
 · cases h
theorem cst22h : ((0 : Nat) : Int) = 0 ∧ ((1 : Nat) : Int) = 1 ∧ ((2 : Nat) : Int) = 2 ∧ ((3 : Nat) : Int) = 3 ∧ ((4 : Nat) : Int) = 4 ∧ ((5 : Nat) : Int) = 5 ∧ ((6 : Nat) : Int) = 6 := ⟨rfl,rfl,rfl,rfl,rfl,rfl,rfl⟩
section
set_option maxRecDepth 100000
set_option maxHeartbeats 8000000 in
theorem putA_sound : zbf Try.prog 17 putAS := by
 refine zcm (S := SputA) (T := ty) zbj ty_ok SputA_ok Try.func17 (c := Try.f17.body.getD .skip) (by kernel_rfl) (by kernel_rfl) (fun xs pins hp _ => ?_)
 unfold putAS at hp ⊢
 split at hp
 · rename_i k er o x d g bs f1 pl f2 ns f3 _
   obtain ⟨⟨⟨hk0,hk1⟩,r1,r2,r3,r4⟩,⟨hL1,hL2,hL3⟩,⟨l,rfl,hrs⟩,hpk,ks,rfl⟩ := hp
   rw [zej,zcc]
   have q1 := r1
   have q2 := r2
   have q3 := r3
   have q4 := r4
   have hmu := zcc ks
   have hl1 : (l.map bvp).length = l.length := by simp
   have hl2 : pl.length = pl.length := rfl
   have hl3 : (ks.map AV.str).length = ks.length := by simp
   have hfl : (l.map Prod.fst).length = l.length := by simp
   rw [hl1] at hL1
   rw [hl3] at hL3
   have c1 : l.length ≤ 9223372036854775807 := by omega
   have c2 : pl.length ≤ 9223372036854775807 := by omega
   have c3 : ks.length ≤ 9223372036854775807 := by omega
   have hex : ∃ qs : List (List UInt8),ks.map AV.str = qs.map AV.str := ⟨ks,rfl⟩
   have tk : ∀ l : List UInt8,List.take l.length l = l := fun l => List.take_length
   have hco : ∀ z1 z2 z3 z4 z5 z6,coe ty 42 (.agg [.w z1,.w z2,.w z3,.w z4,.w z5,.w z6,.sg 6 (l.map bvp) f1,.si pl f2,.sg 1 (ks.map AV.str) f3]) = .agg [.w z1,.w z2,.w z3,.w z4,.w z5,.w z6,.sg 6 (l.map bvp) f1,.si pl f2,.sg 1 (ks.map AV.str) f3] := by
     intro z1 z2 z3 z4 z5 z6; rfl
   refine ⟨by simp,?_⟩
   unfold Try.f17
   by_cases hc : chkA k l.length pl.length ks = 0
   · have d0 : decide ((0 : Int) = 0) = true := by decide
     obtain ⟨hk2,m1,m2,m3,hks⟩ := chkA_ok hc
     have rn1 : -9223372036854775808 ≤ (l.length : Int) ∧ (l.length : Int) ≤ 9223372036854775807 := by omega
     have rn2 : -9223372036854775808 ≤ (pl.length : Int) ∧ (pl.length : Int) ≤ 9223372036854775807 := by omega
     have rn3 : -9223372036854775808 ≤ (ks.length : Int) ∧ (ks.length : Int) ≤ 9223372036854775807 := by omega
     have l1 := zad er r1
     have l2 := zad o r2
     have l3 := zad x r3
     have l4 := zad g r4
     have l5 := zad _ rn1
     have l6 := zad _ rn2
     have l7 := zad _ rn3
     have gd : [er,o,x,g].getD 0 0 = er ∧ [er,o,x,g].getD 1 0 = o ∧ [er,o,x,g].getD 2 0 = x ∧ [er,o,x,g].getD 3 0 = g := ⟨rfl,rfl,rfl,rfl⟩
     have hbit : (0 ≤ bitN d ∧ bitN d < 256) = True := eq_true (by cases d <;> decide)
     unfold okI at r1 r2 r3 r4
     simp only [go_sem,zaa,Nat.reduceAdd,Nat.reduceSub,Nat.reduceMul,Int.reduceToNat,reduceCtorEq,↓reduceIte,Int.reducePow,Nat.reducePow,Int.reduceMod,Nat.reduceLeDiff,Int.reduceLE,Int.reduceNe,Int.reduceEq,Nat.reduceEqDiff,Nat.reduceLT,Nat.reduceBEq,ty,SputA,chkAS,putS,zfr,hl1,hl3,hmu,hc,hk0,hk1,c1,c2,c3,hex,r1,r2,r3,r4,zct,tk]
     refine zbl 6 ?_
     simp only [go_sem,zaa,Nat.reduceAdd,Nat.reduceSub,Nat.reduceMul,Int.reduceToNat,reduceCtorEq,↓reduceIte,Int.reducePow,Nat.reducePow,Int.reduceMod,Nat.reduceLeDiff,Int.reduceLE,Int.reduceNe,Int.reduceEq,Nat.reduceEqDiff,Nat.reduceLT,Nat.reduceBEq,ty,SputA,putS,zfr,zcg,zaf,zal,zar,Int.reduceAdd,Int.reduceSub,Int.reduceLT,Int.cast_ofNat_Int,cst22h,hl1,hl3,r1,r2,r3,r4,rn1,zct,tk,gd,hbit]
     repeat (refine And.intro (by first | omega | (unfold top; omega)) ?_)
     obtain ⟨bl,hbl⟩ : ∃ v,l.map Prod.fst = v := ⟨_,rfl⟩
     have hA : headA k er o x d g = UInt8.ofNat k.toNat :: (pq er ++ (pq o ++ (pq x ++ (pq g ++ [UInt8.ofNat (bitN d).toNat])))) := rfl
     have hAl := headA_len k er o x d g q1 q2 q3 q4
     obtain ⟨A,hAA⟩ : ∃ v,headA k er o x d g = v := ⟨_,rfl⟩
     rw [hAA] at hA hAl
     have hbn : bl.length = l.length := by rw [← hbl,List.length_map]
     rw [hbl]
     refine zdu ⟨fun m σ => ∃ i : Nat,m = l.length - i ∧ i ≤ l.length ∧ (∀ m ∈ bl.take i,bE m = 0) ∧
       σ = ⟨[.agg [.w (.int .u8 k),.w (.int .i64 er),.w (.int .i64 o),.w (.int .i64 x),.w (.bool d),.w (.int .i64 g),.sg 6 (l.map bvp) f1,.si pl f2,.sg 1 (ks.map AV.str) f3],.rf 4 9 0 0,.junk,.junk,.junk,.ms 5 1 0 (A ++ (pq (l.length : Int) ++ catB (bl.take i))).length,.junk,.junk,.junk,.junk,.junk,.junk,.junk,.junk,.junk,.junk,.junk,.junk,.junk,.junk,.junk,.junk,.junk,.junk,.junk,.junk,.junk,.junk,.junk,.junk,.junk,.junk,.junk,.junk,.junk,.junk,.junk,.junk,.junk,.junk,.junk,.junk,.junk,.junk,.junk,.junk,.junk,.junk,.junk,.junk,.junk,.junk,.junk,.junk,.junk,.junk,.sg 6 (l.map bvp) f1,.w (.int .i64 l.length),.w (.int .i64 i),.junk,.junk,.junk,.junk,.junk,.junk,.junk,.junk,.junk,.junk,.junk,.junk,.junk,.junk,.junk,.junk,.junk,.junk,.junk,.junk,.junk,.junk,.junk,.junk,.junk,.junk,.junk,.junk,.junk,.junk,.junk,.junk,.junk,.junk,.junk,.junk,.junk,.junk,.junk,.junk,.junk,.junk,.junk,.junk,.junk,.junk,.junk,.junk,.junk,.junk,.junk,.junk,.junk,.junk],[(4,.g 9 [.agg [.w (.int .u8 k),.w (.int .i64 er),.w (.int .i64 o),.w (.int .i64 x),.w (.bool d),.w (.int .i64 g),.sg 6 (l.map bvp) f1,.si pl f2,.sg 1 (ks.map AV.str) f3]]),(5,.b (A ++ (pq (l.length : Int) ++ catB (bl.take i))))],6⟩,?_,?_⟩
     · refine ⟨_,_,zai [0,1,2,3,4,644] rfl rfl rfl ?_ ?_,0,rfl,by omega,by simp,rfl⟩
       · simp only [ssT,zao,zap,setSlot,gOf,AV.ren,renL,Blk.ren,Ax.look,Ax.put,reduceCtorEq,↓reduceIte,Nat.reduceEqDiff,Nat.reduceLT,Nat.reduceAdd,List.length_append,List.length_cons,List.length_nil,Option.some.injEq]; simp [hA,catB]; try omega
       · simp only [ssT,zao,zap,setSlot,gOf,AV.ren,renL,Blk.ren,Ax.look,Ax.put,reduceCtorEq,↓reduceIte,Nat.reduceEqDiff,Nat.reduceLT,Nat.reduceAdd,List.length_append,List.length_cons,List.length_nil,Option.some.injEq]; try simp [hA,catB]
     · rintro m σ ⟨i,rfl,hi,hall,rfl⟩
       have cnt : (((A ++ (pq (l.length : Int) ++ catB (bl.take i))).length : Nat)) ≤ 60 + 8202 * i := by
         have h1 := catB_len (bl.take i)
         have h2 : (bl.take i).length ≤ i := List.length_take_le _ _
         simp only [List.length_append]; omega
       by_cases hil : i < l.length
       · have d2 : decide ((i : Int) < l.length) = true := decide_eq_true (by omega)
         have e1 : ((i : Int) + 1 + 9223372036854775808) % 18446744073709551616 - 9223372036854775808 = ((i + 1 : Nat) : Int) := by omega
         have hs1 := slot_bvp l i hil
         have hib : i < bl.length := by omega
         have hbi : bl[i] = l[i].1 := by subst hbl; simp
         have hsn := catB_snoc bl i hib
         have hfb := badB_at bl i hib hall
         have htake : bl.take (i + 1) = bl.take i ++ [bl[i]] := List.take_succ_eq_append_getElem hib
         have hrl := hrs l[i] (List.getElem_mem hil)
         rw [hbi] at hsn hfb htake
         obtain ⟨mm,hmm⟩ : ∃ x,l[i] = x := ⟨_,rfl⟩
         rw [hmm] at hs1 hsn hfb htake hrl
         obtain ⟨⟨y1,y2,y3,y4,y5,rs⟩,f⟩ := mm
         have hs1 : slot (l.map bvp) i = .agg [.w (.int .i64 y1),.w (.int .i64 y2),.w (.int .i64 y3),.w (.int .i64 y4),.w (.int .i64 y5),.sg 6 (rs.map rv) f] := hs1
         have hmr := zag rs
         have hex2 : ∃ qs : List Rec,rs.map rv = qs.map rv := ⟨rs,rfl⟩
         have hrl : (rs.map rv).length ≤ 9223372036854775807 := by rw [List.length_map]; simp only at hrl; omega
         have hbB : bB ⟨y1,y2,y3,y4,y5,rs⟩ = batB y1 y2 y3 y4 y5 rs := rfl
         have hbE : bE ⟨y1,y2,y3,y4,y5,rs⟩ = batE y1 y2 y3 y4 y5 rs := rfl
         have hYl := zan y1 y2 y3 y4 y5 rs
         have htl := zac (batB y1 y2 y3 y4 y5 rs) (by omega)
         simp only [hbB,hbE] at hsn hfb
         by_cases hc2 : batE y1 y2 y3 y4 y5 rs = 0
         · obtain ⟨Y,hY⟩ : ∃ x,batB y1 y2 y3 y4 y5 rs = x := ⟨_,rfl⟩
           rw [hY] at hYl htl hsn
           have hYm : Y.length ≤ 1000000 := by omega
           obtain ⟨X,hX⟩ : ∃ x,A ++ (pq (l.length : Int) ++ catB (bl.take i)) = x := ⟨_,rfl⟩
           have hX2 : A ++ (pq (l.length : Int) ++ catB (bl.take (i + 1))) = X ++ zaj Y := by rw [hsn,← hX]; simp
           have hX3 : A.length + ((pq (l.length : Int)).length + (catB (bl.take (i + 1))).length) = X.length + (zaj Y).length := by simpa using congrArg List.length hX2
           rw [hX] at cnt ⊢
           simp only [go_sem,zaa,Nat.reduceAdd,Nat.reduceSub,Nat.reduceMul,Int.reduceToNat,reduceCtorEq,↓reduceIte,Int.reducePow,Nat.reducePow,Int.reduceMod,Nat.reduceLeDiff,Int.reduceLE,Int.reduceNe,Int.reduceEq,Nat.reduceEqDiff,Nat.reduceLT,Nat.reduceBEq,ty,SputA,zdd,zcp,hl1,d2,e1,hs1,hmr,hex2,hrl,hc2,hY,hYm,tk,Int.toNat_natCast]
           repeat (refine And.intro (by first | omega | (unfold top; omega)) ?_)
           refine ⟨l.length - (i + 1),_,by omega,zai [0,1,2,3,4,150] rfl rfl rfl ?_ ?_,i + 1,rfl,by omega,?_,rfl⟩
           · simp only [ssT,zao,zap,setSlot,gOf,AV.ren,renL,Blk.ren,Ax.look,Ax.put,reduceCtorEq,↓reduceIte,Nat.reduceEqDiff,Nat.reduceLT,Nat.reduceAdd,List.length_append,List.length_cons,List.length_nil,Option.some.injEq,hX2,hX3]
           · simp only [ssT,zao,zap,setSlot,gOf,AV.ren,renL,Blk.ren,Ax.look,Ax.put,reduceCtorEq,↓reduceIte,Nat.reduceEqDiff,Nat.reduceLT,Nat.reduceAdd,List.length_append,List.length_cons,List.length_nil,Option.some.injEq,hX2,hX3]
           · intro q hq
             rw [htake,List.mem_append] at hq
             rcases hq with hq | hq
             · exact hall q hq
             · have : q = ⟨y1,y2,y3,y4,y5,rs⟩ := by simpa using hq
               rw [this]; exact hc2
         · have d3 := decide_eq_false hc2
           have hE : errA k bl pl ks = batE y1 y2 y3 y4 y5 rs := by unfold errA; rw [hbn,if_pos hc]; exact hfb hc2
           have hO : putA k er o x d g bl pl ks = [] := by unfold putA; rw [hE,if_neg hc2]
           rw [hE,hO]
           obtain ⟨C,hC⟩ : ∃ v,batE y1 y2 y3 y4 y5 rs = v := ⟨_,rfl⟩
           rw [hC] at d3 ⊢
           simp only [go_sem,zaa,Nat.reduceAdd,Nat.reduceSub,Nat.reduceMul,Int.reduceToNat,reduceCtorEq,↓reduceIte,Int.reducePow,Nat.reducePow,Int.reduceMod,Nat.reduceLeDiff,Int.reduceLE,Int.reduceNe,Int.reduceEq,Nat.reduceEqDiff,Nat.reduceLT,Nat.reduceBEq,ty,SputA,zdd,zcp,hl1,d2,hs1,hmr,hex2,hrl,hC,d3,Int.toNat_natCast]
           repeat (refine And.intro (by first | omega | (unfold top; omega)) ?_)
           refine ⟨_,Weak.refl _,?_⟩
           simp only [go_sem,zaa,Nat.reduceAdd,Nat.reduceSub,Nat.reduceMul,Int.reduceToNat,reduceCtorEq,↓reduceIte,Int.reducePow,Nat.reducePow,Int.reduceMod,Nat.reduceLeDiff,Int.reduceLE,Int.reduceNe,Int.reduceEq,Nat.reduceEqDiff,Nat.reduceLT,Nat.reduceBEq,ty,SputA]
           exact zci 2 3 (by decide) rfl rfl rfl rfl
       · have d2 : decide ((i : Int) < l.length) = false := decide_eq_false (by omega)
         have hi2 : i = l.length := by omega
         subst hi2
         have htk : bl.take l.length = bl := by rw [← hbn,List.take_length]
         rw [htk] at hall cnt ⊢
         have hf0 : badB bl = 0 := badB_none bl hall
         have hE : errA k bl pl ks = 0 := by unfold errA; rw [hbn,if_pos hc]; exact hf0
         have hO : putA k er o x d g bl pl ks = layA k er o x d g bl pl ks := if_pos hE
         rw [hE,hO]
         obtain ⟨B,hB⟩ : ∃ v,A ++ (pq (l.length : Int) ++ catB bl) = v := ⟨_,rfl⟩
         have hLay : layA k er o x d g bl pl ks = B ++ (pq (pl.length : Int) ++ (catP pl ++ (pq (ks.length : Int) ++ catN ks))) := by
           unfold layA; rw [hAA,hbn,← hB]; simp
         obtain ⟨R,hR⟩ : ∃ v,layA k er o x d g bl pl ks = v := ⟨_,rfl⟩
         rw [hR] at hLay ⊢
         rw [hB] at cnt ⊢
         have hBl : B.length ≤ 60 + 8202 * 64 := by omega
         simp only [go_sem,zaa,Nat.reduceAdd,Nat.reduceSub,Nat.reduceMul,Int.reduceToNat,reduceCtorEq,↓reduceIte,Int.reducePow,Nat.reducePow,Int.reduceMod,Nat.reduceLeDiff,Int.reduceLE,Int.reduceNe,Int.reduceEq,Nat.reduceEqDiff,Nat.reduceLT,Nat.reduceBEq,ty,SputA,hl1,d2]
         refine ⟨_,Weak.refl _,?_⟩
         simp only [go_sem,zaa,Nat.reduceAdd,Nat.reduceSub,Nat.reduceMul,Int.reduceToNat,reduceCtorEq,↓reduceIte,Int.reducePow,Nat.reducePow,Int.reduceMod,Nat.reduceLeDiff,Int.reduceLE,Int.reduceNe,Int.reduceEq,Nat.reduceEqDiff,Nat.reduceLT,Nat.reduceBEq,ty,SputA,putS,hl1,d2,rn2,zct,tk]
         repeat (refine And.intro (by first | omega | (unfold top; omega)) ?_)
         refine zdu ⟨fun m σ => ∃ i : Nat,m = pl.length - i ∧ i ≤ pl.length ∧
           σ = ⟨[.agg [.w (.int .u8 k),.w (.int .i64 er),.w (.int .i64 o),.w (.int .i64 x),.w (.bool d),.w (.int .i64 g),.sg 6 (l.map bvp) f1,.si pl f2,.sg 1 (ks.map AV.str) f3],.rf 4 9 0 0,.junk,.junk,.junk,.ms 5 1 0 (B ++ (pq (pl.length : Int) ++ catP (pl.take i))).length,.junk,.junk,.junk,.junk,.junk,.junk,.junk,.junk,.junk,.junk,.junk,.junk,.junk,.junk,.junk,.junk,.junk,.junk,.junk,.junk,.junk,.junk,.junk,.junk,.junk,.junk,.junk,.junk,.junk,.junk,.junk,.junk,.junk,.junk,.junk,.junk,.junk,.junk,.junk,.junk,.junk,.junk,.junk,.junk,.junk,.junk,.junk,.junk,.junk,.junk,.junk,.junk,.junk,.junk,.junk,.junk,.junk,.junk,.junk,.junk,.junk,.junk,.junk,.junk,.junk,.junk,.junk,.junk,.junk,.junk,.junk,.junk,.junk,.junk,.junk,.junk,.junk,.si pl f2,.w (.int .i64 pl.length),.w (.int .i64 i),.junk,.junk,.junk,.junk,.junk,.junk,.junk,.junk,.junk,.junk,.junk,.junk,.junk,.junk,.junk,.junk,.junk,.junk,.junk,.junk,.junk,.junk,.junk,.junk,.junk,.junk,.junk],[(4,.g 9 [.agg [.w (.int .u8 k),.w (.int .i64 er),.w (.int .i64 o),.w (.int .i64 x),.w (.bool d),.w (.int .i64 g),.sg 6 (l.map bvp) f1,.si pl f2,.sg 1 (ks.map AV.str) f3]]),(5,.b (B ++ (pq (pl.length : Int) ++ catP (pl.take i))))],6⟩,?_,?_⟩
         · refine ⟨_,_,zai [0,1,2,3,4,54] rfl rfl rfl ?_ ?_,0,rfl,by omega,rfl⟩
           · simp only [ssT,zao,zap,setSlot,gOf,AV.ren,renL,Blk.ren,Ax.look,Ax.put,reduceCtorEq,↓reduceIte,Nat.reduceEqDiff,Nat.reduceLT,Nat.reduceAdd,List.length_append,List.length_cons,List.length_nil,Option.some.injEq]; simp [catP]; try omega
           · simp only [ssT,zao,zap,setSlot,gOf,AV.ren,renL,Blk.ren,Ax.look,Ax.put,reduceCtorEq,↓reduceIte,Nat.reduceEqDiff,Nat.reduceLT,Nat.reduceAdd,List.length_append,List.length_cons,List.length_nil,Option.some.injEq]; try simp [catP]
         · rintro m σ ⟨i,rfl,hi,rfl⟩
           have cnt2 : (((B ++ (pq (pl.length : Int) ++ catP (pl.take i))).length : Nat)) ≤ 600000 + 10 * i := by
             have h1 := catP_len (pl.take i) (fun n hn => hpk n (List.mem_of_mem_take hn))
             have h2 : (pl.take i).length ≤ i := List.length_take_le _ _
             simp only [List.length_append]; omega
           by_cases hil : i < pl.length
           · have d2 : decide ((i : Int) < pl.length) = true := decide_eq_true (by omega)
             have e1 : ((i : Int) + 1 + 9223372036854775808) % 18446744073709551616 - 9223372036854775808 = ((i + 1 : Nat) : Int) := by omega
             have hs1 : pl.getD i 0 = pl[i] := by rw [List.getD_eq_getElem?_getD,List.getElem?_eq_getElem hil]; rfl
             have hsn := catP_snoc pl i hil
             have hsl := hpk pl[i] (List.getElem_mem hil)
             obtain ⟨n,hS⟩ : ∃ x,pl[i] = x := ⟨_,rfl⟩
             rw [hS] at hs1 hsn hsl
             have htl := zad n hsl
             unfold okI at hsl
             obtain ⟨X,hX⟩ : ∃ x,B ++ (pq (pl.length : Int) ++ catP (pl.take i)) = x := ⟨_,rfl⟩
             have hX2 : B ++ (pq (pl.length : Int) ++ catP (pl.take (i + 1))) = X ++ pq n := by rw [hsn,← hX]; simp
             have hX3 : B.length + ((pq (pl.length : Int)).length + (catP (pl.take (i + 1))).length) = X.length + (pq n).length := by simpa using congrArg List.length hX2
             rw [hX] at cnt2 ⊢
             simp only [go_sem,zaa,Nat.reduceAdd,Nat.reduceSub,Nat.reduceMul,Int.reduceToNat,reduceCtorEq,↓reduceIte,Int.reducePow,Nat.reducePow,Int.reduceMod,Nat.reduceLeDiff,Int.reduceLE,Int.reduceNe,Int.reduceEq,Nat.reduceEqDiff,Nat.reduceLT,Nat.reduceBEq,ty,SputA,d2,e1,hs1,putS,zct,hsl,tk,Int.toNat_natCast]
             repeat (refine And.intro (by first | omega | (unfold top; omega)) ?_)
             refine ⟨pl.length - (i + 1),_,by omega,zai [0,1,2,3,4,62] rfl rfl rfl ?_ ?_,i + 1,rfl,by omega,rfl⟩
             · simp only [ssT,zao,zap,setSlot,gOf,AV.ren,renL,Blk.ren,Ax.look,Ax.put,reduceCtorEq,↓reduceIte,Nat.reduceEqDiff,Nat.reduceLT,Nat.reduceAdd,List.length_append,List.length_cons,List.length_nil,Option.some.injEq,hX2,hX3]
             · simp only [ssT,zao,zap,setSlot,gOf,AV.ren,renL,Blk.ren,Ax.look,Ax.put,reduceCtorEq,↓reduceIte,Nat.reduceEqDiff,Nat.reduceLT,Nat.reduceAdd,List.length_append,List.length_cons,List.length_nil,Option.some.injEq,hX2,hX3]
           · have d2 : decide ((i : Int) < pl.length) = false := decide_eq_false (by omega)
             have hi2 : i = pl.length := by omega
             subst hi2
             rw [List.take_length] at cnt2 ⊢
             obtain ⟨D,hD⟩ : ∃ v,B ++ (pq (pl.length : Int) ++ catP pl) = v := ⟨_,rfl⟩
             rw [hD] at cnt2 ⊢
             have hDl : D.length ≤ 600000 + 10 * 64 := by omega
             simp only [go_sem,zaa,Nat.reduceAdd,Nat.reduceSub,Nat.reduceMul,Int.reduceToNat,reduceCtorEq,↓reduceIte,Int.reducePow,Nat.reducePow,Int.reduceMod,Nat.reduceLeDiff,Int.reduceLE,Int.reduceNe,Int.reduceEq,Nat.reduceEqDiff,Nat.reduceLT,Nat.reduceBEq,ty,SputA,hl3,d2]
             refine ⟨_,Weak.refl _,?_⟩
             simp only [go_sem,zaa,Nat.reduceAdd,Nat.reduceSub,Nat.reduceMul,Int.reduceToNat,reduceCtorEq,↓reduceIte,Int.reducePow,Nat.reducePow,Int.reduceMod,Nat.reduceLeDiff,Int.reduceLE,Int.reduceNe,Int.reduceEq,Nat.reduceEqDiff,Nat.reduceLT,Nat.reduceBEq,ty,SputA,putS,hl3,d2,rn3,zct,tk]
             repeat (refine And.intro (by first | omega | (unfold top; omega)) ?_)
             refine zdu ⟨fun m σ => ∃ i : Nat,m = ks.length - i ∧ i ≤ ks.length ∧
               σ = ⟨[.agg [.w (.int .u8 k),.w (.int .i64 er),.w (.int .i64 o),.w (.int .i64 x),.w (.bool d),.w (.int .i64 g),.sg 6 (l.map bvp) f1,.si pl f2,.sg 1 (ks.map AV.str) f3],.rf 4 9 0 0,.junk,.junk,.junk,.ms 5 1 0 (D ++ (pq (ks.length : Int) ++ catN (ks.take i))).length,.junk,.junk,.junk,.junk,.junk,.junk,.junk,.junk,.junk,.junk,.junk,.junk,.junk,.junk,.junk,.junk,.junk,.junk,.junk,.junk,.junk,.junk,.junk,.junk,.junk,.junk,.junk,.junk,.junk,.junk,.junk,.junk,.junk,.junk,.junk,.junk,.junk,.junk,.junk,.junk,.junk,.junk,.junk,.junk,.junk,.junk,.junk,.junk,.junk,.junk,.junk,.junk,.junk,.junk,.junk,.junk,.junk,.junk,.junk,.junk,.junk,.junk,.junk,.junk,.junk,.junk,.junk,.junk,.junk,.junk,.junk,.junk,.junk,.junk,.junk,.junk,.junk,.junk,.junk,.junk,.junk,.junk,.junk,.junk,.junk,.junk,.junk,.junk,.junk,.junk,.junk,.junk,.junk,.junk,.junk,.sg 1 (ks.map AV.str) f3,.w (.int .i64 ks.length),.w (.int .i64 i),.junk,.junk,.junk,.junk,.junk,.junk,.junk,.junk,.junk],[(4,.g 9 [.agg [.w (.int .u8 k),.w (.int .i64 er),.w (.int .i64 o),.w (.int .i64 x),.w (.bool d),.w (.int .i64 g),.sg 6 (l.map bvp) f1,.si pl f2,.sg 1 (ks.map AV.str) f3]]),(5,.b (D ++ (pq (ks.length : Int) ++ catN (ks.take i))))],6⟩,?_,?_⟩
             · refine ⟨_,_,zai [0,1,2,3,4,54] rfl rfl rfl ?_ ?_,0,rfl,by omega,rfl⟩
               · simp only [ssT,zao,zap,setSlot,gOf,AV.ren,renL,Blk.ren,Ax.look,Ax.put,reduceCtorEq,↓reduceIte,Nat.reduceEqDiff,Nat.reduceLT,Nat.reduceAdd,List.length_append,List.length_cons,List.length_nil,Option.some.injEq]; simp [catN]; try omega
               · simp only [ssT,zao,zap,setSlot,gOf,AV.ren,renL,Blk.ren,Ax.look,Ax.put,reduceCtorEq,↓reduceIte,Nat.reduceEqDiff,Nat.reduceLT,Nat.reduceAdd,List.length_append,List.length_cons,List.length_nil,Option.some.injEq]; try simp [catN]
             · rintro m σ ⟨i,rfl,hi,rfl⟩
               have cnt2 : (((D ++ (pq (ks.length : Int) ++ catN (ks.take i))).length : Nat)) ≤ 700000 + 265 * i := by
                 have h1 := catN_len (ks.take i) (fun s hs => hks s (List.mem_of_mem_take hs))
                 have h2 : (ks.take i).length ≤ i := List.length_take_le _ _
                 simp only [List.length_append]; omega
               by_cases hil : i < ks.length
               · have d2 : decide ((i : Int) < ks.length) = true := decide_eq_true (by omega)
                 have e1 : ((i : Int) + 1 + 9223372036854775808) % 18446744073709551616 - 9223372036854775808 = ((i + 1 : Nat) : Int) := by omega
                 have hs1 := zdv ks i hil
                 have hsn := catN_snoc ks i hil
                 have hsl := hks ks[i] (List.getElem_mem hil)
                 obtain ⟨s,hS⟩ : ∃ x,ks[i] = x := ⟨_,rfl⟩
                 rw [hS] at hs1 hsn hsl
                 have hsm : s.length ≤ 1000000 := by omega
                 have htl := zac s hsm
                 obtain ⟨X,hX⟩ : ∃ x,D ++ (pq (ks.length : Int) ++ catN (ks.take i)) = x := ⟨_,rfl⟩
                 have hX2 : D ++ (pq (ks.length : Int) ++ catN (ks.take (i + 1))) = X ++ zaj s := by rw [hsn,← hX]; simp
                 have hX3 : D.length + ((pq (ks.length : Int)).length + (catN (ks.take (i + 1))).length) = X.length + (zaj s).length := by simpa using congrArg List.length hX2
                 rw [hX] at cnt2 ⊢
                 simp only [go_sem,zaa,Nat.reduceAdd,Nat.reduceSub,Nat.reduceMul,Int.reduceToNat,reduceCtorEq,↓reduceIte,Int.reducePow,Nat.reducePow,Int.reduceMod,Nat.reduceLeDiff,Int.reduceLE,Int.reduceNe,Int.reduceEq,Nat.reduceEqDiff,Nat.reduceLT,Nat.reduceBEq,ty,SputA,hl3,d2,e1,hs1,zcp,hsm,tk,Int.toNat_natCast]
                 repeat (refine And.intro (by first | omega | (unfold top; omega)) ?_)
                 refine ⟨ks.length - (i + 1),_,by omega,zai [0,1,2,3,4,62] rfl rfl rfl ?_ ?_,i + 1,rfl,by omega,rfl⟩
                 · simp only [ssT,zao,zap,setSlot,gOf,AV.ren,renL,Blk.ren,Ax.look,Ax.put,reduceCtorEq,↓reduceIte,Nat.reduceEqDiff,Nat.reduceLT,Nat.reduceAdd,List.length_append,List.length_cons,List.length_nil,Option.some.injEq,hX2,hX3]
                 · simp only [ssT,zao,zap,setSlot,gOf,AV.ren,renL,Blk.ren,Ax.look,Ax.put,reduceCtorEq,↓reduceIte,Nat.reduceEqDiff,Nat.reduceLT,Nat.reduceAdd,List.length_append,List.length_cons,List.length_nil,Option.some.injEq,hX2,hX3]
               · have d2 : decide ((i : Int) < ks.length) = false := decide_eq_false (by omega)
                 have hi2 : i = ks.length := by omega
                 subst hi2
                 rw [List.take_length] at cnt2 ⊢
                 simp only [go_sem,zaa,Nat.reduceAdd,Nat.reduceSub,Nat.reduceMul,Int.reduceToNat,reduceCtorEq,↓reduceIte,Int.reducePow,Nat.reducePow,Int.reduceMod,Nat.reduceLeDiff,Int.reduceLE,Int.reduceNe,Int.reduceEq,Nat.reduceEqDiff,Nat.reduceLT,Nat.reduceBEq,ty,SputA,hl3,d2]
                 refine ⟨_,Weak.refl _,?_⟩
                 simp only [go_sem,zaa,Nat.reduceAdd,Nat.reduceSub,Nat.reduceMul,Int.reduceToNat,reduceCtorEq,↓reduceIte,Int.reducePow,Nat.reducePow,Int.reduceMod,Nat.reduceLeDiff,Int.reduceLE,Int.reduceNe,Int.reduceEq,Nat.reduceEqDiff,Nat.reduceLT,Nat.reduceBEq,ty,SputA,hl3,d2]
                 exact zav 2 3 (by decide) rfl rfl rfl (by simp) (by rw [hLay,← hD]; simp) rfl
   · have d0 := decide_eq_false hc
     have hE : errA k (l.map Prod.fst) pl ks = chkA k l.length pl.length ks := by unfold errA; rw [hfl,if_neg hc]
     have hO : putA k er o x d g (l.map Prod.fst) pl ks = [] := by unfold putA; rw [hE,if_neg hc]
     rw [hE,hO]
     obtain ⟨C,hC⟩ : ∃ v,chkA k l.length pl.length ks = v := ⟨_,rfl⟩
     rw [hC] at d0 ⊢
     simp only [go_sem,zaa,Nat.reduceAdd,Nat.reduceSub,Nat.reduceMul,Int.reduceToNat,reduceCtorEq,↓reduceIte,Int.reducePow,Nat.reducePow,Int.reduceMod,Nat.reduceLeDiff,Int.reduceLE,Int.reduceNe,Int.reduceEq,Nat.reduceEqDiff,Nat.reduceLT,Nat.reduceBEq,ty,SputA,chkAS,hl1,hl3,hmu,hC,hk0,hk1,c1,c2,c3,hex,d0]
     exact zci 2 3 (by decide) rfl rfl rfl rfl
 · exact hp.elim
end
end Go.Proofs.Ytmedjkjoannbmaa
namespace Go.Proofs.Ytmedjkjoannbmaa
open Ax
def bq22 (x : Bat) : AV := bav x (emp x.rs)
theorem bq_map (l : List Bat) : l.map bq22 = (l.map fun x => (x,emp x.rs)).map bvp := by
 rw [List.map_map]; rfl
theorem bq_ubat (l : List Bat) : (l.map bq22).map ubat = l := by
 rw [bq_map,zej,List.map_map]; exact List.map_id _
theorem closed_bq : ∀ (l : List Bat),closedL (l.map bq22) = true
 | [] => rfl
 | x :: r => by
   obtain ⟨b,c,p,e,s,rs⟩ := x
   simp only [List.map_cons,closedL,bq22,bav,AV.closed,Bool.true_and,closed_rv]; exact closed_bq r
theorem ren_bq (g : Nat → Nat) : ∀ (l : List Bat),renL g (l.map bq22) = l.map bq22
 | [] => rfl
 | x :: r => by simp only [List.map_cons,renL,ren_bq g r]; rfl
theorem closed_str22 : ∀ (l : List (List UInt8)),closedL (l.map AV.str) = true
 | [] => rfl
 | x :: r => by simp only [List.map_cons,closedL,AV.closed,Bool.true_and]; exact closed_str22 r
theorem ren_str22 (g : Nat → Nat) : ∀ (l : List (List UInt8)),renL g (l.map AV.str) = l.map AV.str
 | [] => rfl
 | x :: r => by simp only [List.map_cons,renL,ren_str22 g r]; rfl
theorem ids_str22 : ∀ (l : List (List UInt8)),idsL (l.map AV.str) = []
 | [] => rfl
 | x :: r => by simp only [List.map_cons,idsL,AV.ids,List.nil_append]; exact ids_str22 r
def respA (a : Rs) : AV := .agg [.w (.int .u8 a.k),.w (.int .i64 a.er),.w (.int .i64 a.o),.w (.int .i64 a.x),.w (.bool a.d),.w (.int .i64 a.g),.sg 6 (a.bl.map bq22) false,.si a.pl false,.sg 1 (a.nl.map AV.str) false]
instance decOkA (c : Cnt) (m : Int) (b : List UInt8) : Decidable (okA c m b) := by unfold okA; infer_instance
def gaR (b : List UInt8) : AV := if okA c64 8192 b then .tup [respA (rdA c64 8192 b),.w (.int .i64 0)] else .tup [(.agg [.w (.int .u8 0),.w (.int .i64 0),.w (.int .i64 0),.w (.int .i64 0),.w (.bool false),.w (.int .i64 0),.sg 6 [] true,.si [] true,.sg 1 [] true]),.w (.int .i64 4)]
def getAS22 : zaq
 | [.sb b f],[] => ⟨b.length ≤ 1000000,gaR b,[]⟩
 | _,_ => zbv
def manyS22 : zaq
 | [.rf 0 2 0 0],[.g 2 [.agg [.sb bs f,.w (.int k e)]]] => ⟨k = .i64 ∧ bs.length ≤ 1000000,.w (.int .i64 (min (max (numN bs e) 0) 64)),[rd (numL bs e) f (numE bs e)]⟩
 | _,_ => zbv
def Smany22 (f : FuncId) : Option zaq :=
 match f with
 | 52 => some numS
 | _ => none
theorem Smany22_ok : Fns Try.prog Smany22 := by
 intro f s h
 unfold Smany22 at h
 split at h
 · injection h with h; subst h; exact ⟨⟨_,Try.func52,by kernel_rfl,by kernel_rfl⟩,num_sound⟩
 · cases h
section
set_option maxRecDepth 100000
theorem many22_sound : zbf Try.prog 53 manyS22 := by
 refine zau (S := Smany22) (T := ty) zbj ty_ok Smany22_ok Try.func53 (c := Try.f53.body.getD .skip) (by kernel_rfl) (by kernel_rfl) (fun xs pins hp _ => ?_)
 unfold manyS22 at hp ⊢
 split at hp
 · rename_i bs f k e _
   obtain ⟨rfl,hb⟩ := hp
   refine ⟨by simp,?_⟩
   unfold Try.f53
   have e1 : (if 0 > numN bs e then 0 else numN bs e) = max (numN bs e) 0 := by split <;> omega
   have e2 : (if 64 < max (numN bs e) 0 then 64 else max (numN bs e) 0) = min (max (numN bs e) 0) 64 := by split <;> omega
   simp only [go_sem,coe,zaa,Nat.reduceAdd,Nat.reduceSub,Nat.reduceMul,Int.reduceToNat,reduceCtorEq,↓reduceIte,Int.reducePow,Nat.reducePow,Int.reduceMod,Nat.reduceLeDiff,Int.reduceLE,Int.reduceNe,Int.reduceEq,Nat.reduceEqDiff,Nat.reduceLT,Nat.reduceBEq,ty,Smany22,numS,hb,rd,e1,e2]
 · exact hp.elim
end
def zfo (f : FuncId) : Option zaq :=
 match f with
 | 45 => some newS
 | 46 => some zcs
 | 52 => some numS
 | 55 => some zcr
 | 48 => some zbq
 | 53 => some manyS22
 | 54 => some bgetS
 | 17 => some putAS
 | 49 => some zcn
 | _ => none
theorem SgetA22_ok : Fns Try.prog zfo := by
 intro f s h
 unfold zfo at h
 split at h
 · injection h with h; subst h; exact ⟨⟨_,Try.func45,by kernel_rfl,by kernel_rfl⟩,new_sound⟩
 · injection h with h; subst h; exact ⟨⟨_,Try.func46,by kernel_rfl,by kernel_rfl⟩,mfixed_sound⟩
 · injection h with h; subst h; exact ⟨⟨_,Try.func52,by kernel_rfl,by kernel_rfl⟩,num_sound⟩
 · injection h with h; subst h; exact ⟨⟨_,Try.func55,by kernel_rfl,by kernel_rfl⟩,mtext_sound⟩
 · injection h with h; subst h; exact ⟨⟨_,Try.func48,by kernel_rfl,by kernel_rfl⟩,done_sound⟩
 · injection h with h; subst h; exact ⟨⟨_,Try.func53,by kernel_rfl,by kernel_rfl⟩,many22_sound⟩
 · injection h with h; subst h; exact ⟨⟨_,Try.func54,by kernel_rfl,by kernel_rfl⟩,bget_sound⟩
 · injection h with h; subst h; exact ⟨⟨_,Try.func17,by kernel_rfl,by kernel_rfl⟩,putA_sound⟩
 · injection h with h; subst h; exact ⟨⟨_,Try.func49,by kernel_rfl,by kernel_rfl⟩,eqB22_sound⟩
 · cases h
def getAPl : XPlan := fun id => match id with
 | 15 => .prs [(0,3),(1,3)]
 | 19 => .prs [(0,3),(1,3)]
 | _ => .std
theorem itS_len (st : zcq → zcq) (hst : ∀ s,(st s).1.length ≤ s.1.length) (s : zcq) : ∀ i,(itS st s i).1.length ≤ s.1.length
 | 0 => Nat.le_refl _
 | i + 1 => Nat.le_trans (hst _) (itS_len st hst s i)
theorem gA_cases (b : List UInt8) {M : Rs} (hM : rdA c64 8192 b = M) {L : List UInt8} {E D C : Int} {W : List UInt8} (hQ : n1A c64 8192 b = (L,E)) (hD : (if E = 0 ∧ 0 < L.length then (4 : Int) else E) = D)
   (hC : errR M = C) (hW : putA M.k M.er M.o M.x M.d M.g M.bl M.pl M.nl = W) :
   (okA c64 8192 b ∧ decide (D = 0) = true ∧ decide (C = 0) = true ∧ decide (W = b) = true) ∨ (¬ okA c64 8192 b ∧ decide (D = 0) = false) ∨ (¬ okA c64 8192 b ∧ decide (D = 0) = true ∧ decide (C = 0) = false) ∨ (¬ okA c64 8192 b ∧ decide (D = 0) = true ∧ decide (C = 0) = true ∧ decide (W = b) = false) := by
 subst hM hC hW hD
 have hO : errR (rdA c64 8192 b) = 0 → putA (rdA c64 8192 b).k (rdA c64 8192 b).er (rdA c64 8192 b).o (rdA c64 8192 b).x (rdA c64 8192 b).d (rdA c64 8192 b).g (rdA c64 8192 b).bl (rdA c64 8192 b).pl (rdA c64 8192 b).nl = zfb (rdA c64 8192 b) := fun h => if_pos h
 by_cases hg : okA c64 8192 b
 · have h5 := (okA_same c64_good (Int.le_refl 8192) hg).2.2
   rw [hQ] at h5
   injection h5 with h5 h6
   subst h5 h6
   exact .inl ⟨hg,by simp,decide_eq_true hg.1,decide_eq_true ((hO hg.1).trans hg.2)⟩
 · by_cases h1 : (if E = 0 ∧ 0 < L.length then (4 : Int) else E) = 0
   · by_cases h2 : errR (rdA c64 8192 b) = 0
     · by_cases h3 : zfb (rdA c64 8192 b) = b
       · exact (hg ⟨h2,h3⟩).elim
       · exact .inr (.inr (.inr ⟨hg,decide_eq_true h1,decide_eq_true h2,decide_eq_false (by rw [hO h2]; exact h3)⟩))
     · exact .inr (.inr (.inl ⟨hg,decide_eq_true h1,decide_eq_false h2⟩))
   · exact .inr (.inl ⟨hg,decide_eq_false h1⟩)
section
set_option maxRecDepth 100000
set_option maxHeartbeats 16000000 in
theorem getA22_sound : zbf Try.prog 23 getAS22 := by
 refine zdx (S := zfo) (SO := noO) (T := ty) zbj ty_ok SgetA22_ok noO_ok Try.func23 (c := Try.f23.body.getD .skip) (by kernel_rfl) (fun xs pins hp _ => ?_)
 have hx : ∃ b f,xs = [.sb b f] ∧ pins = [] ∧ b.length ≤ 1000000 := by
   unfold getAS22 at hp
   split at hp
   · rename_i b f _
     exact ⟨b,f,rfl,rfl,hp⟩
   · exact hp.elim
 obtain ⟨b,f,rfl,rfl,hb⟩ := hx
 clear hp
 refine ⟨by simp,getAPl,by kernel_rfl,?_⟩
 obtain ⟨K,hK⟩ : ∃ x,kq b = x := ⟨_,rfl⟩
 obtain ⟨L0,E0,q0⟩ : ∃ x y,sq0 b = (x,y) := ⟨_,_,rfl⟩
 obtain ⟨L1,E1,q1⟩ : ∃ x y,h1A b = (x,y) := ⟨_,_,rfl⟩
 obtain ⟨L2,E2,q2⟩ : ∃ x y,h2A b = (x,y) := ⟨_,_,rfl⟩
 obtain ⟨L3,E3,q3⟩ : ∃ x y,h3A b = (x,y) := ⟨_,_,rfl⟩
 obtain ⟨L4,E4,q4⟩ : ∃ x y,h4A b = (x,y) := ⟨_,_,rfl⟩
 obtain ⟨L5,E5,q5⟩ : ∃ x y,h5A b = (x,y) := ⟨_,_,rfl⟩
 obtain ⟨L6,E6,q6⟩ : ∃ x y,b0A b = (x,y) := ⟨_,_,rfl⟩
 have a0 : zfg 1 b 0 = L0 := congrArg Prod.fst q0
 have z0 : rfixE 1 b 0 = E0 := congrArg Prod.snd q0
 have hK' : zei 1 b 0 % 256 = K := hK
 have p1 : stN (L0,E0) = (L1,E1) := by rw [← q0]; exact q1
 have a1 : numL L0 E0 = L1 := congrArg Prod.fst p1
 have z1 : numE L0 E0 = E1 := congrArg Prod.snd p1
 have p2 : stN (L1,E1) = (L2,E2) := by rw [← q1]; exact q2
 have a2 : numL L1 E1 = L2 := congrArg Prod.fst p2
 have z2 : numE L1 E1 = E2 := congrArg Prod.snd p2
 have p3 : stN (L2,E2) = (L3,E3) := by rw [← q2]; exact q3
 have a3 : numL L2 E2 = L3 := congrArg Prod.fst p3
 have z3 : numE L2 E2 = E3 := congrArg Prod.snd p3
 have p4 : stN (L3,E3) = (L4,E4) := by rw [← q3]; exact q4
 have a4 : numL L3 E3 = L4 := congrArg Prod.fst p4
 have z4 : numE L3 E3 = E4 := congrArg Prod.snd p4
 have p5 : stX (L4,E4) = (L5,E5) := by rw [← q4]; exact q5
 have a5 : zfg 1 L4 E4 = L5 := congrArg Prod.fst p5
 have z5 : rfixE 1 L4 E4 = E5 := congrArg Prod.snd p5
 have p6 : stN (L5,E5) = (L6,E6) := by rw [← q5]; exact q6
 have a6 : numL L5 E5 = L6 := congrArg Prod.fst p6
 have z6 : numE L5 E5 = E6 := congrArg Prod.snd p6
 have l0 : L0.length ≤ 1000000 := by have := zbg 1 b 0; rw [a0] at this; omega
 have l1 : L1.length ≤ 1000000 := by have := zby L0 E0; rw [a1] at this; omega
 have l2 : L2.length ≤ 1000000 := by have := zby L1 E1; rw [a2] at this; omega
 have l3 : L3.length ≤ 1000000 := by have := zby L2 E2; rw [a3] at this; omega
 have l4 : L4.length ≤ 1000000 := by have := zby L3 E3; rw [a4] at this; omega
 have l5 : L5.length ≤ 1000000 := by have := zbg 1 L4 E4; rw [a5] at this; omega
 have l6 : L6.length ≤ 1000000 := by have := zby L5 E5; rw [a6] at this; omega
 obtain ⟨er,v1⟩ : ∃ x,numN L0 E0 = x := ⟨_,rfl⟩
 obtain ⟨o,v2⟩ : ∃ x,numN L1 E1 = x := ⟨_,rfl⟩
 obtain ⟨x,v3⟩ : ∃ x,numN L2 E2 = x := ⟨_,rfl⟩
 obtain ⟨g,v4⟩ : ∃ x,numN L3 E3 = x := ⟨_,rfl⟩
 obtain ⟨d,v5⟩ : ∃ x,decide (zei 1 L4 E4 = 1) = x := ⟨_,rfl⟩
 obtain ⟨nb,hnb⟩ : ∃ n : Nat,bnA c64 8192 b = n := ⟨_,rfl⟩
 have v6 : min (max (numN L5 E5) 0) 64 = (nb : Int) := by
   have h := hnb
   unfold bnA c64 vP at h
   rw [q5] at h
   simp only at h
   omega
 have nb64 : nb ≤ 64 := by omega
 have hBl : ∀ i,(itS (stT 8192) (L6,E6) i).1.length ≤ 1000000 := fun i => Nat.le_trans (itS_len _ (fun s => rtL_length 8192 s.1 s.2) _ i) l6
 have tk : ∀ l : List UInt8,List.take l.length l = l := fun l => List.take_length
 unfold Try.f23
 simp only [go_sem,zab,Nat.reduceAdd,Nat.reduceSub,Nat.reduceMul,Int.reduceToNat,reduceCtorEq,↓reduceIte,Int.reducePow,Nat.reducePow,Int.reduceMod,Nat.reduceLeDiff,Int.reduceLE,Int.reduceNe,Int.reduceEq,Nat.reduceEqDiff,Nat.reduceLT,Nat.reduceBEq,List.map_cons,List.map_nil,List.toList_toArray,Array.toList_append,Option.toArray_some,Option.toArray_none,Bool.and_self,ty,zfo,getAPl,newS,zcs,numS,manyS22,rd,hb,a0,z0,hK',a1,z1,a2,z2,a3,z3,a4,z4,a5,z5,a6,z6,l0,l1,l2,l3,l4,l5,l6,v1,v2,v3,v4,v5,v6,Int.reduceLT,Int.reduceLE,fillS]
 refine awpO_loopW ⟨fun m σ => ∃ (i : Nat) (L : List UInt8) (E : Int) (BL : List Bat),m = nb - i ∧ i ≤ nb ∧ itS (stT 8192) (L6,E6) i = (L,E) ∧ itL (vB 8192) (stT 8192) (L6,E6) i = BL ∧
   σ = ⟨[.sb b f,.junk,.rf 4 9 0 0,.w (.int .i64 0),.rf 5 2 0 0,.rf 6 9 0 0,.junk,.junk,.junk,.junk,.junk,.junk,.junk,.junk,.junk,.junk,.junk,.junk,.junk,.junk,.junk,.junk,.junk,.junk,.junk,.junk,.junk,.junk,.junk,.junk,.junk,.junk,.junk,.w (.int .i64 nb),.w (.int .i64 i),.junk,.junk,.junk,.junk,.junk,.junk,.junk,.junk,.junk,.junk,.junk,.junk,.junk,.junk,.junk,.junk,.junk,.junk,.junk,.junk,.junk,.junk,.junk,.junk,.junk,.junk,.junk,.junk,.junk,.junk,.junk,.junk,.junk,.junk,.junk,.junk,.junk,.junk,.junk,.junk,.junk,.junk,.junk,.junk,.junk,.junk,.junk,.junk,.junk,.junk,.junk,.junk,.junk,.junk,.junk,.junk,.junk,.junk,.junk],[(4,.g 9 [(.agg [.w (.int .u8 0),.w (.int .i64 0),.w (.int .i64 0),.w (.int .i64 0),.w (.bool false),.w (.int .i64 0),.sg 6 [] true,.si [] true,.sg 1 [] true])]),(5,rd L false E),(6,.g 9 [(.agg [.w (.int .u8 K),.w (.int .i64 er),.w (.int .i64 o),.w (.int .i64 x),.w (.bool d),.w (.int .i64 g),.ms 7 6 0 i,.si [] true,.sg 1 [] true])]),(7,.g 6 (BL.map bq22))],8⟩,?_,?_⟩
 · refine ⟨_,_,(weak_nilC 76 9 6 6 _ (.g 6 []) rfl ⟨by decide,rfl⟩ (by exact trivial)).trans (zai [0,1,2,3,4,28,76,284] rfl rfl rfl ?_ ?_),0,L6,E6,[],rfl,by omega,rfl,rfl,rfl⟩
   · simp only [ssT,zao,zap,setSlot,gOf,AV.ren,renL,Blk.ren,Ax.look,Ax.put,reduceCtorEq,↓reduceIte,Nat.reduceEqDiff,Nat.reduceLT,Nat.reduceAdd,List.length_append,List.length_cons,List.length_nil,Option.some.injEq,setSlot,put]; try simp
   · simp only [ssT,zao,zap,setSlot,gOf,AV.ren,renL,Blk.ren,Ax.look,Ax.put,reduceCtorEq,↓reduceIte,Nat.reduceEqDiff,Nat.reduceLT,Nat.reduceAdd,List.length_append,List.length_cons,List.length_nil,Option.some.injEq,setSlot,put,rd]; try simp [renL]
 · rintro m σ ⟨i,L,E,BL,rfl,hi,hq,hBL,rfl⟩
   have hLl : L.length ≤ 1000000 := by have := hBl i; rw [hq] at this; exact this
   have hbl : (BL.map bq22).length = i := by rw [List.length_map,← hBL,itL_len]
   by_cases hil : i < nb
   · have d1 : decide ((i : Int) < (nb : Int)) = true := decide_eq_true (by omega)
     have ei : ((i : Int) + 1 + 9223372036854775808) % 18446744073709551616 - 9223372036854775808 = ((i + 1 : Nat) : Int) := by omega
     obtain ⟨S,hS⟩ : ∃ x,rtS' 8192 L E = x := ⟨_,rfl⟩
     obtain ⟨L',hL'⟩ : ∃ x,rtL 8192 L E = x := ⟨_,rfl⟩
     obtain ⟨E',hE'⟩ : ∃ x,rtE 8192 L E = x := ⟨_,rfl⟩
     have hSl : S.length ≤ 1000000 := by have := tkS_len22 8192 L E; rw [hS] at this; omega
     have hqn : itS (stT 8192) (L6,E6) (i + 1) = (L',E') := by unfold itS; rw [hq]; unfold stT; simp only [hL',hE']
     have hbn : itL (vB 8192) (stT 8192) (L6,E6) (i + 1) = BL ++ [zdg S] := by unfold itL; rw [hq,hBL]; unfold vB; simp only [hS]
     obtain ⟨G,hG⟩ : ∃ x,bgetE S = x := ⟨_,rfl⟩
     obtain ⟨B,hB⟩ : ∃ x,zdg S = x := ⟨_,rfl⟩
     rw [hB] at hbn
     obtain ⟨bb,c,p,e,s,rs⟩ := B
     have hcl := closed_bq (BL ++ [⟨bb,c,p,e,s,rs⟩])
     rw [List.map_append] at hcl
     have hcl2 : closedL (List.map bq22 BL ++ [.agg [.w (.int .i64 bb),.w (.int .i64 c),.w (.int .i64 p),.w (.int .i64 e),.w (.int .i64 s),.sg 6 (rs.map rv) (emp rs)]]) = true := hcl
     simp only [go_sem,zab,Nat.reduceAdd,Nat.reduceSub,Nat.reduceMul,Int.reduceToNat,reduceCtorEq,↓reduceIte,Int.reducePow,Nat.reducePow,Int.reduceMod,Nat.reduceLeDiff,Int.reduceLE,Int.reduceNe,Int.reduceEq,Nat.reduceEqDiff,Nat.reduceLT,Nat.reduceBEq,List.map_cons,List.map_nil,List.toList_toArray,Array.toList_append,Option.toArray_some,Option.toArray_none,Bool.and_self,ty,zfo,getAPl,zcr,bgetS,rd,hLl,hS,hL',hE',hSl,hG,hB,bav,tk,d1,ei,hbl,closed_bq,closed_rv,hcl2,fillS]
     repeat (refine And.intro (by first | omega | (unfold top; omega) | decide) ?_)
     refine ⟨nb - (i + 1),_,by omega,zai [0,1,2,3,4,5,6,128] rfl rfl rfl ?_ ?_,i + 1,L',E',BL ++ [⟨bb,c,p,e,s,rs⟩],rfl,by omega,hqn,hbn,rfl⟩
     · simp only [ssT,zao,zap,setSlot,gOf,AV.ren,renL,Blk.ren,Ax.look,Ax.put,reduceCtorEq,↓reduceIte,Nat.reduceEqDiff,Nat.reduceLT,Nat.reduceAdd,List.length_append,List.length_cons,List.length_nil,Option.some.injEq]; try simp
     · simp only [ssT,zao,zap,setSlot,gOf,AV.ren,renL,Blk.ren,Ax.look,Ax.put,reduceCtorEq,↓reduceIte,Nat.reduceEqDiff,Nat.reduceLT,Nat.reduceAdd,List.length_append,List.length_cons,List.length_nil,Option.some.injEq,ren_bq]; try simp [bq22,bav,rd]
   · obtain rfl : i = nb := by omega
     have d1 : decide ((i : Int) < (i : Int)) = false := decide_eq_false (by omega)
     simp only [go_sem,zab,Nat.reduceAdd,Nat.reduceSub,Nat.reduceMul,Int.reduceToNat,reduceCtorEq,↓reduceIte,Int.reducePow,Nat.reducePow,Int.reduceMod,Nat.reduceLeDiff,Int.reduceLE,Int.reduceNe,Int.reduceEq,Nat.reduceEqDiff,Nat.reduceLT,Nat.reduceBEq,List.map_cons,List.map_nil,List.toList_toArray,Array.toList_append,Option.toArray_some,Option.toArray_none,Bool.and_self,ty,zfo,getAPl,d1]
     refine ⟨_,weak_fgB 7 6 5 6 (BL.map bq22) _ rfl (closed_bq _) rfl (by simp [slot,AV.ids]) (by simp [Blk.idsB,Blk.closed,closedL,AV.closed,idsL,AV.ids]),?_⟩
     have hdle : decide (0 + i ≤ (BL.map bq22).length) = true := decide_eq_true (by omega)
     have htk : (BL.map bq22).take i = BL.map bq22 := List.take_of_length_le (by omega)
     have qb1 : b1A c64 8192 b = (L,E) := by unfold b1A; rw [hnb,q6]; exact hq
     obtain ⟨L8,E8,q8⟩ : ∃ x y,p0A c64 8192 b = (x,y) := ⟨_,_,rfl⟩
     have p8 : stN (L,E) = (L8,E8) := by rw [← qb1]; exact q8
     have a8 : numL L E = L8 := congrArg Prod.fst p8
     have z8 : numE L E = E8 := congrArg Prod.snd p8
     have l8 : L8.length ≤ 1000000 := by have := zby L E; rw [a8] at this; omega
     obtain ⟨np,hnp⟩ : ∃ n : Nat,pnA c64 8192 b = n := ⟨_,rfl⟩
     have v8 : min (max (numN L E) 0) 64 = (np : Int) := by
       have h : c64 stN (p0A c64 8192 b) (vP (b1A c64 8192 b)) = np := hnp
       rw [qb1] at h
       unfold c64 vP at h
       simp only at h
       omega
     have np64 : np ≤ 64 := by omega
     have hPl : ∀ i,(itS stN (L8,E8) i).1.length ≤ 1000000 := fun i => Nat.le_trans (itS_len _ (fun s => zby s.1 s.2) _ i) l8
     simp only [fgL,fgH,AV.fg,Blk.fg,rd,Nat.reduceBEq,cond_true,cond_false,hdle,Bool.and_true,beq_self_eq_true,Bool.true_and,List.drop_zero,htk]
     simp only [go_sem,zab,Nat.reduceAdd,Nat.reduceSub,Nat.reduceMul,Int.reduceToNat,reduceCtorEq,↓reduceIte,Int.reducePow,Nat.reducePow,Int.reduceMod,Nat.reduceLeDiff,Int.reduceLE,Int.reduceNe,Int.reduceEq,Nat.reduceEqDiff,Nat.reduceLT,Nat.reduceBEq,List.map_cons,List.map_nil,List.toList_toArray,Array.toList_append,Option.toArray_some,Option.toArray_none,Bool.and_self,ty,zfo,getAPl,manyS22,rd,hLl,a8,z8,v8,fillS]
     refine awpO_loopW ⟨fun m σ => ∃ (j : Nat) (L : List UInt8) (E : Int) (PL : List Int),m = np - j ∧ j ≤ np ∧ itS stN (L8,E8) j = (L,E) ∧ itL vP stN (L8,E8) j = PL ∧
       σ = ⟨[.sb b f,.junk,.rf 4 9 0 0,.w (.int .i64 0),.rf 5 2 0 0,.rf 6 9 0 0,.junk,.junk,.junk,.junk,.junk,.junk,.junk,.junk,.junk,.junk,.junk,.junk,.junk,.junk,.junk,.junk,.junk,.junk,.junk,.junk,.junk,.junk,.junk,.junk,.junk,.junk,.junk,.junk,.junk,.junk,.junk,.junk,.junk,.junk,.junk,.junk,.junk,.junk,.junk,.junk,.junk,.junk,.junk,.junk,.junk,.w (.int .i64 np),.w (.int .i64 j),.junk,.junk,.junk,.junk,.junk,.junk,.junk,.junk,.junk,.junk,.junk,.junk,.junk,.junk,.junk,.junk,.junk,.junk,.junk,.junk,.junk,.junk,.junk,.junk,.junk,.junk,.junk,.junk,.junk,.junk,.junk,.junk,.junk,.junk,.junk,.junk,.junk,.junk,.junk,.junk,.junk],[(4,.g 9 [(.agg [.w (.int .u8 0),.w (.int .i64 0),.w (.int .i64 0),.w (.int .i64 0),.w (.bool false),.w (.int .i64 0),.sg 6 [] true,.si [] true,.sg 1 [] true])]),(5,rd L false E),(6,.g 9 [(.agg [.w (.int .u8 K),.w (.int .i64 er),.w (.int .i64 o),.w (.int .i64 x),.w (.bool d),.w (.int .i64 g),.sg 6 (BL.map bq22) false,.ms 7 1 0 j,.sg 1 [] true])]),(7,.i PL)],8⟩,?_,?_⟩
     · refine ⟨_,_,(weak_nilC 6 9 7 1 _ (.i []) rfl rfl (by exact trivial)).trans (zai [0,1,2,3,4,5,6,40] rfl rfl rfl ?_ ?_),0,L8,E8,[],rfl,by omega,rfl,rfl,rfl⟩
       · simp only [ssT,zao,zap,setSlot,gOf,AV.ren,renL,Blk.ren,Ax.look,Ax.put,reduceCtorEq,↓reduceIte,Nat.reduceEqDiff,Nat.reduceLT,Nat.reduceAdd,List.length_append,List.length_cons,List.length_nil,Option.some.injEq,setSlot,put]; try simp
       · simp only [ssT,zao,zap,setSlot,gOf,AV.ren,renL,Blk.ren,Ax.look,Ax.put,reduceCtorEq,↓reduceIte,Nat.reduceEqDiff,Nat.reduceLT,Nat.reduceAdd,List.length_append,List.length_cons,List.length_nil,Option.some.injEq,setSlot,put,rd,ren_bq]; try simp [renL]
     · rintro m σ ⟨j,L,E,PL,rfl,hj,hq,hPL,rfl⟩
       have hLl : L.length ≤ 1000000 := by have := hPl j; rw [hq] at this; exact this
       have hpl : PL.length = j := by rw [← hPL,itL_len]
       by_cases hjl : j < np
       · have d1 : decide ((j : Int) < (np : Int)) = true := decide_eq_true (by omega)
         have ei : ((j : Int) + 1 + 9223372036854775808) % 18446744073709551616 - 9223372036854775808 = ((j + 1 : Nat) : Int) := by omega
         obtain ⟨V,hV⟩ : ∃ x,numN L E = x := ⟨_,rfl⟩
         obtain ⟨L',hL'⟩ : ∃ x,numL L E = x := ⟨_,rfl⟩
         obtain ⟨E',hE'⟩ : ∃ x,numE L E = x := ⟨_,rfl⟩
         have hqn : itS stN (L8,E8) (j + 1) = (L',E') := by unfold itS; rw [hq]; unfold stN; simp only [hL',hE']
         have hbn : itL vP stN (L8,E8) (j + 1) = PL ++ [V] := by unfold itL; rw [hq,hPL]; unfold vP; simp only [hV]
         simp only [go_sem,zab,Nat.reduceAdd,Nat.reduceSub,Nat.reduceMul,Int.reduceToNat,reduceCtorEq,↓reduceIte,Int.reducePow,Nat.reducePow,Int.reduceMod,Nat.reduceLeDiff,Int.reduceLE,Int.reduceNe,Int.reduceEq,Nat.reduceEqDiff,Nat.reduceLT,Nat.reduceBEq,List.map_cons,List.map_nil,List.toList_toArray,Array.toList_append,Option.toArray_some,Option.toArray_none,Bool.and_self,ty,zfo,getAPl,numS,rd,hLl,hV,hL',hE',d1,ei,hpl,fillS]
         repeat (refine And.intro (by first | omega | (unfold top; omega) | decide) ?_)
         refine ⟨np - (j + 1),_,by omega,zai [0,1,2,3,4,5,6,56] rfl rfl rfl ?_ ?_,j + 1,L',E',PL ++ [V],rfl,by omega,hqn,hbn,rfl⟩
         · simp only [ssT,zao,zap,setSlot,gOf,AV.ren,renL,Blk.ren,Ax.look,Ax.put,reduceCtorEq,↓reduceIte,Nat.reduceEqDiff,Nat.reduceLT,Nat.reduceAdd,List.length_append,List.length_cons,List.length_nil,Option.some.injEq]; try simp
         · simp only [ssT,zao,zap,setSlot,gOf,AV.ren,renL,Blk.ren,Ax.look,Ax.put,reduceCtorEq,↓reduceIte,Nat.reduceEqDiff,Nat.reduceLT,Nat.reduceAdd,List.length_append,List.length_cons,List.length_nil,Option.some.injEq,ren_bq]; try simp [rd,renL]
       · obtain rfl : j = np := by omega
         have d1 : decide ((j : Int) < (j : Int)) = false := decide_eq_false (by omega)
         simp only [go_sem,zab,Nat.reduceAdd,Nat.reduceSub,Nat.reduceMul,Int.reduceToNat,reduceCtorEq,↓reduceIte,Int.reducePow,Nat.reducePow,Int.reduceMod,Nat.reduceLeDiff,Int.reduceLE,Int.reduceNe,Int.reduceEq,Nat.reduceEqDiff,Nat.reduceLT,Nat.reduceBEq,List.map_cons,List.map_nil,List.toList_toArray,Array.toList_append,Option.toArray_some,Option.toArray_none,Bool.and_self,ty,zfo,getAPl,d1]
         refine ⟨_,weak_fiB 7 5 6 PL _ rfl rfl (by simp [slot,AV.ids]) (by simp [Blk.idsB,Blk.closed,closedL,AV.closed,idsL,AV.ids]),?_⟩
         have hdle : decide (0 + j ≤ PL.length) = true := decide_eq_true (by omega)
         have htk : PL.take j = PL := List.take_of_length_le (by omega)
         have qp1 : p1A c64 8192 b = (L,E) := by unfold p1A; rw [hnp,q8]; exact hq
         obtain ⟨L9,E9,q9⟩ : ∃ x y,n0A c64 8192 b = (x,y) := ⟨_,_,rfl⟩
         have p9 : stN (L,E) = (L9,E9) := by rw [← qp1]; exact q9
         have a9 : numL L E = L9 := congrArg Prod.fst p9
         have z9 : numE L E = E9 := congrArg Prod.snd p9
         have l9 : L9.length ≤ 1000000 := by have := zby L E; rw [a9] at this; omega
         obtain ⟨nn,hnn⟩ : ∃ n : Nat,nnA c64 8192 b = n := ⟨_,rfl⟩
         have v9 : min (max (numN L E) 0) 64 = (nn : Int) := by
           have h : c64 (stT 255) (n0A c64 8192 b) (vP (p1A c64 8192 b)) = nn := hnn
           rw [qp1] at h
           unfold c64 vP at h
           simp only at h
           omega
         have nn64 : nn ≤ 64 := by omega
         have hNl : ∀ i,(itS (stT 255) (L9,E9) i).1.length ≤ 1000000 := fun i => Nat.le_trans (itS_len _ (fun s => rtL_length 255 s.1 s.2) _ i) l9
         simp only [fiL,fiH,AV.fi,Blk.fi,rd,Nat.reduceBEq,cond_true,cond_false,hdle,Bool.and_true,beq_self_eq_true,Bool.true_and,List.drop_zero,htk]
         simp only [go_sem,zab,Nat.reduceAdd,Nat.reduceSub,Nat.reduceMul,Int.reduceToNat,reduceCtorEq,↓reduceIte,Int.reducePow,Nat.reducePow,Int.reduceMod,Nat.reduceLeDiff,Int.reduceLE,Int.reduceNe,Int.reduceEq,Nat.reduceEqDiff,Nat.reduceLT,Nat.reduceBEq,List.map_cons,List.map_nil,List.toList_toArray,Array.toList_append,Option.toArray_some,Option.toArray_none,Bool.and_self,ty,zfo,getAPl,manyS22,rd,hLl,a9,z9,v9,fillS]
         refine awpO_loopW ⟨fun m σ => ∃ (u : Nat) (L : List UInt8) (E : Int) (NL : List (List UInt8)),m = nn - u ∧ u ≤ nn ∧ itS (stT 255) (L9,E9) u = (L,E) ∧ itL vN (stT 255) (L9,E9) u = NL ∧
           σ = ⟨[.sb b f,.junk,.rf 4 9 0 0,.w (.int .i64 0),.rf 5 2 0 0,.rf 6 9 0 0,.junk,.junk,.junk,.junk,.junk,.junk,.junk,.junk,.junk,.junk,.junk,.junk,.junk,.junk,.junk,.junk,.junk,.junk,.junk,.junk,.junk,.junk,.junk,.junk,.junk,.junk,.junk,.junk,.junk,.junk,.junk,.junk,.junk,.junk,.junk,.junk,.junk,.junk,.junk,.junk,.junk,.junk,.junk,.junk,.junk,.junk,.junk,.junk,.junk,.junk,.junk,.junk,.junk,.junk,.junk,.junk,.junk,.w (.int .i64 nn),.w (.int .i64 u),.junk,.junk,.junk,.junk,.junk,.junk,.junk,.junk,.junk,.junk,.junk,.junk,.junk,.junk,.junk,.junk,.junk,.junk,.junk,.junk,.junk,.junk,.junk,.junk,.junk,.junk,.junk,.junk,.junk],[(4,.g 9 [(.agg [.w (.int .u8 0),.w (.int .i64 0),.w (.int .i64 0),.w (.int .i64 0),.w (.bool false),.w (.int .i64 0),.sg 6 [] true,.si [] true,.sg 1 [] true])]),(5,rd L false E),(6,.g 9 [(.agg [.w (.int .u8 K),.w (.int .i64 er),.w (.int .i64 o),.w (.int .i64 x),.w (.bool d),.w (.int .i64 g),.sg 6 (BL.map bq22) false,.si PL false,.ms 7 1 0 u])]),(7,.g 1 (NL.map AV.str))],8⟩,?_,?_⟩
         · refine ⟨_,_,(weak_nilC 6 9 8 1 _ (.g 1 []) rfl ⟨by decide,rfl⟩ (by exact trivial)).trans (zai [0,1,2,3,4,5,6,40] rfl rfl rfl ?_ ?_),0,L9,E9,[],rfl,by omega,rfl,rfl,rfl⟩
           · simp only [ssT,zao,zap,setSlot,gOf,AV.ren,renL,Blk.ren,Ax.look,Ax.put,reduceCtorEq,↓reduceIte,Nat.reduceEqDiff,Nat.reduceLT,Nat.reduceAdd,List.length_append,List.length_cons,List.length_nil,Option.some.injEq,setSlot,put]; try simp
           · simp only [ssT,zao,zap,setSlot,gOf,AV.ren,renL,Blk.ren,Ax.look,Ax.put,reduceCtorEq,↓reduceIte,Nat.reduceEqDiff,Nat.reduceLT,Nat.reduceAdd,List.length_append,List.length_cons,List.length_nil,Option.some.injEq,setSlot,put,rd,ren_bq]; try simp [renL]
         · rintro m σ ⟨u,L,E,NL,rfl,hu,hq,hNL,rfl⟩
           have hLl : L.length ≤ 1000000 := by have := hNl u; rw [hq] at this; exact this
           have hnl : (NL.map AV.str).length = u := by rw [List.length_map,← hNL,itL_len]
           by_cases hul : u < nn
           · have d1 : decide ((u : Int) < (nn : Int)) = true := decide_eq_true (by omega)
             have ei : ((u : Int) + 1 + 9223372036854775808) % 18446744073709551616 - 9223372036854775808 = ((u + 1 : Nat) : Int) := by omega
             obtain ⟨V,hV⟩ : ∃ x,rtS' 255 L E = x := ⟨_,rfl⟩
             obtain ⟨L',hL'⟩ : ∃ x,rtL 255 L E = x := ⟨_,rfl⟩
             obtain ⟨E',hE'⟩ : ∃ x,rtE 255 L E = x := ⟨_,rfl⟩
             have hqn : itS (stT 255) (L9,E9) (u + 1) = (L',E') := by unfold itS; rw [hq]; unfold stT; simp only [hL',hE']
             have hbn : itL vN (stT 255) (L9,E9) (u + 1) = NL ++ [V] := by unfold itL; rw [hq,hNL]; unfold vN; simp only [hV]
             have hcl := closed_str22 (NL ++ [V])
             rw [List.map_append] at hcl
             have hcl2 : closedL (List.map AV.str NL ++ [AV.str V]) = true := hcl
             have hid := ids_str22 (NL ++ [V])
             rw [List.map_append] at hid
             have hid2 : idsL (List.map AV.str NL ++ [AV.str V]) = [] := hid
             simp only [go_sem,zab,Nat.reduceAdd,Nat.reduceSub,Nat.reduceMul,Int.reduceToNat,reduceCtorEq,↓reduceIte,Int.reducePow,Nat.reducePow,Int.reduceMod,Nat.reduceLeDiff,Int.reduceLE,Int.reduceNe,Int.reduceEq,Nat.reduceEqDiff,Nat.reduceLT,Nat.reduceBEq,List.map_cons,List.map_nil,List.toList_toArray,Array.toList_append,Option.toArray_some,Option.toArray_none,Bool.and_self,ty,zfo,getAPl,zcr,rd,hLl,hV,hL',hE',d1,ei,hnl,closed_str22,ids_str22,List.elem_nil,List.all_nil,hid2,hcl2,fillS]
             repeat (refine And.intro (by first | omega | (unfold top; omega) | decide) ?_)
             refine ⟨nn - (u + 1),_,by omega,zai [0,1,2,3,4,5,6,56] rfl rfl rfl ?_ ?_,u + 1,L',E',NL ++ [V],rfl,by omega,hqn,hbn,rfl⟩
             · simp only [ssT,zao,zap,setSlot,gOf,AV.ren,renL,Blk.ren,Ax.look,Ax.put,reduceCtorEq,↓reduceIte,Nat.reduceEqDiff,Nat.reduceLT,Nat.reduceAdd,List.length_append,List.length_cons,List.length_nil,Option.some.injEq]; try simp
             · simp only [ssT,zao,zap,setSlot,gOf,AV.ren,renL,Blk.ren,Ax.look,Ax.put,reduceCtorEq,↓reduceIte,Nat.reduceEqDiff,Nat.reduceLT,Nat.reduceAdd,List.length_append,List.length_cons,List.length_nil,Option.some.injEq,ren_bq,ren_str22]; try simp [rd,renL]
           · obtain rfl : u = nn := by omega
             have d1 : decide ((u : Int) < (u : Int)) = false := decide_eq_false (by omega)
             simp only [go_sem,zab,Nat.reduceAdd,Nat.reduceSub,Nat.reduceMul,Int.reduceToNat,reduceCtorEq,↓reduceIte,Int.reducePow,Nat.reducePow,Int.reduceMod,Nat.reduceLeDiff,Int.reduceLE,Int.reduceNe,Int.reduceEq,Nat.reduceEqDiff,Nat.reduceLT,Nat.reduceBEq,List.map_cons,List.map_nil,List.toList_toArray,Array.toList_append,Option.toArray_some,Option.toArray_none,Bool.and_self,ty,zfo,getAPl,d1]
             refine ⟨_,weak_fgB 7 1 5 6 (NL.map AV.str) _ rfl (closed_str22 _) rfl (by simp [slot,AV.ids]) (by simp [Blk.idsB,Blk.closed,closedL,AV.closed,idsL,AV.ids]),?_⟩
             have hdle : decide (0 + u ≤ (NL.map AV.str).length) = true := decide_eq_true (by omega)
             have htk : (NL.map AV.str).take u = NL.map AV.str := List.take_of_length_le (by omega)
             have qn1 : n1A c64 8192 b = (L,E) := by unfold n1A; rw [hnn,q9]; exact hq
             have hM : rdA c64 8192 b = ⟨K,er,o,x,d,g,BL,PL,NL⟩ := by
               unfold rdA
               rw [hK,q0,q1,q2,q3,q4,q6,q8,q9,hnb,hnp,hnn,hBL,hPL,hNL]
               unfold vP vX
               simp only [v1,v2,v3,v4,v5]
             obtain ⟨D,hD⟩ : ∃ x,(if E = 0 ∧ 0 < L.length then (4 : Int) else E) = x := ⟨_,rfl⟩
             obtain ⟨C,hC⟩ : ∃ y,errR ⟨K,er,o,x,d,g,BL,PL,NL⟩ = y := ⟨_,rfl⟩
             obtain ⟨W,hW⟩ : ∃ y,putA K er o x d g BL PL NL = y := ⟨_,rfl⟩
             have hcase := gA_cases b hM qn1 hD hC hW
             have hC' : errA K BL PL NL = C := hC
             have hfit := rdA_fit c64 8192 b
             rw [hM] at hfit
             obtain ⟨hk,f1,f2,f3,f4,f5⟩ := hfit
             simp only at hk f1 f2 f3 f4 f5
             have hVok : okA c64 8192 b → gaR b = .tup [(.agg [.w (.int .u8 K),.w (.int .i64 er),.w (.int .i64 o),.w (.int .i64 x),.w (.bool d),.w (.int .i64 g),.sg 6 (BL.map bq22) false,.si PL false,.sg 1 (NL.map AV.str) false]),.w (.int .i64 0)] := by
               intro h; unfold gaR; rw [if_pos h,hM]; rfl
             have hVno : ¬ okA c64 8192 b → gaR b = .tup [(.agg [.w (.int .u8 0),.w (.int .i64 0),.w (.int .i64 0),.w (.int .i64 0),.w (.bool false),.w (.int .i64 0),.sg 6 [] true,.si [] true,.sg 1 [] true]),.w (.int .i64 4)] := fun h => if_neg h
             have hub := bq_ubat BL
             have hus := zcc NL
             have g1 : (BL.map bq22).length ≤ 1000000 := by omega
             have g2 : PL.length ≤ 1000000 := by omega
             have g3 : (NL.map AV.str).length ≤ 1000000 := by omega
             have hall : ∀ x ∈ BL,x.rs.length ≤ 40 := by
               intro y hy
               have := itL_all (fun y : Bat => y.rs.length ≤ 40) (vB 8192) (stT 8192) (L6,E6) (fun s => Nat.le_trans (bget0_recs _) (by decide)) i
               rw [hBL] at this
               exact this y hy
             have hx1 : ∃ l : List (Bat × Bool),BL.map bq22 = l.map bvp ∧ ∀ p ∈ l,p.1.rs.length ≤ 40 := by
               refine ⟨BL.map fun x => (x,emp x.rs),bq_map BL,?_⟩
               intro p hp
               obtain ⟨y,hy,rfl⟩ := List.mem_map.1 hp
               exact hall y hy
             have hx2 : ∃ ks : List (List UInt8),NL.map AV.str = ks.map AV.str := ⟨NL,rfl⟩
             have hcq : coe ty 38 (.sg 6 (BL.map bq22) false) = .sg 6 (BL.map bq22) false := by cases BL <;> rfl
             have hcz : coe ty 40 (.sg 1 (NL.map AV.str) false) = .sg 1 (NL.map AV.str) false := zcz NL false
             simp only [fgL,fgH,AV.fg,Blk.fg,rd,Nat.reduceBEq,cond_true,cond_false,hdle,Bool.and_true,beq_self_eq_true,Bool.true_and,List.drop_zero,htk]
             generalize BL.map bq22 = XB at hub g1 hx1 hcq hVok ⊢
             generalize NL.map AV.str = XN at hus g3 hx2 hcz hVok ⊢
             rcases hcase with X | X | X | X
             · have hv := hVok X.1
               simp only [go_sem,zab,Nat.reduceAdd,Nat.reduceSub,Nat.reduceMul,Int.reduceToNat,reduceCtorEq,↓reduceIte,Int.reducePow,Nat.reducePow,Int.reduceMod,Nat.reduceLeDiff,Int.reduceLE,Int.reduceNe,Int.reduceEq,Nat.reduceEqDiff,Nat.reduceLT,Nat.reduceBEq,List.map_cons,List.map_nil,List.toList_toArray,Array.toList_append,Option.toArray_some,Option.toArray_none,Bool.and_self,ty,zfo,getAPl,zbq,putAS,zcn,getAS22,rd,hk,f1,f2,f3,f4,f5,g1,g2,g3,hx1,hx2,hub,hus,hcq,hcz,hC',hW,hD,tk,X.2,hv,fillS]
               repeat (refine And.intro (by first | omega | decide) ?_)
               refine ⟨_,Weak.refl _,?_⟩
               simp only [go_sem,zab,Nat.reduceAdd,Nat.reduceSub,Nat.reduceMul,Int.reduceToNat,reduceCtorEq,↓reduceIte,Int.reducePow,Nat.reducePow,Int.reduceMod,Nat.reduceLeDiff,Int.reduceLE,Int.reduceNe,Int.reduceEq,Nat.reduceEqDiff,Nat.reduceLT,Nat.reduceBEq,List.map_cons,List.map_nil,List.toList_toArray,Array.toList_append,Option.toArray_some,Option.toArray_none,Bool.and_self,ty,getAS22,hv]
             all_goals
               have hv := hVno X.1
               simp only [go_sem,zab,Nat.reduceAdd,Nat.reduceSub,Nat.reduceMul,Int.reduceToNat,reduceCtorEq,↓reduceIte,Int.reducePow,Nat.reducePow,Int.reduceMod,Nat.reduceLeDiff,Int.reduceLE,Int.reduceNe,Int.reduceEq,Nat.reduceEqDiff,Nat.reduceLT,Nat.reduceBEq,List.map_cons,List.map_nil,List.toList_toArray,Array.toList_append,Option.toArray_some,Option.toArray_none,Bool.and_self,ty,zfo,getAPl,zbq,putAS,zcn,getAS22,rd,hk,f1,f2,f3,f4,f5,g1,g2,g3,hx1,hx2,hub,hus,hcq,hcz,hC',hW,hD,tk,X.2,hv,fillS]
               repeat (refine And.intro (by first | omega | decide) ?_)
               refine ⟨_,Weak.refl _,?_⟩
               simp only [go_sem,zab,Nat.reduceAdd,Nat.reduceSub,Nat.reduceMul,Int.reduceToNat,reduceCtorEq,↓reduceIte,Int.reducePow,Nat.reducePow,Int.reduceMod,Nat.reduceLeDiff,Int.reduceLE,Int.reduceNe,Int.reduceEq,Nat.reduceEqDiff,Nat.reduceLT,Nat.reduceBEq,List.map_cons,List.map_nil,List.toList_toArray,Array.toList_append,Option.toArray_some,Option.toArray_none,Bool.and_self,ty,getAS22,hv]
end
end Go.Proofs.Ytmedjkjoannbmaa
namespace Go.Proofs.Ytmedjkjoannbmaa
open Ax
def eqI22S : zaq
 | [.si xs f,.si ys g],[] => ⟨xs.length ≤ 1000000 ∧ ys.length ≤ 1000000,.w (.bool (decide (xs = ys))),[]⟩
 | _,_ => zbv
section
set_option maxRecDepth 100000
set_option maxHeartbeats 1000000 in
theorem eqI22_sound : zbf Try.prog 42 eqI22S := by
 refine zau (S := noS) (T := ty) zbj ty_ok zcy Try.func42 (c := Try.f42.body.getD .skip) (by kernel_rfl) (by kernel_rfl) (fun xs pins hp _ => ?_)
 unfold eqI22S at hp ⊢
 split at hp
 · rename_i es f gs g _
   obtain ⟨hL1,hL2⟩ := hp
   refine ⟨by simp,?_⟩
   unfold Try.f42
   by_cases hl : es.length = gs.length
   · have d0 : decide ((es.length : Int) = gs.length) = true := decide_eq_true (by omega)
     have hk : es = gs ↔ ∀ j (h : j < es.length) (h' : j < gs.length),es[j] = gs[j] := ⟨fun h => by subst h; intros; rfl,fun h => List.ext_getElem hl h⟩
     simp only [go_sem,zaa,Nat.reduceAdd,Nat.reduceSub,Nat.reduceMul,Int.reduceToNat,reduceCtorEq,↓reduceIte,Int.reducePow,Nat.reducePow,Int.reduceMod,Nat.reduceLeDiff,Int.reduceLE,Int.reduceNe,Int.reduceEq,Nat.reduceEqDiff,Nat.reduceLT,Nat.reduceBEq,ty,noS,d0]
     refine zde ⟨fun m σ => ∃ i : Nat,m = es.length - i ∧ i ≤ es.length ∧ (∀ j (h : j < es.length) (h' : j < gs.length),j < i → es[j] = gs[j]) ∧
         σ = ⟨[.si es f,.si gs g,.junk,.junk,.junk,.junk,.junk,.junk,.junk,.junk,.junk,.junk,.w (.int .i64 es.length),.w (.int .i64 i),.junk,.junk,.junk,.junk,.junk,.junk,.junk,.junk,.junk,.junk,.junk,.junk],[],4⟩,?_,?_⟩
     · refine ⟨_,_,zai [0,1,2,3] rfl rfl rfl ?_ ?_,0,rfl,by omega,by intro j _ _ h; omega,rfl⟩
       · simp only [ssT,zao,zap,setSlot,gOf,AV.ren,renL,Blk.ren,Ax.look,Ax.put,reduceCtorEq,↓reduceIte,Nat.reduceEqDiff,Nat.reduceLT,Nat.reduceAdd,List.length_append,List.length_cons,List.length_nil,Option.some.injEq]; simp
       · simp only [ssT,zao,zap,setSlot,gOf,AV.ren,renL,Blk.ren,Ax.look,Ax.put,reduceCtorEq,↓reduceIte,Nat.reduceEqDiff,Nat.reduceLT,Nat.reduceAdd,List.length_append,List.length_cons,List.length_nil,Option.some.injEq]
     · rintro m σ ⟨i,rfl,hi,hall,rfl⟩
       by_cases hil : i < es.length
       · have d1 : decide ((i : Int) < es.length) = true := decide_eq_true (by omega)
         have e1 : ((i : Int) + 1 + 9223372036854775808) % 18446744073709551616 - 9223372036854775808 = ((i + 1 : Nat) : Int) := by omega
         have hiq : i < gs.length := by omega
         have hs1 : es.getD i 0 = es[i] := by rw [List.getD_eq_getElem?_getD,List.getElem?_eq_getElem hil]; rfl
         have hs2 : gs.getD i 0 = gs[i] := by rw [List.getD_eq_getElem?_getD,List.getElem?_eq_getElem hiq]; rfl
         obtain ⟨P,hP⟩ : ∃ P,es[i] = P := ⟨_,rfl⟩
         obtain ⟨Q,hQ⟩ : ∃ Q,gs[i] = Q := ⟨_,rfl⟩
         rw [hP] at hs1
         rw [hQ] at hs2
         by_cases ha : P = Q
         · have da : decide (P = Q) = true := decide_eq_true ha
           simp only [go_sem,zaa,Nat.reduceAdd,Nat.reduceSub,Nat.reduceMul,Int.reduceToNat,reduceCtorEq,↓reduceIte,Int.reducePow,Nat.reducePow,Int.reduceMod,Nat.reduceLeDiff,Int.reduceLE,Int.reduceNe,Int.reduceEq,Nat.reduceEqDiff,Nat.reduceLT,Nat.reduceBEq,ty,noS,d1,hs1,hs2,e1,da,Int.toNat_natCast]
           repeat (refine And.intro (by omega) ?_)
           refine ⟨es.length - (i + 1),_,by omega,zai [0,1,2,3] rfl rfl rfl ?_ ?_,i + 1,rfl,by omega,?_,rfl⟩
           · simp only [ssT,zao,zap,setSlot,gOf,AV.ren,renL,Blk.ren,Ax.look,Ax.put,reduceCtorEq,↓reduceIte,Nat.reduceEqDiff,Nat.reduceLT,Nat.reduceAdd,List.length_append,List.length_cons,List.length_nil,Option.some.injEq]
           · simp only [ssT,zao,zap,setSlot,gOf,AV.ren,renL,Blk.ren,Ax.look,Ax.put,reduceCtorEq,↓reduceIte,Nat.reduceEqDiff,Nat.reduceLT,Nat.reduceAdd,List.length_append,List.length_cons,List.length_nil,Option.some.injEq]
           · intro j h h' hj
             rcases Nat.lt_or_ge j i with h2 | h2
             · exact hall j h h' h2
             · have : j = i := by omega
               subst this
               rw [hP,hQ]; exact ha
         · have da : decide (P = Q) = false := decide_eq_false ha
           have dr : decide (es = gs) = false := decide_eq_false (fun h => ha (by rw [← hP,← hQ]; exact hk.1 h i hil hiq))
           simp only [go_sem,zaa,Nat.reduceAdd,Nat.reduceSub,Nat.reduceMul,Int.reduceToNat,reduceCtorEq,↓reduceIte,Int.reducePow,Nat.reducePow,Int.reduceMod,Nat.reduceLeDiff,Int.reduceLE,Int.reduceNe,Int.reduceEq,Nat.reduceEqDiff,Nat.reduceLT,Nat.reduceBEq,ty,noS,d1,hs1,hs2,e1,da,dr,Int.toNat_natCast]
           all_goals omega
       · have d1 : decide ((i : Int) < es.length) = false := decide_eq_false (by omega)
         have dr : decide (es = gs) = true := decide_eq_true (hk.2 fun j h h' => hall j h h' (by omega))
         simp only [go_sem,zaa,Nat.reduceAdd,Nat.reduceSub,Nat.reduceMul,Int.reduceToNat,reduceCtorEq,↓reduceIte,Int.reducePow,Nat.reducePow,Int.reduceMod,Nat.reduceLeDiff,Int.reduceLE,Int.reduceNe,Int.reduceEq,Nat.reduceEqDiff,Nat.reduceLT,Nat.reduceBEq,ty,noS,d1,dr]
   · have d0 : decide ((es.length : Int) = gs.length) = false := decide_eq_false (by omega)
     have dr : decide (es = gs) = false := decide_eq_false (fun h => hl (by rw [h]))
     simp only [go_sem,zaa,Nat.reduceAdd,Nat.reduceSub,Nat.reduceMul,Int.reduceToNat,reduceCtorEq,↓reduceIte,Int.reducePow,Nat.reducePow,Int.reduceMod,Nat.reduceLeDiff,Int.reduceLE,Int.reduceNe,Int.reduceEq,Nat.reduceEqDiff,Nat.reduceLT,Nat.reduceBEq,ty,noS,d0,dr]
 · exact hp.elim
end
def eqN22S : zaq
 | [.sg 1 xs f,.sg 1 ys g],[] => ⟨(xs.length ≤ 1000000 ∧ ∃ es : List (List UInt8),xs = es.map AV.str) ∧ ys.length ≤ 1000000 ∧ ∃ gs : List (List UInt8),ys = gs.map AV.str,.w (.bool (decide (xs.map ustr22 = ys.map ustr22))),[]⟩
 | _,_ => zbv
section
set_option maxRecDepth 100000
set_option maxHeartbeats 1000000 in
theorem eqN22_sound : zbf Try.prog 43 eqN22S := by
 refine zau (S := noS) (T := ty) zbj ty_ok zcy Try.func43 (c := Try.f43.body.getD .skip) (by kernel_rfl) (by kernel_rfl) (fun xs pins hp _ => ?_)
 unfold eqN22S at hp ⊢
 split at hp
 · rename_i xs f ys g _
   obtain ⟨⟨hL1,es,rfl⟩,hL2,gs,rfl⟩ := hp
   rw [List.length_map] at hL1 hL2
   rw [zcc,zcc]
   refine ⟨by simp,?_⟩
   have hlp : (es.map AV.str).length = es.length := by simp
   have hlq : (gs.map AV.str).length = gs.length := by simp
   unfold Try.f43
   by_cases hl : es.length = gs.length
   · have d0 : decide ((es.length : Int) = gs.length) = true := decide_eq_true (by omega)
     have hk : es = gs ↔ ∀ j (h : j < es.length) (h' : j < gs.length),es[j] = gs[j] := ⟨fun h => by subst h; intros; rfl,fun h => List.ext_getElem hl h⟩
     simp only [go_sem,zaa,Nat.reduceAdd,Nat.reduceSub,Nat.reduceMul,Int.reduceToNat,reduceCtorEq,↓reduceIte,Int.reducePow,Nat.reducePow,Int.reduceMod,Nat.reduceLeDiff,Int.reduceLE,Int.reduceNe,Int.reduceEq,Nat.reduceEqDiff,Nat.reduceLT,Nat.reduceBEq,ty,noS,hlp,hlq,d0]
     refine zde ⟨fun m σ => ∃ i : Nat,m = es.length - i ∧ i ≤ es.length ∧ (∀ j (h : j < es.length) (h' : j < gs.length),j < i → es[j] = gs[j]) ∧
         σ = ⟨[.sg 1 (es.map AV.str) f,.sg 1 (gs.map AV.str) g,.junk,.junk,.junk,.junk,.junk,.junk,.junk,.junk,.junk,.junk,.w (.int .i64 es.length),.w (.int .i64 i),.junk,.junk,.junk,.junk,.junk,.junk,.junk,.junk,.junk,.junk,.junk,.junk],[],4⟩,?_,?_⟩
     · refine ⟨_,_,zai [0,1,2,3] rfl rfl rfl ?_ ?_,0,rfl,by omega,by intro j _ _ h; omega,rfl⟩
       · simp only [ssT,zao,zap,setSlot,gOf,AV.ren,renL,Blk.ren,Ax.look,Ax.put,reduceCtorEq,↓reduceIte,Nat.reduceEqDiff,Nat.reduceLT,Nat.reduceAdd,List.length_append,List.length_cons,List.length_nil,Option.some.injEq]; simp
       · simp only [ssT,zao,zap,setSlot,gOf,AV.ren,renL,Blk.ren,Ax.look,Ax.put,reduceCtorEq,↓reduceIte,Nat.reduceEqDiff,Nat.reduceLT,Nat.reduceAdd,List.length_append,List.length_cons,List.length_nil,Option.some.injEq]
     · rintro m σ ⟨i,rfl,hi,hall,rfl⟩
       by_cases hil : i < es.length
       · have d1 : decide ((i : Int) < es.length) = true := decide_eq_true (by omega)
         have e1 : ((i : Int) + 1 + 9223372036854775808) % 18446744073709551616 - 9223372036854775808 = ((i + 1 : Nat) : Int) := by omega
         have hiq : i < gs.length := by omega
         have hs1 := zdv es i hil
         have hs2 := zdv gs i hiq
         obtain ⟨P,hP⟩ : ∃ P,es[i] = P := ⟨_,rfl⟩
         obtain ⟨Q,hQ⟩ : ∃ Q,gs[i] = Q := ⟨_,rfl⟩
         rw [hP] at hs1
         rw [hQ] at hs2
         have hs1 : slot (es.map AV.str) i = .str P := hs1
         have hs2 : slot (gs.map AV.str) i = .str Q := hs2
         by_cases ha : P = Q
         · have da : decide (P = Q) = true := decide_eq_true ha
           simp only [go_sem,zaa,Nat.reduceAdd,Nat.reduceSub,Nat.reduceMul,Int.reduceToNat,reduceCtorEq,↓reduceIte,Int.reducePow,Nat.reducePow,Int.reduceMod,Nat.reduceLeDiff,Int.reduceLE,Int.reduceNe,Int.reduceEq,Nat.reduceEqDiff,Nat.reduceLT,Nat.reduceBEq,ty,noS,hlp,hlq,d1,hs1,hs2,e1,da,Int.toNat_natCast]
           repeat (refine And.intro (by omega) ?_)
           refine ⟨es.length - (i + 1),_,by omega,zai [0,1,2,3] rfl rfl rfl ?_ ?_,i + 1,rfl,by omega,?_,rfl⟩
           · simp only [ssT,zao,zap,setSlot,gOf,AV.ren,renL,Blk.ren,Ax.look,Ax.put,reduceCtorEq,↓reduceIte,Nat.reduceEqDiff,Nat.reduceLT,Nat.reduceAdd,List.length_append,List.length_cons,List.length_nil,Option.some.injEq]
           · simp only [ssT,zao,zap,setSlot,gOf,AV.ren,renL,Blk.ren,Ax.look,Ax.put,reduceCtorEq,↓reduceIte,Nat.reduceEqDiff,Nat.reduceLT,Nat.reduceAdd,List.length_append,List.length_cons,List.length_nil,Option.some.injEq]
           · intro j h h' hj
             rcases Nat.lt_or_ge j i with h2 | h2
             · exact hall j h h' h2
             · have : j = i := by omega
               subst this
               rw [hP,hQ]; exact ha
         · have da : decide (P = Q) = false := decide_eq_false ha
           have dr : decide (es = gs) = false := decide_eq_false (fun h => ha (by rw [← hP,← hQ]; exact hk.1 h i hil hiq))
           simp only [go_sem,zaa,Nat.reduceAdd,Nat.reduceSub,Nat.reduceMul,Int.reduceToNat,reduceCtorEq,↓reduceIte,Int.reducePow,Nat.reducePow,Int.reduceMod,Nat.reduceLeDiff,Int.reduceLE,Int.reduceNe,Int.reduceEq,Nat.reduceEqDiff,Nat.reduceLT,Nat.reduceBEq,ty,noS,hlp,hlq,d1,hs1,hs2,e1,da,dr,Int.toNat_natCast]
           all_goals omega
       · have d1 : decide ((i : Int) < es.length) = false := decide_eq_false (by omega)
         have dr : decide (es = gs) = true := decide_eq_true (hk.2 fun j h h' => hall j h h' (by omega))
         simp only [go_sem,zaa,Nat.reduceAdd,Nat.reduceSub,Nat.reduceMul,Int.reduceToNat,reduceCtorEq,↓reduceIte,Int.reducePow,Nat.reducePow,Int.reduceMod,Nat.reduceLeDiff,Int.reduceLE,Int.reduceNe,Int.reduceEq,Nat.reduceEqDiff,Nat.reduceLT,Nat.reduceBEq,ty,noS,hlp,hlq,d1,dr]
   · have d0 : decide ((es.length : Int) = gs.length) = false := decide_eq_false (by omega)
     have dr : decide (es = gs) = false := decide_eq_false (fun h => hl (by rw [h]))
     simp only [go_sem,zaa,Nat.reduceAdd,Nat.reduceSub,Nat.reduceMul,Int.reduceToNat,reduceCtorEq,↓reduceIte,Int.reducePow,Nat.reducePow,Int.reduceMod,Nat.reduceLeDiff,Int.reduceLE,Int.reduceNe,Int.reduceEq,Nat.reduceEqDiff,Nat.reduceLT,Nat.reduceBEq,ty,noS,hlp,hlq,d0,dr]
 · exact hp.elim
end
end Go.Proofs.Ytmedjkjoannbmaa
