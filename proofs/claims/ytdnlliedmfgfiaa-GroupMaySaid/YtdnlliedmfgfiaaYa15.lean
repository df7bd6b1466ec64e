/- What the proofs of this seat stand on; it asks nothing. -/
import Derived.Test.YtdnlliedmfgfiaaYa14
set_option linter.unusedSimpArgs false
set_option linter.unusedVariables false
namespace Go.Proofs.Ytdnlliedmfgfiaa
open Ax
theorem lt_leD {a q : List UInt8} (h : q < a) : leD a q = false := by
 unfold leD
 rw [zro]
 simp only [Bool.or_eq_false_iff,decide_eq_false_iff_not]
 refine ⟨fun h2 => List.lt_irrefl _ (List.lt_trans h h2),fun e => ?_⟩
 rw [e] at h
 exact List.lt_irrefl _ h
theorem zpb : ∀ (l : List Mb) (p : Option (List UInt8)),zbu p l = true ↔ (∀ m ∈ l,rowB m = true) ∧ srtT (nmL l) ∧ ∀ q,p = some q → ∀ m ∈ l,q < m.d
 | [],p => by
   constructor
   · intro _; exact ⟨by simp,List.Pairwise.nil,by simp⟩
   · intro _; cases p <;> rfl
 | a :: r,p => by
   constructor
   · intro h
     have h0 := zty (a :: r) p h
     refine ⟨?_,h0⟩
     rw [zej] at h
     intro m hm
     rcases List.mem_cons.1 hm with rfl | hm
     · exact h.1
     · exact ((zpb r _).1 h.2.2).1 m hm
   · rintro ⟨h1,h2,h3⟩
     rw [zej]
     have h2 : srtT (a.d :: nmL r) := h2
     obtain ⟨i1,i2⟩ := List.pairwise_cons.1 h2
     refine ⟨h1 a (by simp),fun q hq => lt_leD (h3 q hq a (by simp)),(zpb r _).2 ⟨fun m hm => h1 m (by simp [hm]),i2,fun q hq m hm => ?_⟩⟩
     injection hq with hq
     subst hq
     exact i1 _ (List.mem_map.2 ⟨m,hm,rfl⟩)
theorem zjr (l : List Mb) : zbu none l = true ↔ (∀ m ∈ l,rowB m = true) ∧ srtT (nmL l) := by
 rw [zpb]
 constructor
 · rintro ⟨a,b,_⟩; exact ⟨a,b⟩
 · rintro ⟨a,b⟩; exact ⟨a,b,by simp⟩
theorem ch_iff {gn ph : Int} {l : List Mb} : chG gn ph l = 0 ↔ l.length ≤ 16 ∧ timB gn = true ∧ phB ph l = true ∧ zbu none l = true := by
 unfold chG
 constructor
 · intro h
   split at h
   · rename_i hb
     unfold chB at hb
     simp only [Bool.and_eq_true,decide_eq_true_eq] at hb
     exact hb
   · omega
 · rintro ⟨a,b,c,d⟩
   rw [if_pos]
   unfold chB
   simp only [Bool.and_eq_true,decide_eq_true_eq]
   exact ⟨a,b,c,d⟩
theorem zop (l : List Mb) : allY l = true ↔ 0 < l.length ∧ ∀ m ∈ l,m.y = true := by
 unfold allY
 simp only [Bool.and_eq_true,decide_eq_true_eq,Bool.not_eq_true',decide_eq_false_iff_not,List.findIdx_lt_length]
 constructor
 · rintro ⟨h1,h2⟩
   refine ⟨h1,fun m hm => ?_⟩
   cases hy : m.y with
   | true => rfl
   | false => exact (h2 ⟨m,hm,by unfold offY; rw [hy]; rfl⟩).elim
 · rintro ⟨h1,h2⟩
   refine ⟨h1,?_⟩
   rintro ⟨m,hm,h3⟩
   have := h2 m hm
   unfold offY at h3
   rw [this] at h3
   cases h3
theorem mbI_get {l : List Mb} {i : Nat} (h : i < l.length) : mbI l i = l[i] := by
 unfold mbI; rw [List.getElem?_eq_getElem h]; rfl
theorem rows_set {l : List Mb} {i : Nat} (x : Mb) (hi : i < l.length) (hd : x.d = (mbI l i).d) (hx : rowB x = true) (h : zbu none l = true) : zbu none (l.set i x) = true := by
 obtain ⟨h1,h2⟩ := (zjr l).1 h
 refine (zjr _).2 ⟨fun m hm => ?_,?_⟩
 · rcases List.mem_or_eq_of_mem_set hm with hm | rfl
   · exact h1 m hm
   · exact hx
 · rw [nm_set l i x hi hd]; exact h2
theorem rows_sub {l k : List Mb} (hs : k.Sublist l) (h : zbu none l = true) : zbu none k = true := by
 obtain ⟨h1,h2⟩ := (zjr l).1 h
 exact (zjr _).2 ⟨fun m hm => h1 m (hs.subset hm),List.Pairwise.sublist (hs.map _) h2⟩
theorem rowB_at {l : List Mb} {i : Nat} (hi : i < l.length) (h : zbu none l = true) : rowB (mbI l i) = true := by
 rw [mbI_get hi]
 exact ((zjr l).1 h).1 _ (List.getElem_mem hi)
theorem rowB_seen {m : Mb} {now : Int} (hT : timB now = true) (h : rowB m = true) : rowB (zeu now m) = true := by
 unfold rowB at *
 simp only [Bool.and_eq_true] at *
 refine ⟨h.1,?_⟩
 show timB (mxT m.t now) = true
 unfold mxT
 split
 · exact hT
 · exact h.2
theorem allY_seen {l : List Mb} {i : Nat} (hi : i < l.length) (now : Int) : allY (l.set i (zeu now (mbI l i))) = allY l := by
 have e : (l.set i (zeu now (mbI l i))).map Mb.y = l.map Mb.y := by
   refine List.ext_getElem (by simp) fun j h1 h2 => ?_
   simp only [List.getElem_map,List.getElem_set]
   split
   · rename_i e; subst e
     rw [mbI_get hi]; rfl
   · rfl
 have key : ∀ k : List Mb,allY k = true ↔ 0 < (k.map Mb.y).length ∧ ∀ b ∈ k.map Mb.y,b = true := fun k => by
   rw [zop]; simp
 have : allY (l.set i (zeu now (mbI l i))) = true ↔ allY l = true := by rw [key,key,e]
 cases h1 : allY (l.set i (zeu now (mbI l i))) <;> cases h2 : allY l <;> simp_all
theorem ph_seen {l : List Mb} {i : Nat} {ph : Int} (hi : i < l.length) (now : Int) : phB ph (l.set i (zeu now (mbI l i))) = phB ph l := by
 unfold phB
 rw [allY_seen hi,List.length_set]
theorem ch_seen {gn ph : Int} {l : List Mb} {i : Nat} {now : Int} (hi : i < l.length) (hT : timB now = true) (h : chG gn ph l = 0) : chG gn ph (l.set i (zeu now (mbI l i))) = 0 := by
 obtain ⟨h1,h2,h3,h4⟩ := ch_iff.1 h
 exact ch_iff.2 ⟨by rw [List.length_set]; exact h1,h2,by rw [ph_seen hi]; exact h3,rows_set _ hi rfl (rowB_seen hT (rowB_at hi h4)) h4⟩
structure zll (gn : Int) (l : List Mb) (g p : Int) (k : List Mb) : Prop where
 ch : chG g p k = 0
 ge : gn ≤ g
 same : k.length = l.length ↔ g = gn
 off : k.length ≠ l.length → ∀ m ∈ k,m.y = false
theorem zof {gn ph p : Int} {l k : List Mb} (hk : k.length = l.length) (h : chG gn p k = 0) : zll gn l gn p k :=
 ⟨h,Int.le_refl _,⟨fun _ => rfl,fun _ => hk⟩,fun h => (h hk).elim⟩
theorem clr_off (k : List Mb) : ∀ m ∈ k.map clrM,m.y = false := by
 intro m hm
 obtain ⟨x,_,rfl⟩ := List.mem_map.1 hm
 rfl
theorem tim_succ {gn : Int} (h : timB gn = true) (hne : gn ≠ 1099511627776) : timB (gn + 1) = true := by
 unfold timB at *
 simp only [Bool.and_eq_true,decide_eq_true_eq] at *
 omega
theorem ph_clr (k : List Mb) : phB (if k.length = 0 then 0 else 1) (k.map clrM) = true := by
 unfold phB
 rw [List.length_map]
 split
 · rfl
 · rename_i h
   have : allY (k.map clrM) = false := by
     cases ha : allY (k.map clrM) with
     | false => rfl
     | true =>
       obtain ⟨h1,h2⟩ := (zop _).1 ha
       cases k with
       | nil => simp at h
       | cons a r =>
         have := h2 (clrM a) (by simp)
         cases this
   rw [this]; rfl
theorem ztu {gn ph : Int} {l k : List Mb} (hc : chG gn ph l = 0) (hne : gn ≠ 1099511627776) (hk : k.length ≠ l.length) (hl : k.length ≤ 16) (hr : zbu none k = true) : zll gn l (gn + 1) (if k.length = 0 then 0 else 1) (k.map clrM) := by
 obtain ⟨h1,h2,h3,h4⟩ := ch_iff.1 hc
 refine ⟨ch_iff.2 ⟨by rw [List.length_map]; exact hl,tim_succ h2 hne,ph_clr k,by rw [ztz]; exact hr⟩,by omega,⟨fun h => ?_,fun h => by omega⟩,fun _ => clr_off k⟩
 rw [List.length_map] at h
 exact (hk h).elim
theorem step_jo {gn ph : Int} {l : List Mb} {v : List UInt8} {now : Int} (h : (joF gn ph l v now).e = 0) : zll gn l (joF gn ph l v now).g (joF gn ph l v now).p (joF gn ph l v now).l := by
 obtain ⟨hc,hI,hT,h2 | h2⟩ := jo_ok20 h
 · rw [h2.2]
   exact zof (ph := ph) (by simp) (ch_seen h2.1 hT hc)
 · have hne : gn ≠ 1099511627776 := fun e => by
     have h9 : ¬ 16 ≤ l.length := by omega
     unfold joF at h
     rw [if_pos hc,if_pos hI,if_pos hT,if_neg h2.1,if_neg h9,if_pos e] at h
     exact absurd h (by decide)
   obtain ⟨h1,_,_,hr⟩ := ch_iff.1 hc
   have hri := rows_ins hI hT l none hr (fun q e => by cases e) (not_there h2.1) (now := now)
   have hlen := clr_ins_len v now l
   rw [List.length_map] at hlen
   have := ztu (k := insM v now l) hc hne (by omega) (by omega) hri
   rw [if_neg (by omega)] at this
   rw [h2.2.2]
   exact this
theorem step_be {gn ph : Int} {l : List Mb} {v : List UInt8} {gen now : Int} (h : (beF gn ph l v gen now).e = 0) : zll gn l (beF gn ph l v gen now).g (beF gn ph l v gen now).p (beF gn ph l v gen now).l := by
 unfold beF at h ⊢
 by_cases he : (fiF gn ph l v gen now).2 = 0
 · rw [if_pos he] at h ⊢
   obtain ⟨hc,hT,hf,_,_⟩ := zuj he
   exact zof (ph := ph) (by simp) (ch_seen hf hT hc)
 · rw [if_neg he] at h
   exact absurd h he
theorem step_sy {gn ph : Int} {l : List Mb} {v : List UInt8} {gen parts now : Int} (h : (syF gn ph l v gen parts now).r.e = 0) : zll gn l (syF gn ph l v gen parts now).r.g (syF gn ph l v gen parts now).r.p (syF gn ph l v gen parts now).r.l := by
 unfold syF at h ⊢
 by_cases he : (fiF gn ph l v gen now).2 = 0
 · rw [if_pos he] at h ⊢
   obtain ⟨hc,hT,hf,_,_⟩ := zuj he
   have hc2 := ch_seen hf hT hc
   have hal := allY_seen hf now
   unfold sySet
   have hlen : (l.set (l.findIdx (isD v)) (zeu now (mbI l (l.findIdx (isD v))))).length = l.length := List.length_set
   obtain ⟨I,hI⟩ : ∃ I,l.findIdx (isD v) = I := ⟨_,rfl⟩
   rw [hI] at hc2 hal hf hlen ⊢
   obtain ⟨Q,hQ⟩ : ∃ Q,l.set I (zeu now (mbI l I)) = Q := ⟨_,rfl⟩
   rw [hQ] at hc2 hal hlen ⊢
   obtain ⟨h1,h2,h3,h4⟩ := ch_iff.1 hc2
   have hfQ : I < Q.length := by omega
   have hwl : (Q.set I (yesM (mbI Q I))).length = Q.length := List.length_set
   have hrW : zbu none (Q.set I (yesM (mbI Q I))) = true := rows_set _ hfQ rfl (rowB_at (l := Q) hfQ h4) h4
   refine zof (ph := ph) (by show (Q.set I _).length = _; omega) (ch_iff.2 ⟨by show (Q.set I _).length ≤ _; omega,h2,?_,hrW⟩)
   show phB (if allY (Q.set I (yesM (mbI Q I))) = true then 2 else ph) (Q.set I (yesM (mbI Q I))) = true
   unfold phB at h3 ⊢
   rw [hwl,if_neg (by omega)]
   rw [if_neg (by omega)] at h3
   cases hW : allY (Q.set I (yesM (mbI Q I))) with
   | true => simp
   | false =>
     have hQf : allY Q = false := by
       cases hq : allY Q with
       | false => rfl
       | true =>
         obtain ⟨a1,a2⟩ := (zop Q).1 hq
         have : allY (Q.set I (yesM (mbI Q I))) = true := (zop _).2 ⟨by omega,fun m hm => by
           rcases List.mem_or_eq_of_mem_set hm with hm | rfl
           · exact a2 m hm
           · rfl⟩
         rw [hW] at this
         cases this
     rw [hQf] at h3
     simpa using h3
 · rw [if_neg he] at h
   exact absurd h he
theorem step_le {gn ph : Int} {l : List Mb} {v : List UInt8} (h : (leF gn ph l v).e = 0) : zll gn l (leF gn ph l v).g (leF gn ph l v).p (leF gn ph l v).l := by
 unfold leF at h ⊢
 by_cases hc : chG gn ph l = 0
 · rw [if_pos hc] at h ⊢
   by_cases hf : l.findIdx (isD v) < l.length
   · rw [if_pos hf] at h ⊢
     by_cases hg : gn = 1099511627776
     · rw [if_pos hg] at h; exact absurd h (by decide)
     · rw [if_neg hg]
       obtain ⟨h1,_,_,hr⟩ := ch_iff.1 hc
       have hel : (l.eraseIdx (l.findIdx (isD v))).length = l.length - 1 := List.length_eraseIdx_of_lt hf
       exact ztu hc hg (by omega) (by omega) (rows_sub (List.eraseIdx_sublist _ _) hr)
   · rw [if_neg hf] at h; exact absurd h (by decide)
 · rw [if_neg hc] at h; exact absurd h hc
theorem step_ti {gn ph : Int} {l : List Mb} {now pat : Int} (hc : chG gn ph l = 0) : zll gn l (tiF gn ph l now pat).g (tiF gn ph l now pat).p (tiF gn ph l now pat).l := by
 unfold tiF
 split
 · rename_i h
   obtain ⟨_,hg,hk⟩ := h
   obtain ⟨h1,_,_,hr⟩ := ch_iff.1 hc
   have hle := stay_le now pat l
   exact ztu hc hg hk (by omega) (rows_sub List.filter_sublist hr)
 · exact zof (ph := ph) rfl hc
end Go.Proofs.Ytdnlliedmfgfiaa
namespace Go.Proofs.Ytdnlliedmfgfiaa
open Ax
structure Ac where
 k : Int
 d : List UInt8
 g : Int
 p : Int
 n : Int
deriving DecidableEq
def acA (r : Ac) : AV := .agg [.w (.int .u8 r.k),.str r.d,.w (.int .i64 r.g),.w (.int .i64 r.p),.w (.int .i64 r.n)]
theorem zxm : ∀ (l : List Ac),closedL (l.map acA) = true
 | [] => rfl
 | x :: r => by simp only [List.map_cons,closedL,acA,AV.closed,Bool.true_and]; exact zxm r
theorem zfm (g : Nat → Nat) : ∀ (l : List Ac),renL g (l.map acA) = l.map acA
 | [] => rfl
 | x :: r => by simp only [List.map_cons,renL,zfm g r]; rfl
theorem ids_ac : ∀ (l : List Ac),idsL (l.map acA) = []
 | [] => rfl
 | x :: r => by simp only [List.map_cons,idsL,ids_ac r]; rfl
theorem slot_ac : ∀ (l : List Ac) (i : Nat) (h : i < l.length),slot (l.map acA) i = acA l[i]
 | p :: ps,0,h => rfl
 | p :: ps,i + 1,h => by
   simp only [List.map_cons,slot,List.getElem_cons_succ]
   exact slot_ac ps i (by simpa using h)
end Go.Proofs.Ytdnlliedmfgfiaa
namespace Go.Proofs.Ytdnlliedmfgfiaa
open Ax
def maS : zan
 | [.sg 5 xs f0],[] => ⟨(xs.length ≤ 9223372036854775807 ∧ ∃ l : List Ac,xs = l.map acA ∧ ∀ r ∈ l,r.d.length ≤ 9223372036854775807),.w (.bool true),[]⟩
 | _,_ => zbo
def zfz (f : FuncId) : Option zan :=
 match f with
 | 6 => some yesS
 | 11 => some joS
 | 12 => some syS
 | 13 => some beS
 | 14 => some leS
 | 15 => some tiS
 | 16 => some chGS
 | _ => none
theorem Sma20_ok : Fns Try.prog zfz := by
 intro f s h
 unfold zfz at h
 split at h
 · injection h with h; subst h; exact ⟨⟨_,Try.func6,by kernel_rfl,by kernel_rfl⟩,aw20_sound⟩
 · injection h with h; subst h; exact ⟨⟨_,Try.func11,by kernel_rfl,by kernel_rfl⟩,jo_sound⟩
 · injection h with h; subst h; exact ⟨⟨_,Try.func12,by kernel_rfl,by kernel_rfl⟩,sy_sound⟩
 · injection h with h; subst h; exact ⟨⟨_,Try.func13,by kernel_rfl,by kernel_rfl⟩,be_sound⟩
 · injection h with h; subst h; exact ⟨⟨_,Try.func14,by kernel_rfl,by kernel_rfl⟩,le_sound⟩
 · injection h with h; subst h; exact ⟨⟨_,Try.func15,by kernel_rfl,by kernel_rfl⟩,ti_sound⟩
 · injection h with h; subst h; exact ⟨⟨_,Try.func16,by kernel_rfl,by kernel_rfl⟩,zjf⟩
 · cases h
theorem meetG {G : Int → Int → List Mb → Bool → Bool → Prop} {C : Prop} {gn : Int} {l : List Mb} (arms : (∀ xg xp xl xf sm,zll gn l xg xp xl → decide ((xl.length : Int) = (l.length : Int)) = sm → G xg xp xl xf sm) → C)
   (key : ∀ xg xp xl xf sm,zll gn l xg xp xl → decide ((xl.length : Int) = (l.length : Int)) = sm → G xg xp xl xf sm) : C := arms key
abbrev invMa (cs : List Ac) (f0 : Bool) (i : Nat) (gn ph : Int) (l : List Mb) (f : Bool) (xg xp : Int) (xl : List Mb) (xf sm : Bool) (m : Nat) (σ : ASt) : Prop := ∃ (k : Nat),m = xl.length - k ∧ k ≤ xl.length ∧
 σ = ⟨[.sg 5 (cs.map acA) f0,.junk,.w (.bool false),.rf 4 3 0 0,.w (.int .i64 i),.rf 5 3 0 0,.junk,.w (.bool sm),.w (.int .i64 k),.junk,.junk,.junk,.junk,.junk,.junk,.junk,.junk,.junk,.junk,.junk,.junk,.junk,.junk,.junk,.junk,.junk,.junk,.junk,.junk,.junk,.junk,.junk,.junk,.junk,.junk,.junk,.junk,.junk,.junk,.junk,.junk,.junk,.junk,.junk,.junk,.junk,.junk,.junk,.junk,.junk,.junk,.junk,.junk,.junk,.junk,.junk,.junk,.junk,.junk,.junk,.junk,.junk,.junk,.junk,.junk,.junk,.junk,.junk,.junk,.junk,.junk,.junk,.junk,.junk,.junk,.junk,.junk,.junk,.junk,.junk,.junk,.junk,.junk,.junk,.junk,.junk,.junk,.junk,.junk,.junk,.junk,.junk,.junk,.junk,.junk,.junk,.junk,.junk,.junk,.junk,.junk,.junk,.junk,.junk,.junk,.junk,.junk,.junk,.junk,.junk,.junk,.junk,.junk,.junk,.junk,.junk,.junk,.junk,.junk,.junk,.junk,.junk,.junk,.junk,.junk,.junk,.junk,.junk,.junk,.junk,.junk,.junk,.junk,.junk,.junk,.junk,.junk,.junk,.junk,.junk,.junk,.junk,.junk,.junk,.junk,.junk,.junk,.junk,.junk,.junk,.junk,.junk,.junk,.junk,.junk,.junk,.junk,.junk,.junk,.junk,.junk,.junk,.junk,.junk,.junk,.junk,.junk,.junk,.junk],[(4,.g 3 [.agg [.w (.int .i64 gn),.w (.int .u8 ph),.sg 3 (l.map mbA) f]]),(5,.g 3 [.agg [.w (.int .i64 xg),.w (.int .u8 xp),.sg 3 (xl.map mbA) xf]])],6⟩
theorem zjy {g p : Int} {l : List Mb} (h : chG g p l = 0) : ∀ r ∈ l,r.d.length ≤ 9223372036854775807 := by
 intro r hr
 obtain ⟨_,_,_,h4⟩ := ch_iff.1 h
 have h5 := ((zjr l).1 h4).1 r hr
 unfold rowB idB at h5
 simp only [Bool.and_eq_true,decide_eq_true_eq] at h5
 omega
section
set_option maxRecDepth 100000
set_option maxHeartbeats 64000000
theorem may_law : zbm Try.prog 4 maS := by
 refine zdo (S := zfz) (T := ty) mixed ty_ok Sma20_ok Try.func4 (c := Try.f4.body.getD .skip) (by kernel_rfl) (by kernel_rfl) (fun xs pins hp _ => ?_)
 unfold maS at hp ⊢
 split at hp
 · rename_i xs f0 _
   obtain ⟨hA,cs,rfl,has⟩ := hp
   rw [List.length_map] at hA
   have hal : (cs.map acA).length = cs.length := by simp
   have cM0 : ∀ f,coe ty 29 (.sg 3 [] f) = .sg 3 [] f := fun f => rfl
   have c5 : ∀ (l : List Ac) f,coe ty 38 (.sg 5 (l.map acA) f) = .sg 5 (l.map acA) f := fun l f => by cases l <;> rfl
   refine ⟨by simp,?_⟩
   unfold Try.f4
   by_cases h30 : 40 < cs.length
   · have d0 : decide ((40 : Int) < (cs.length : Int)) = true := decide_eq_true (by omega)
     simp only [go_sem,zab,Nat.reduceAdd,Nat.reduceSub,Nat.reduceMul,Int.reduceToNat,reduceCtorEq,↓reduceIte,Int.reducePow,Nat.reducePow,Int.reduceMod,Nat.reduceLeDiff,Int.reduceLE,Int.reduceNe,Int.reduceEq,Nat.reduceEqDiff,Nat.reduceLT,Nat.reduceBEq,ty,zfz,yesS,hal,d0]
   · have d0 : decide ((40 : Int) < (cs.length : Int)) = false := decide_eq_false (by omega)
     simp only [go_sem,zab,Nat.reduceAdd,Nat.reduceSub,Nat.reduceMul,Int.reduceToNat,reduceCtorEq,↓reduceIte,Int.reducePow,Nat.reducePow,Int.reduceMod,Nat.reduceLeDiff,Int.reduceLE,Int.reduceNe,Int.reduceEq,Nat.reduceEqDiff,Nat.reduceLT,Nat.reduceBEq,ty,zfz,yesS,hal,d0]
     refine zbx ⟨fun m σ => ∃ (i : Nat) (gn ph : Int) (l : List Mb) (f : Bool),m = cs.length - i ∧ i ≤ cs.length ∧ chG gn ph l = 0 ∧
       σ = ⟨[.sg 5 (cs.map acA) f0,.junk,.w (.bool false),.rf 4 3 0 0,.w (.int .i64 i),.junk,.junk,.junk,.junk,.junk,.junk,.junk,.junk,.junk,.junk,.junk,.junk,.junk,.junk,.junk,.junk,.junk,.junk,.junk,.junk,.junk,.junk,.junk,.junk,.junk,.junk,.junk,.junk,.junk,.junk,.junk,.junk,.junk,.junk,.junk,.junk,.junk,.junk,.junk,.junk,.junk,.junk,.junk,.junk,.junk,.junk,.junk,.junk,.junk,.junk,.junk,.junk,.junk,.junk,.junk,.junk,.junk,.junk,.junk,.junk,.junk,.junk,.junk,.junk,.junk,.junk,.junk,.junk,.junk,.junk,.junk,.junk,.junk,.junk,.junk,.junk,.junk,.junk,.junk,.junk,.junk,.junk,.junk,.junk,.junk,.junk,.junk,.junk,.junk,.junk,.junk,.junk,.junk,.junk,.junk,.junk,.junk,.junk,.junk,.junk,.junk,.junk,.junk,.junk,.junk,.junk,.junk,.junk,.junk,.junk,.junk,.junk,.junk,.junk,.junk,.junk,.junk,.junk,.junk,.junk,.junk,.junk,.junk,.junk,.junk,.junk,.junk,.junk,.junk,.junk,.junk,.junk,.junk,.junk,.junk,.junk,.junk,.junk,.junk,.junk,.junk,.junk,.junk,.junk,.junk,.junk,.junk,.junk,.junk,.junk,.junk,.junk,.junk,.junk,.junk,.junk,.junk,.junk,.junk,.junk,.junk,.junk,.junk,.junk],[(4,.g 3 [.agg [.w (.int .i64 gn),.w (.int .u8 ph),.sg 3 (l.map mbA) f]])],5⟩,?_,?_⟩
     · refine ⟨_,_,zaj [0,1,2,3,36] rfl rfl rfl ?_ ?_,0,0,0,[],true,rfl,by omega,rfl,rfl⟩
       · simp only [ssT,zar,zas,setSlot,gOf,AV.ren,renL,Blk.ren,Ax.look,Ax.put,reduceCtorEq,↓reduceIte,Nat.reduceEqDiff,Nat.reduceLT,Nat.reduceAdd,List.length_append,List.length_cons,List.length_nil,Option.some.injEq,zfm]; try simp
       · simp only [ssT,zar,zas,setSlot,gOf,AV.ren,renL,Blk.ren,Ax.look,Ax.put,reduceCtorEq,↓reduceIte,Nat.reduceEqDiff,Nat.reduceLT,Nat.reduceAdd,List.length_append,List.length_cons,List.length_nil,Option.some.injEq,zfm]; try simp
     · rintro m σ ⟨i,gn,ph,l,f,rfl,hi,hc,rfl⟩
       have hl16 := (ch_iff.1 hc).1
       have hle : (l.map mbA).length = l.length := by simp
       have hL : l.length ≤ 1000000 := by omega
       have hL9 : l.length ≤ 9223372036854775807 := by omega
       have hLj : l.length ≤ 900000 := by omega
       have hd9 := zjy hc
       have hex : ∃ k : List Mb,l.map mbA = k.map mbA := ⟨l,rfl⟩
       have hxd : ∃ k : List Mb,l.map mbA = k.map mbA ∧ ∀ r ∈ k,r.d.length ≤ 9223372036854775807 := ⟨l,rfl,hd9⟩
       have hF := And.intro hal <| And.intro hle <| And.intro hL <| And.intro hL9 <| And.intro hLj <| And.intro hxd <| And.intro hex <| And.intro zaw <| And.intro cM0 <| And.intro c5 <| And.intro zai <| And.intro zad <| And.intro zap <| And.intro zxm ids_ac
       by_cases hia : i < cs.length
       · have d2 : decide ((i : Int) < (cs.length : Int)) = true := decide_eq_true (by omega)
         have e1 : ((i : Int) + 1 + 9223372036854775808) % 18446744073709551616 - 9223372036854775808 = ((i + 1 : Nat) : Int) := by omega
         have hs1 := slot_ac cs i hia
         have hda := has _ (List.getElem_mem hia)
         obtain ⟨r,hr⟩ : ∃ r,cs[i] = r := ⟨_,rfl⟩
         rw [hr] at hs1 hda
         obtain ⟨rk,rd,rg,rp,rn⟩ := r
         have hs1 : slot (cs.map acA) i = .agg [.w (.int .u8 rk),.str rd,.w (.int .i64 rg),.w (.int .i64 rp),.w (.int .i64 rn)] := hs1
         have hda : rd.length ≤ 9223372036854775807 := hda
         by_cases h6 : 60 < rd.length
         · have d3 : decide ((60 : Int) < (rd.length : Int)) = true := decide_eq_true (by omega)
           simp only [go_sem,zab,Nat.reduceAdd,Nat.reduceSub,Nat.reduceMul,Int.reduceToNat,reduceCtorEq,↓reduceIte,Int.reducePow,Nat.reducePow,Int.reduceMod,Nat.reduceLeDiff,Int.reduceLE,Int.reduceNe,Int.reduceEq,Nat.reduceEqDiff,Nat.reduceLT,Nat.reduceBEq,ty,zfz,hF,Int.toNat_natCast,Bool.not_true,Bool.not_false,yesS,d2,d3,hs1,hda,e1]
           repeat (first | refine And.intro (by omega) ?_ | refine And.intro ⟨by omega,by omega⟩ ?_)
           try (refine ⟨_,Weak.refl _,?_⟩)
           try (simp only [go_sem,zab,Nat.reduceAdd,Nat.reduceSub,Nat.reduceMul,Int.reduceToNat,reduceCtorEq,↓reduceIte,Int.reducePow,Nat.reducePow,Int.reduceMod,Nat.reduceLeDiff,Int.reduceLE,Int.reduceNe,Int.reduceEq,Nat.reduceEqDiff,Nat.reduceLT,Nat.reduceBEq,ty,zfz,hF,Int.toNat_natCast,Bool.not_true,Bool.not_false,yesS])
         · have d3 : decide ((60 : Int) < (rd.length : Int)) = false := decide_eq_false (by omega)
           obtain ⟨K,hK⟩ : ∃ K,rk.tmod 5 = K := ⟨_,rfl⟩
           apply meetG (gn := gn) (l := l)
           case arms =>
             intro key
             by_cases hk0 : K = 0
             · have k0 : decide (K = 0) = true := decide_eq_true hk0
               have hst := step_jo (gn := gn) (ph := ph) (l := l) (v := rd) (now := rn)
               obtain ⟨X,hX⟩ : ∃ X,joF gn ph l rd rn = X := ⟨_,rfl⟩
               rw [hX] at hst
               obtain ⟨xg,xp,xl,xf,xe⟩ := X
               by_cases hxe : xe = 0
               · have d4 : decide (xe = 0) = true := decide_eq_true hxe
                 have hst : zll gn l xg xp xl := hst hxe
                 obtain ⟨s1,s2,s3,s4⟩ := id hst
                 have hlx := (ch_iff.1 s1).1
                 have hexX : ∃ k : List Mb,xl.map mbA = k.map mbA := ⟨xl,rfl⟩
                 have hlxm : (xl.map mbA).length = xl.length := by simp
                 have hlx9 : xl.length ≤ 9223372036854775807 := by omega
                 have hxx : ∃ k : List Mb,xl.map mbA = k.map mbA ∧ ∀ r ∈ k,r.d.length ≤ 9223372036854775807 := ⟨xl,rfl,zjy s1⟩
                 have d5 : decide (xg < gn) = false := decide_eq_false (by omega)
                 have d6 : decide (chG xg xp xl = 0) = true := decide_eq_true s1
                 obtain ⟨sm,hsm⟩ : ∃ sm,decide ((xl.length : Int) = (l.length : Int)) = sm := ⟨_,rfl⟩
                 have hgm : decide (xg = gn) = sm := by
                   rw [← hsm]
                   by_cases h : xg = gn
                   · rw [decide_eq_true h,decide_eq_true (by have := s3.2 h; omega)]
                   · rw [decide_eq_false h,decide_eq_false (fun h2 => h (s3.1 (by omega)))]
                 have hsb : decide (sm = sm) = true := decide_eq_true rfl
                 simp (config := { maxSteps := 3000000 }) only [go_sem,zab,Nat.reduceAdd,Nat.reduceSub,Nat.reduceMul,Int.reduceToNat,reduceCtorEq,↓reduceIte,Int.reducePow,Nat.reducePow,Int.reduceMod,Nat.reduceLeDiff,Int.reduceLE,Int.reduceNe,Int.reduceEq,Nat.reduceEqDiff,Nat.reduceLT,Nat.reduceBEq,ty,zfz,chGS,joS,jrA,hF,Int.toNat_natCast,Bool.not_true,Bool.not_false,decide_true,true_or,or_true,d2,d3,hs1,hda,e1,hK,k0,hX,d4,hlxm,hlx9,hexX,hxx,d5,d6,hsm,hgm,hsb]
                 repeat (first | refine And.intro (by omega) ?_ | refine And.intro ⟨by omega,by omega⟩ ?_)
                 refine zbx ⟨invMa cs f0 i gn ph l f xg xp xl xf sm,?_,key xg xp xl xf sm hst hsm⟩
                 refine ⟨_,_,zaj [0,1,2,3,4,101] rfl rfl rfl ?_ ?_,0,rfl,by omega,rfl⟩
                 all_goals (simp only [ssT,zar,zas,setSlot,gOf,AV.ren,renL,Blk.ren,Ax.look,Ax.put,reduceCtorEq,↓reduceIte,Nat.reduceEqDiff,Nat.reduceLT,Nat.reduceAdd,List.length_append,List.length_cons,List.length_nil,Option.some.injEq,zfm,zae]; try simp)
               · have d4 : decide (xe = 0) = false := decide_eq_false hxe
                 simp (config := { maxSteps := 3000000 }) only [go_sem,zab,Nat.reduceAdd,Nat.reduceSub,Nat.reduceMul,Int.reduceToNat,reduceCtorEq,↓reduceIte,Int.reducePow,Nat.reducePow,Int.reduceMod,Nat.reduceLeDiff,Int.reduceLE,Int.reduceNe,Int.reduceEq,Nat.reduceEqDiff,Nat.reduceLT,Nat.reduceBEq,ty,zfz,chGS,joS,jrA,hF,Int.toNat_natCast,Bool.not_true,Bool.not_false,decide_true,true_or,or_true,d2,d3,hs1,hda,e1,hK,k0,hX,d4]
                 repeat (first | refine And.intro (by omega) ?_ | refine And.intro ⟨by omega,by omega⟩ ?_)
                 refine ⟨cs.length - (i + 1),_,by omega,zaj [0,1,2,3,4] rfl rfl rfl ?_ ?_,i + 1,gn,ph,l,f,rfl,by omega,hc,rfl⟩
                 all_goals (simp only [ssT,zar,zas,setSlot,gOf,AV.ren,renL,Blk.ren,Ax.look,Ax.put,reduceCtorEq,↓reduceIte,Nat.reduceEqDiff,Nat.reduceLT,Nat.reduceAdd,List.length_append,List.length_cons,List.length_nil,Option.some.injEq,zfm,zae]; try simp)
             · have k0 : decide (K = 0) = false := decide_eq_false hk0
               by_cases hk1 : K = 1
               · have k1 : decide (K = 1) = true := decide_eq_true hk1
                 have hst := step_sy (gn := gn) (ph := ph) (l := l) (v := rd) (gen := gn) (parts := rp) (now := rn)
                 by_cases hxe : (fiF gn ph l rd gn rn).2 = 0
                 · obtain ⟨xp,xl,xo,hX⟩ : ∃ xp xl xo,syF gn ph l rd gn rp rn = ⟨⟨gn,xp,xl,false,0⟩,.si xo false⟩ := by unfold syF; rw [if_pos hxe]; exact ⟨_,_,_,rfl⟩
                   rw [hX] at hst
                   obtain ⟨xg,hxg⟩ : ∃ xg,xg = gn := ⟨_,rfl⟩
                   have hst : zll gn l gn xp xl := hst rfl
                   have hX : syF gn ph l rd gn rp rn = ⟨⟨xg,xp,xl,false,0⟩,.si xo false⟩ := by rw [hxg]; exact hX
                   have hst : zll gn l xg xp xl := by rw [hxg]; exact hst
                   clear hxg
                   obtain ⟨xf,hxf⟩ : ∃ xf,xf = false := ⟨_,rfl⟩
                   rw [← hxf] at hX
                   clear hxf
                   have d4 : decide ((0 : Int) = 0) = true := rfl
                   obtain ⟨s1,s2,s3,s4⟩ := id hst
                   have hlx := (ch_iff.1 s1).1
                   have hexX : ∃ k : List Mb,xl.map mbA = k.map mbA := ⟨xl,rfl⟩
                   have hlxm : (xl.map mbA).length = xl.length := by simp
                   have hlx9 : xl.length ≤ 9223372036854775807 := by omega
                   have hxx : ∃ k : List Mb,xl.map mbA = k.map mbA ∧ ∀ r ∈ k,r.d.length ≤ 9223372036854775807 := ⟨xl,rfl,zjy s1⟩
                   have d5 : decide (xg < gn) = false := decide_eq_false (by omega)
                   have d6 : decide (chG xg xp xl = 0) = true := decide_eq_true s1
                   obtain ⟨sm,hsm⟩ : ∃ sm,decide ((xl.length : Int) = (l.length : Int)) = sm := ⟨_,rfl⟩
                   have hgm : decide (xg = gn) = sm := by
                     rw [← hsm]
                     by_cases h : xg = gn
                     · rw [decide_eq_true h,decide_eq_true (by have := s3.2 h; omega)]
                     · rw [decide_eq_false h,decide_eq_false (fun h2 => h (s3.1 (by omega)))]
                   have hsb : decide (sm = sm) = true := decide_eq_true rfl
                   simp (config := { maxSteps := 3000000 }) only [go_sem,zab,Nat.reduceAdd,Nat.reduceSub,Nat.reduceMul,Int.reduceToNat,reduceCtorEq,↓reduceIte,Int.reducePow,Nat.reducePow,Int.reduceMod,Nat.reduceLeDiff,Int.reduceLE,Int.reduceNe,Int.reduceEq,Nat.reduceEqDiff,Nat.reduceLT,Nat.reduceBEq,ty,zfz,chGS,syS,syA,hF,Int.toNat_natCast,Bool.not_true,Bool.not_false,decide_true,true_or,or_true,d2,d3,hs1,hda,e1,hK,k0,k1,hX,d4,hlxm,hlx9,hexX,hxx,d5,d6,hsm,hgm,hsb]
                   repeat (first | refine And.intro (by omega) ?_ | refine And.intro ⟨by omega,by omega⟩ ?_)
                   refine zbx ⟨invMa cs f0 i gn ph l f xg xp xl xf sm,?_,key xg xp xl xf sm hst hsm⟩
                   refine ⟨_,_,zaj [0,1,2,3,4,101] rfl rfl rfl ?_ ?_,0,rfl,by omega,rfl⟩
                   all_goals (simp only [ssT,zar,zas,setSlot,gOf,AV.ren,renL,Blk.ren,Ax.look,Ax.put,reduceCtorEq,↓reduceIte,Nat.reduceEqDiff,Nat.reduceLT,Nat.reduceAdd,List.length_append,List.length_cons,List.length_nil,Option.some.injEq,zfm,zae]; try simp)
                 · obtain ⟨xe,hx0,hX⟩ : ∃ xe,xe ≠ 0 ∧ syF gn ph l rd gn rp rn = ⟨errJ xe,.sg 1 [] true⟩ := by unfold syF; rw [if_neg hxe]; exact ⟨_,hxe,rfl⟩
                   have d4 : decide (xe = 0) = false := decide_eq_false hx0
                   simp (config := { maxSteps := 3000000 }) only [go_sem,zab,Nat.reduceAdd,Nat.reduceSub,Nat.reduceMul,Int.reduceToNat,reduceCtorEq,↓reduceIte,Int.reducePow,Nat.reducePow,Int.reduceMod,Nat.reduceLeDiff,Int.reduceLE,Int.reduceNe,Int.reduceEq,Nat.reduceEqDiff,Nat.reduceLT,Nat.reduceBEq,ty,zfz,chGS,syS,syA,errJ,hF,Int.toNat_natCast,Bool.not_true,Bool.not_false,decide_true,true_or,or_true,d2,d3,hs1,hda,e1,hK,k0,k1,hX,d4,List.map_nil]
                   repeat (first | refine And.intro (by omega) ?_ | refine And.intro ⟨by omega,by omega⟩ ?_)
                   refine ⟨cs.length - (i + 1),_,by omega,zaj [0,1,2,3,4] rfl rfl rfl ?_ ?_,i + 1,gn,ph,l,f,rfl,by omega,hc,rfl⟩
                   all_goals (simp only [ssT,zar,zas,setSlot,gOf,AV.ren,renL,Blk.ren,Ax.look,Ax.put,reduceCtorEq,↓reduceIte,Nat.reduceEqDiff,Nat.reduceLT,Nat.reduceAdd,List.length_append,List.length_cons,List.length_nil,Option.some.injEq,zfm,zae]; try simp)
               · have k1 : decide (K = 1) = false := decide_eq_false hk1
                 by_cases hk2 : K = 2
                 · have k2 : decide (K = 2) = true := decide_eq_true hk2
                   have hst := step_be (gn := gn) (ph := ph) (l := l) (v := rd) (gen := rg) (now := rn)
                   obtain ⟨X,hX⟩ : ∃ X,beF gn ph l rd rg rn = X := ⟨_,rfl⟩
                   rw [hX] at hst
                   obtain ⟨xg,xp,xl,xf,xe⟩ := X
                   by_cases hxe : xe = 0
                   · have d4 : decide (xe = 0) = true := decide_eq_true hxe
                     have hst : zll gn l xg xp xl := hst hxe
                     obtain ⟨s1,s2,s3,s4⟩ := id hst
                     have hlx := (ch_iff.1 s1).1
                     have hexX : ∃ k : List Mb,xl.map mbA = k.map mbA := ⟨xl,rfl⟩
                     have hlxm : (xl.map mbA).length = xl.length := by simp
                     have hlx9 : xl.length ≤ 9223372036854775807 := by omega
                     have hxx : ∃ k : List Mb,xl.map mbA = k.map mbA ∧ ∀ r ∈ k,r.d.length ≤ 9223372036854775807 := ⟨xl,rfl,zjy s1⟩
                     have d5 : decide (xg < gn) = false := decide_eq_false (by omega)
                     have d6 : decide (chG xg xp xl = 0) = true := decide_eq_true s1
                     obtain ⟨sm,hsm⟩ : ∃ sm,decide ((xl.length : Int) = (l.length : Int)) = sm := ⟨_,rfl⟩
                     have hgm : decide (xg = gn) = sm := by
                       rw [← hsm]
                       by_cases h : xg = gn
                       · rw [decide_eq_true h,decide_eq_true (by have := s3.2 h; omega)]
                       · rw [decide_eq_false h,decide_eq_false (fun h2 => h (s3.1 (by omega)))]
                     have hsb : decide (sm = sm) = true := decide_eq_true rfl
                     simp (config := { maxSteps := 3000000 }) only [go_sem,zab,Nat.reduceAdd,Nat.reduceSub,Nat.reduceMul,Int.reduceToNat,reduceCtorEq,↓reduceIte,Int.reducePow,Nat.reducePow,Int.reduceMod,Nat.reduceLeDiff,Int.reduceLE,Int.reduceNe,Int.reduceEq,Nat.reduceEqDiff,Nat.reduceLT,Nat.reduceBEq,ty,zfz,chGS,beS,jrA,hF,Int.toNat_natCast,Bool.not_true,Bool.not_false,decide_true,true_or,or_true,d2,d3,hs1,hda,e1,hK,k0,k1,k2,hX,d4,hlxm,hlx9,hexX,hxx,d5,d6,hsm,hgm,hsb]
                     repeat (first | refine And.intro (by omega) ?_ | refine And.intro ⟨by omega,by omega⟩ ?_)
                     refine zbx ⟨invMa cs f0 i gn ph l f xg xp xl xf sm,?_,key xg xp xl xf sm hst hsm⟩
                     refine ⟨_,_,zaj [0,1,2,3,4,101] rfl rfl rfl ?_ ?_,0,rfl,by omega,rfl⟩
                     all_goals (simp only [ssT,zar,zas,setSlot,gOf,AV.ren,renL,Blk.ren,Ax.look,Ax.put,reduceCtorEq,↓reduceIte,Nat.reduceEqDiff,Nat.reduceLT,Nat.reduceAdd,List.length_append,List.length_cons,List.length_nil,Option.some.injEq,zfm,zae]; try simp)
                   · have d4 : decide (xe = 0) = false := decide_eq_false hxe
                     simp (config := { maxSteps := 3000000 }) only [go_sem,zab,Nat.reduceAdd,Nat.reduceSub,Nat.reduceMul,Int.reduceToNat,reduceCtorEq,↓reduceIte,Int.reducePow,Nat.reducePow,Int.reduceMod,Nat.reduceLeDiff,Int.reduceLE,Int.reduceNe,Int.reduceEq,Nat.reduceEqDiff,Nat.reduceLT,Nat.reduceBEq,ty,zfz,chGS,beS,jrA,hF,Int.toNat_natCast,Bool.not_true,Bool.not_false,decide_true,true_or,or_true,d2,d3,hs1,hda,e1,hK,k0,k1,k2,hX,d4]
                     repeat (first | refine And.intro (by omega) ?_ | refine And.intro ⟨by omega,by omega⟩ ?_)
                     refine ⟨cs.length - (i + 1),_,by omega,zaj [0,1,2,3,4] rfl rfl rfl ?_ ?_,i + 1,gn,ph,l,f,rfl,by omega,hc,rfl⟩
                     all_goals (simp only [ssT,zar,zas,setSlot,gOf,AV.ren,renL,Blk.ren,Ax.look,Ax.put,reduceCtorEq,↓reduceIte,Nat.reduceEqDiff,Nat.reduceLT,Nat.reduceAdd,List.length_append,List.length_cons,List.length_nil,Option.some.injEq,zfm,zae]; try simp)
                 · have k2 : decide (K = 2) = false := decide_eq_false hk2
                   by_cases hk3 : K = 3
                   · have k3 : decide (K = 3) = true := decide_eq_true hk3
                     have hst := step_le (gn := gn) (ph := ph) (l := l) (v := rd)
                     obtain ⟨X,hX⟩ : ∃ X,leF gn ph l rd = X := ⟨_,rfl⟩
                     rw [hX] at hst
                     obtain ⟨xg,xp,xl,xf,xe⟩ := X
                     by_cases hxe : xe = 0
                     · have d4 : decide (xe = 0) = true := decide_eq_true hxe
                       have hst : zll gn l xg xp xl := hst hxe
                       obtain ⟨s1,s2,s3,s4⟩ := id hst
                       have hlx := (ch_iff.1 s1).1
                       have hexX : ∃ k : List Mb,xl.map mbA = k.map mbA := ⟨xl,rfl⟩
                       have hlxm : (xl.map mbA).length = xl.length := by simp
                       have hlx9 : xl.length ≤ 9223372036854775807 := by omega
                       have hxx : ∃ k : List Mb,xl.map mbA = k.map mbA ∧ ∀ r ∈ k,r.d.length ≤ 9223372036854775807 := ⟨xl,rfl,zjy s1⟩
                       have d5 : decide (xg < gn) = false := decide_eq_false (by omega)
                       have d6 : decide (chG xg xp xl = 0) = true := decide_eq_true s1
                       obtain ⟨sm,hsm⟩ : ∃ sm,decide ((xl.length : Int) = (l.length : Int)) = sm := ⟨_,rfl⟩
                       have hgm : decide (xg = gn) = sm := by
                         rw [← hsm]
                         by_cases h : xg = gn
                         · rw [decide_eq_true h,decide_eq_true (by have := s3.2 h; omega)]
                         · rw [decide_eq_false h,decide_eq_false (fun h2 => h (s3.1 (by omega)))]
                       have hsb : decide (sm = sm) = true := decide_eq_true rfl
                       simp (config := { maxSteps := 3000000 }) only [go_sem,zab,Nat.reduceAdd,Nat.reduceSub,Nat.reduceMul,Int.reduceToNat,reduceCtorEq,↓reduceIte,Int.reducePow,Nat.reducePow,Int.reduceMod,Nat.reduceLeDiff,Int.reduceLE,Int.reduceNe,Int.reduceEq,Nat.reduceEqDiff,Nat.reduceLT,Nat.reduceBEq,ty,zfz,chGS,leS,jrA,hF,Int.toNat_natCast,Bool.not_true,Bool.not_false,decide_true,true_or,or_true,d2,d3,hs1,hda,e1,hK,k0,k1,k2,k3,hX,d4,hlxm,hlx9,hexX,hxx,d5,d6,hsm,hgm,hsb]
                       repeat (first | refine And.intro (by omega) ?_ | refine And.intro ⟨by omega,by omega⟩ ?_)
                       refine zbx ⟨invMa cs f0 i gn ph l f xg xp xl xf sm,?_,key xg xp xl xf sm hst hsm⟩
                       refine ⟨_,_,zaj [0,1,2,3,4,101] rfl rfl rfl ?_ ?_,0,rfl,by omega,rfl⟩
                       all_goals (simp only [ssT,zar,zas,setSlot,gOf,AV.ren,renL,Blk.ren,Ax.look,Ax.put,reduceCtorEq,↓reduceIte,Nat.reduceEqDiff,Nat.reduceLT,Nat.reduceAdd,List.length_append,List.length_cons,List.length_nil,Option.some.injEq,zfm,zae]; try simp)
                     · have d4 : decide (xe = 0) = false := decide_eq_false hxe
                       simp (config := { maxSteps := 3000000 }) only [go_sem,zab,Nat.reduceAdd,Nat.reduceSub,Nat.reduceMul,Int.reduceToNat,reduceCtorEq,↓reduceIte,Int.reducePow,Nat.reducePow,Int.reduceMod,Nat.reduceLeDiff,Int.reduceLE,Int.reduceNe,Int.reduceEq,Nat.reduceEqDiff,Nat.reduceLT,Nat.reduceBEq,ty,zfz,chGS,leS,jrA,hF,Int.toNat_natCast,Bool.not_true,Bool.not_false,decide_true,true_or,or_true,d2,d3,hs1,hda,e1,hK,k0,k1,k2,k3,hX,d4]
                       repeat (first | refine And.intro (by omega) ?_ | refine And.intro ⟨by omega,by omega⟩ ?_)
                       refine ⟨cs.length - (i + 1),_,by omega,zaj [0,1,2,3,4] rfl rfl rfl ?_ ?_,i + 1,gn,ph,l,f,rfl,by omega,hc,rfl⟩
                       all_goals (simp only [ssT,zar,zas,setSlot,gOf,AV.ren,renL,Blk.ren,Ax.look,Ax.put,reduceCtorEq,↓reduceIte,Nat.reduceEqDiff,Nat.reduceLT,Nat.reduceAdd,List.length_append,List.length_cons,List.length_nil,Option.some.injEq,zfm,zae]; try simp)
                   · have k3 : decide (K = 3) = false := decide_eq_false hk3
                     have hst := step_ti (gn := gn) (ph := ph) (l := l) (now := rn) (pat := rg) hc
                     obtain ⟨X,hX⟩ : ∃ X,tiF gn ph l rn rg = X := ⟨_,rfl⟩
                     rw [hX] at hst
                     obtain ⟨xg,xp,xl⟩ := X
                     obtain ⟨xf,hxf⟩ : ∃ xf,empP (l.map mbA) = xf := ⟨_,rfl⟩
                     have hst : zll gn l xg xp xl := hst
                     have d4 : decide ((0 : Int) = 0) = true := rfl
                     obtain ⟨s1,s2,s3,s4⟩ := id hst
                     have hlx := (ch_iff.1 s1).1
                     have hexX : ∃ k : List Mb,xl.map mbA = k.map mbA := ⟨xl,rfl⟩
                     have hlxm : (xl.map mbA).length = xl.length := by simp
                     have hlx9 : xl.length ≤ 9223372036854775807 := by omega
                     have hxx : ∃ k : List Mb,xl.map mbA = k.map mbA ∧ ∀ r ∈ k,r.d.length ≤ 9223372036854775807 := ⟨xl,rfl,zjy s1⟩
                     have d5 : decide (xg < gn) = false := decide_eq_false (by omega)
                     have d6 : decide (chG xg xp xl = 0) = true := decide_eq_true s1
                     obtain ⟨sm,hsm⟩ : ∃ sm,decide ((xl.length : Int) = (l.length : Int)) = sm := ⟨_,rfl⟩
                     have hgm : decide (xg = gn) = sm := by
                       rw [← hsm]
                       by_cases h : xg = gn
                       · rw [decide_eq_true h,decide_eq_true (by have := s3.2 h; omega)]
                       · rw [decide_eq_false h,decide_eq_false (fun h2 => h (s3.1 (by omega)))]
                     have hsb : decide (sm = sm) = true := decide_eq_true rfl
                     simp (config := { maxSteps := 3000000 }) only [go_sem,zab,Nat.reduceAdd,Nat.reduceSub,Nat.reduceMul,Int.reduceToNat,reduceCtorEq,↓reduceIte,Int.reducePow,Nat.reducePow,Int.reduceMod,Nat.reduceLeDiff,Int.reduceLE,Int.reduceNe,Int.reduceEq,Nat.reduceEqDiff,Nat.reduceLT,Nat.reduceBEq,ty,zfz,chGS,tiS,tiA,hF,Int.toNat_natCast,Bool.not_true,Bool.not_false,decide_true,true_or,or_true,d2,d3,hs1,hda,e1,hK,k0,k1,k2,k3,hX,hxf,d4,hlxm,hlx9,hexX,hxx,d5,d6,hsm,hgm,hsb]
                     repeat (first | refine And.intro (by omega) ?_ | refine And.intro ⟨by omega,by omega⟩ ?_)
                     refine zbx ⟨invMa cs f0 i gn ph l f xg xp xl xf sm,?_,key xg xp xl xf sm hst hsm⟩
                     refine ⟨_,_,zaj [0,1,2,3,4,101] rfl rfl rfl ?_ ?_,0,rfl,by omega,rfl⟩
                     all_goals (simp only [ssT,zar,zas,setSlot,gOf,AV.ren,renL,Blk.ren,Ax.look,Ax.put,reduceCtorEq,↓reduceIte,Nat.reduceEqDiff,Nat.reduceLT,Nat.reduceAdd,List.length_append,List.length_cons,List.length_nil,Option.some.injEq,zfm,zae]; try simp)
           case key =>
             intro xg xp xl xf sm hst hsm
             obtain ⟨s1,s2,s3,s4⟩ := hst
             have hlx := (ch_iff.1 s1).1
             have hlxm : (xl.map mbA).length = xl.length := by simp
             rintro m σ ⟨k,rfl,hk,rfl⟩
             have e2 : ((k : Int) + 1 + 9223372036854775808) % 18446744073709551616 - 9223372036854775808 = ((k + 1 : Nat) : Int) := by omega
             by_cases hkl : k < xl.length
             · have d7 : decide ((k : Int) < (xl.length : Int)) = true := decide_eq_true (by omega)
               cases sm with
               | false =>
                 have hne : xl.length ≠ l.length := fun h => by rw [decide_eq_true (by omega)] at hsm; cases hsm
                 have hs2 := zcu xl k hkl
                 have hy := s4 hne xl[k] (List.getElem_mem hkl)
                 obtain ⟨Y,hY⟩ : ∃ Y,xl[k] = Y := ⟨_,rfl⟩
                 rw [hY] at hs2 hy
                 obtain ⟨yd,yt,yy⟩ := Y
                 simp only at hy
                 subst hy
                 have hs2 : slot (xl.map mbA) k = .agg [.str yd,.w (.int .i64 yt),.w (.bool false)] := hs2
                 simp only [go_sem,zab,Nat.reduceAdd,Nat.reduceSub,Nat.reduceMul,Int.reduceToNat,reduceCtorEq,↓reduceIte,Int.reducePow,Nat.reducePow,Int.reduceMod,Nat.reduceLeDiff,Int.reduceLE,Int.reduceNe,Int.reduceEq,Nat.reduceEqDiff,Nat.reduceLT,Nat.reduceBEq,ty,zfz,hF,Int.toNat_natCast,Bool.not_true,Bool.not_false,hlxm,d7,hs2,e2]
                 repeat (first | refine And.intro (by omega) ?_ | refine And.intro ⟨by omega,by omega⟩ ?_)
                 refine ⟨xl.length - (k + 1),_,by omega,zaj [0,1,2,3,4,5] rfl rfl rfl ?_ ?_,k + 1,rfl,by omega,rfl⟩
                 all_goals (simp only [ssT,zar,zas,setSlot,gOf,AV.ren,renL,Blk.ren,Ax.look,Ax.put,reduceCtorEq,↓reduceIte,Nat.reduceEqDiff,Nat.reduceLT,Nat.reduceAdd,List.length_append,List.length_cons,List.length_nil,Option.some.injEq,zfm,zae]; try simp)
               | true =>
                 simp only [go_sem,zab,Nat.reduceAdd,Nat.reduceSub,Nat.reduceMul,Int.reduceToNat,reduceCtorEq,↓reduceIte,Int.reducePow,Nat.reducePow,Int.reduceMod,Nat.reduceLeDiff,Int.reduceLE,Int.reduceNe,Int.reduceEq,Nat.reduceEqDiff,Nat.reduceLT,Nat.reduceBEq,ty,zfz,hF,Int.toNat_natCast,Bool.not_true,Bool.not_false,hlxm,d7,e2]
                 refine ⟨_,Weak.refl _,?_⟩
                 simp only [go_sem,zab,Nat.reduceAdd,Nat.reduceSub,Nat.reduceMul,Int.reduceToNat,reduceCtorEq,↓reduceIte,Int.reducePow,Nat.reducePow,Int.reduceMod,Nat.reduceLeDiff,Int.reduceLE,Int.reduceNe,Int.reduceEq,Nat.reduceEqDiff,Nat.reduceLT,Nat.reduceBEq,ty,zfz,hF,Int.toNat_natCast,Bool.not_true,Bool.not_false,hlxm,e1]
                 refine ⟨cs.length - (i + 1),_,by omega,zaj [0,1,2,3,4] rfl rfl rfl ?_ ?_,i + 1,xg,xp,xl,xf,rfl,by omega,s1,rfl⟩
                 all_goals (simp only [ssT,zar,zas,setSlot,gOf,AV.ren,renL,Blk.ren,Ax.look,Ax.put,reduceCtorEq,↓reduceIte,Nat.reduceEqDiff,Nat.reduceLT,Nat.reduceAdd,List.length_append,List.length_cons,List.length_nil,Option.some.injEq,zfm,zae]; try simp)
             · have d7 : decide ((k : Int) < (xl.length : Int)) = false := decide_eq_false (by omega)
               simp only [go_sem,zab,Nat.reduceAdd,Nat.reduceSub,Nat.reduceMul,Int.reduceToNat,reduceCtorEq,↓reduceIte,Int.reducePow,Nat.reducePow,Int.reduceMod,Nat.reduceLeDiff,Int.reduceLE,Int.reduceNe,Int.reduceEq,Nat.reduceEqDiff,Nat.reduceLT,Nat.reduceBEq,ty,zfz,hF,Int.toNat_natCast,Bool.not_true,Bool.not_false,hlxm,d7,e2]
               refine ⟨_,Weak.refl _,?_⟩
               simp only [go_sem,zab,Nat.reduceAdd,Nat.reduceSub,Nat.reduceMul,Int.reduceToNat,reduceCtorEq,↓reduceIte,Int.reducePow,Nat.reducePow,Int.reduceMod,Nat.reduceLeDiff,Int.reduceLE,Int.reduceNe,Int.reduceEq,Nat.reduceEqDiff,Nat.reduceLT,Nat.reduceBEq,ty,zfz,hF,Int.toNat_natCast,Bool.not_true,Bool.not_false,hlxm,e1]
               refine ⟨cs.length - (i + 1),_,by omega,zaj [0,1,2,3,4] rfl rfl rfl ?_ ?_,i + 1,xg,xp,xl,xf,rfl,by omega,s1,rfl⟩
               all_goals (simp only [ssT,zar,zas,setSlot,gOf,AV.ren,renL,Blk.ren,Ax.look,Ax.put,reduceCtorEq,↓reduceIte,Nat.reduceEqDiff,Nat.reduceLT,Nat.reduceAdd,List.length_append,List.length_cons,List.length_nil,Option.some.injEq,zfm,zae]; try simp)
       · have d2 : decide ((i : Int) < (cs.length : Int)) = false := decide_eq_false (by omega)
         simp only [go_sem,zab,Nat.reduceAdd,Nat.reduceSub,Nat.reduceMul,Int.reduceToNat,reduceCtorEq,↓reduceIte,Int.reducePow,Nat.reducePow,Int.reduceMod,Nat.reduceLeDiff,Int.reduceLE,Int.reduceNe,Int.reduceEq,Nat.reduceEqDiff,Nat.reduceLT,Nat.reduceBEq,ty,zfz,hF,Int.toNat_natCast,Bool.not_true,Bool.not_false,d2]
         refine ⟨_,Weak.refl _,?_⟩
         simp only [go_sem,zab,Nat.reduceAdd,Nat.reduceSub,Nat.reduceMul,Int.reduceToNat,reduceCtorEq,↓reduceIte,Int.reducePow,Nat.reducePow,Int.reduceMod,Nat.reduceLeDiff,Int.reduceLE,Int.reduceNe,Int.reduceEq,Nat.reduceEqDiff,Nat.reduceLT,Nat.reduceBEq,ty,zfz,hF,Int.toNat_natCast,Bool.not_true,Bool.not_false,yesS]
 · exact hp.elim
end
end Go.Proofs.Ytdnlliedmfgfiaa
namespace Go.Proofs.Ytdnlliedmfgfiaa
open Ax
theorem all_ac20 : ∀ (xs : List AV),(∀ x ∈ xs,∃ r : Ac,x = acA r ∧ r.d.length ≤ 9223372036854775807) → ∃ rs : List Ac,xs = rs.map acA ∧ ∀ r ∈ rs,r.d.length ≤ 9223372036854775807
 | [],_ => ⟨[],rfl,by simp⟩
 | x :: xs,h => by
   obtain ⟨r,rfl,hr⟩ := h x (by simp)
   obtain ⟨rs,rfl,hrs⟩ := all_ac20 xs (fun y hy => h y (by simp [hy]))
   refine ⟨r :: rs,rfl,fun q hq => ?_⟩
   rcases List.mem_cons.1 hq with rfl | hq
   · exact hr
   · exact hrs q hq
theorem arg_ac20 {x : AV} (h : Arg ty 6 38 x) : ∃ (l : List Ac) (f : Bool),x = .sg 5 (l.map acA) f ∧ l.length ≤ 9223372036854775807 ∧ ∀ r ∈ l,r.d.length ≤ 9223372036854775807 := by
 obtain ⟨i,ls,hi,hs,rfl⟩ := h
 simp only [ty] at hi
 injection hi with hi
 subst hi
 simp only [zqy,ty,ztr,zkz] at hs
 obtain ⟨xs,f1,rfl,hx,hxs⟩ := hs
 have hm : maxLen = 9223372036854775807 := by decide
 obtain ⟨es,rfl,he⟩ := all_ac20 xs (fun x hxm => by
   obtain ⟨l,⟨l0,r0,rfl,⟨m0,rfl,w0⟩,l1,r1,rfl,⟨m1,rfl,w1⟩,l2,r2,rfl,⟨m2,rfl,w2⟩,l3,r3,rfl,⟨m3,rfl,w3⟩,l4,r4,rfl,⟨m4,rfl,w4⟩,rfl⟩,_,rfl⟩ := hxs x hxm
   exact ⟨⟨m0,m1,m2,m3,m4⟩,rfl,by simp only; omega⟩)
 rw [List.length_map] at hx
 exact ⟨es,f1,rfl,by omega,he⟩
theorem may_dom {x : AV} (hx : Arg ty 6 38 x) : (maS [x] []).p ∧ (maS [x] []).x = .w (.bool true) := by
 obtain ⟨l,f,rfl,hL,hl⟩ := arg_ac20 hx
 exact ⟨⟨by rw [List.length_map]; exact hL,l,rfl,hl⟩,rfl⟩
end Go.Proofs.Ytdnlliedmfgfiaa
