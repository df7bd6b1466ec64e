/- What the proofs of this seat stand on; it asks nothing. -/
import Derived.Test.YtlcijldkdpmknaaYa11
set_option linter.unusedSimpArgs false
set_option linter.unusedVariables false
namespace Go.Proofs.Ytlcijldkdpmknaa
open Ax
def strB : AV → List UInt8
 | .str bs => bs
 | _ => []
theorem map_strB (ss : List (List UInt8)) : (ss.map AV.str).map strB = ss := by
 rw [List.map_map]; exact (List.map_congr_left fun x _ => rfl).trans (List.map_id ss)
def zeq (ss : List (List UInt8)) : List (List UInt8) := ss.mergeSort fun x y => decide (x ≤ y)
theorem zcu (ss : List (List UInt8)) : (zeq ss).length = ss.length := List.length_mergeSort ..
def sortSS : zam
 | [.ms 0 1 0 n],[.g 1 xs] => ⟨n = xs.length ∧ n < 4611686018427387904 ∧ ∃ ss : List (List UInt8),xs = ss.map AV.str,.tup [],[.g 1 ((zeq (xs.map strB)).map AV.str)]⟩
 | [.sg s [] fl],[] => ⟨True,.tup [],[]⟩
 | _,_ => zay
theorem flat_str (ss : List (List UInt8)) : (ss.map AV.str).flatMap AV.leaves = ss.map AV.str := by
 induction ss with
 | nil => rfl
 | cons s r ih => rw [List.map_cons,List.flatMap_cons,ih]; rfl
theorem told_sort {P : Program} {f : FuncId}
   (hC : ∀ (blk off cap : Nat) (ss : List (List UInt8)) (w : World),Go.Sort.Holds Go.Proofs.encStr w blk off ss.toArray → blk < w.heap.size → ss.length < 4611686018427387904 →
     Calls P f #[.slice (some ⟨blk,off,none⟩) ss.length cap] w fun e w' =>
       e = .returned (.tuple #[]) ∧ ∃ n os,w' = Go.Sort.grow (Go.Sort.putRow Go.Proofs.encStr (Go.Sort.ahead w n) blk off (zeq ss).toArray) os)
   (hN : ∀ (p : Option Addr) (cap : Nat) (w : World),Calls P f #[.slice p 0 cap] w fun e w' => e = .returned (.tuple #[]) ∧ w' = w) : zaq P f sortSS := by
 intro xs pins hp hcl w bad pb vs hpb hnd hbad hpins hlen hxs
 unfold sortSS at hp ⊢
 split at hp
 · rename_i n ys
   obtain ⟨rfl,hn,ss,rfl⟩ := hp
   rw [map_strB]
   obtain ⟨b,rfl⟩ : ∃ b,pb = [b] := by
     cases pb with
     | nil => simp at hpb
     | cons b r => cases r with
       | nil => exact ⟨b,rfl⟩
       | cons c r => simp at hpb
   obtain ⟨v,rfl⟩ : ∃ v,vs = [v] := by
     cases vs with
     | nil => simp at hlen
     | cons v r => cases r with
       | nil => exact ⟨v,rfl⟩
       | cons c r => simp at hlen
   have hv : R w (zba [b] bad) (.ms 0 1 0 (ss.map AV.str).length) v := hxs 0 (by simp) (by simp)
   have hm : (zba [b] bad).m 0 = .here b := rfl
   cases hv with
   | ms _ _ _ _ _ h =>
     unfold Owns at h
     rw [hm] at h
     simp only at h
     obtain ⟨o,cap,cur,e,fz,rfl,ho,hcur,hsz,hle,hcap⟩ := h
     have hL := (hpins 0 (by simp) (by simp)).2
     obtain ⟨cur',e',fz',hcur',hfz,hone,hfl,hcells⟩ := hL.lies rfl
     have hb0 : ([b] : List Nat)[0] = b := rfl
     rw [hb0,hcur] at hcur'
     injection hcur' with hcur'
     injection hcur' with h1 h2 h3
     subst h1 h2 h3
     have hflat : (Blk.g 1 (ss.map AV.str)).flat = ss.map AV.str := flat_str ss
     have hbs : b < w.heap.size := by
       rcases Nat.lt_or_ge b w.heap.size with h | h
       · exact h
       · rw [Array.getElem?_eq_none h] at hcur; cases hcur
     rw [List.length_map] at hle hn
     have hlenc : ss.length ≤ cur.size := by
       have := hfl
       rw [show ([Blk.g 1 (ss.map AV.str)] : List Blk)[0] = Blk.g 1 (ss.map AV.str) from rfl,hflat,List.length_map] at this
       exact this
     have ho0 : 0 < ss.length → o = 0 := fun h => by have := ho (by omega); omega
     have hcj : ∀ j (hj : j < ss.length),cur[j]'(by omega) = Value.string ⟨ss[j].toArray⟩ := by
       intro j hj
       have hx := (hcells j (by show j < (Blk.g 1 (ss.map AV.str)).flat.length; rw [hflat]; simpa using hj) (by omega)).2
       have hx' : (Blk.g 1 (ss.map AV.str)).flat[j]'(by rw [hflat]; simpa using hj) = AV.str ss[j] := by
         simp only [hflat,List.getElem_map]
       rw [show (([Blk.g 1 (ss.map AV.str)] : List Blk)[0]).flat[j]'(by show j < (Blk.g 1 (ss.map AV.str)).flat.length; rw [hflat]; simpa using hj) = AV.str ss[j] from hx'] at hx
       generalize cur[j]'(by omega) = u at hx
       cases hx with
       | str _ => rfl
     have hH : Go.Sort.Holds Go.Proofs.encStr w b o ss.toArray := by
       intro j hj
       have hj : j < ss.length := by simpa using hj
       have h0 := ho0 (by omega)
       subst h0
       have hjc : j < cur.size := by omega
       refine ⟨?_,?_⟩
       · simp only [World.cell?,hcur,Nat.zero_add,Array.getElem?_eq_getElem hjc]
         rw [hcj j hj]
         simp [hj]
       · have := fz_free hfz j hjc
         simp only [World.frozen?,hcur,Nat.zero_add]
         simpa using this
     have hc := hC b o cap ss w hH hbs hn
     rw [List.length_map]
     refine Calls.mono hc ?_
     rintro e1 w' ⟨rfl,k,os,rfl⟩
     refine ⟨_,zba [b] bad,rfl,?_⟩
     have hhp : (Go.Sort.grow (Go.Sort.putRow Go.Proofs.encStr (Go.Sort.ahead w k) b o (zeq ss).toArray) os).heap[b]? = some (.cells (Go.Sort.putCells Go.Proofs.encStr o (zeq ss).toArray cur) e fz) := by
       rw [Go.Sort.heap_grow_old _ _ (by simp [Go.Sort.putRow,Go.Sort.mapBlock,Go.Sort.ahead]; exact hbs)]
       simp [Go.Sort.putRow,Go.Sort.mapBlock,Go.Sort.ahead,Array.getElem?_modify,hcur,Go.Sort.onCells]
     obtain ⟨D,hD⟩ : ∃ D,(zeq ss).toArray = D := ⟨_,rfl⟩
     have hDs : D.size = ss.length := by rw [← hD]; simp [zcu]
     rw [hD] at hhp ⊢
     obtain ⟨cu,hcu⟩ : ∃ cu,Go.Sort.putCells Go.Proofs.encStr o D cur = cu := ⟨_,rfl⟩
     have hcs : cu.size = cur.size := by rw [← hcu]; simp [Go.Sort.putCells]
     have hget : ∀ (j : Nat) (hj : j < cu.size),cu[j] = if o ≤ j ∧ j < o + D.size then Go.Proofs.encStr D[j - o]! else cur[j]'(by omega) := by
       intro j hj
       subst hcu
       simp [Go.Sort.putCells]
     rw [hcu] at hhp
     have hflat2 : (Blk.g 1 ((zeq ss).map AV.str)).flat = (zeq ss).map AV.str := flat_str _
     refine ⟨R.tup [] [] rfl (by simp),rfl,?_,?_,?_,?_,?_,?_⟩
     · intro k' hk'
       have hk0 : k' = 0 := by simp at hk'; omega
       subst hk0
       refine ⟨?_,by rw [hm]; simp,by rw [hm]; simp⟩
       unfold BlkR
       rw [hm]
       refine ⟨⟨by decide,?_⟩,Lies.mkC ⟨cu,e,fz,hhp,by rw [hcs]; exact hfz,?_,?_,?_⟩⟩
       · intro x hx
         obtain ⟨y,_,rfl⟩ := List.mem_map.1 hx
         rfl
       · intro j hj
         rw [hget j hj]
         split
         · rfl
         · exact hone j (by omega)
       · show (Blk.g 1 ((zeq ss).map AV.str)).flat.length ≤ cu.size
         rw [hflat2,List.length_map,zcu,hcs]; exact hlenc
       · intro j hj hj'
         have hjl : j < (zeq ss).length := by
           have : j < (Blk.g 1 ((zeq ss).map AV.str)).flat.length := hj
           rw [hflat2,List.length_map] at this; exact this
         have hjs : j < ss.length := by rw [← zcu ss]; exact hjl
         have h0 := ho0 (by omega)
         subst h0
         have hx' : (Blk.g 1 ((zeq ss).map AV.str)).flat[j]'hj = AV.str (zeq ss)[j] := by
           simp only [hflat2,List.getElem_map]
         show (Blk.g 1 ((zeq ss).map AV.str)).flat[j].leaf = true ∧ R _ _ ((Blk.g 1 ((zeq ss).map AV.str)).flat[j]) cu[j]
         rw [hx',hget j hj',if_pos ⟨Nat.zero_le _,by omega⟩]
         refine ⟨rfl,?_⟩
         have hDj : D[j - 0]! = (zeq ss)[j] := by
           subst hD
           simp [hjl]
         rw [hDj]
         exact R.str _
     · intro k' hk'
       have hk0 : k' = 0 := by simp at hk'; omega
       subst hk0; rfl
     · intro k' b' h1 h2
       have h1 : 1 ≤ k' := h1
       have h3 : (zba [b] bad).m k' = .free := by
         show (match ([b] : List Nat)[k']? with | some b => L.here b | none => L.free) = _
         rw [List.getElem?_eq_none (by simpa using h1)]
       rw [h3] at h2; cases h2
     · intro k' h1
       have h1 : 1 ≤ k' := h1
       show (match ([b] : List Nat)[k']? with | some b => L.here b | none => L.free) = _
       rw [List.getElem?_eq_none (by simpa using h1)]
     · intro i j b' h1 h2
       obtain ⟨g1,_⟩ := zbv h1
       obtain ⟨g2,_⟩ := zbv h2
       simp at g1 g2
       omega
     · refine ⟨rfl,rfl,rfl,?_,?_,?_⟩
       · simp [Go.Sort.grow,Go.Sort.putRow,Go.Sort.mapBlock,Go.Sort.ahead]
       · intro b' hb' hne
         have hne : b' ≠ b := by simpa using hne
         rw [Go.Sort.heap_grow_old _ _ (by simp [Go.Sort.putRow,Go.Sort.mapBlock,Go.Sort.ahead]; exact hb')]
         simp [Go.Sort.putRow,Go.Sort.mapBlock,Go.Sort.ahead,Array.getElem?_modify]
         intro h; exact (hne h.symm).elim
       · intro b' c' e' f' hE hc'
         have hE : b' = b := by simpa using hE
         subst hE
         rw [hcur] at hc'
         injection hc' with hc'
         injection hc' with h1 h2 h3
         subst h1 h2 h3
         exact ⟨cu,fz,hhp,hcs⟩
 · rename_i s fl
   obtain rfl : pb = [] := by cases pb with
     | nil => rfl
     | cons b r => simp at hpb
   obtain ⟨v,rfl⟩ : ∃ v,vs = [v] := by
     cases vs with
     | nil => simp at hlen
     | cons v r => cases r with
       | nil => exact ⟨v,rfl⟩
       | cons c r => simp at hlen
   have hv : R w (zba [] bad) (.sg s [] fl) v := hxs 0 (by simp) (by simp)
   cases hv with
   | sg _ _ _ a cap cs hd hs hc hl hx h =>
     refine Calls.mono (hN a cap w) ?_
     rintro e1 w' ⟨rfl,rfl⟩
     refine ⟨_,zba [] bad,rfl,?_⟩
     have hf : ∀ k,(zba [] bad).m k = .free := fun k => by
       show (match ([] : List Nat)[k]? with | some b => L.here b | none => L.free) = _
       rw [List.getElem?_eq_none (by simp)]
     refine ⟨R.tup [] [] rfl (by simp),rfl,?_,?_,?_,fun k _ => hf k,?_,?_⟩
     · intro k hk; simp at hk
     · intro k hk; simp at hk
     · intro k b' _ h2; rw [hf k] at h2; cases h2
     · intro i j b' h1 _; rw [hf i] at h1; cases h1
     · exact ⟨rfl,rfl,rfl,Nat.le_refl _,fun _ _ _ => rfl,fun b' c' e' f' hE _ => by simp at hE⟩
 · exact hp.elim
end Go.Proofs.Ytlcijldkdpmknaa
namespace Go.Proofs.Ytlcijldkdpmknaa
open Go.Shelf
open Ax
def sortSR : Go.Shelf.Ren := ⟨fun | 54 => 27 | 64 => 47 | 65 => 46 | 78 => 71 | 79 => 72 | 80 => 62 | 81 => 63 | 82 => 64 | 83 => 65 | 84 => 66 | 85 => 67 | 61 => 68 | 86 => 69 | 87 => 70 | 93 => 79 | 89 => 80 | 90 => 81 | 94 => 82 | 95 => 83 | 69 => 84 | 97 => 89 | n => n,fun | 25 => 32 | 26 => 9 | 3 => 3 | 51 => 81 | 0 => 0 | 67 => 103 | 69 => 105 | 4 => 4 | 61 => 96 | 60 => 95 | 44 => 29 | 5 => 5 | 9 => 9 | 75 => 110 | 79 => 114 | 83 => 119 | 84 => 120 | n => n,fun | n => n⟩
theorem sortSL : Go.Proofs.SlLaysN.n54 Try.prog sortSR := {
 mixed := by kernel_rfl
 f54 := ⟨Try.f27.name,by decide,Try.func27.trans (congrArg some (by kernel_rfl))⟩
 f61 := ⟨Try.f68.name,by decide,Try.func68.trans (congrArg some (by kernel_rfl))⟩
 f64 := Try.func47.trans (congrArg some (by kernel_rfl))
 f65 := ⟨Try.f46.name,by decide,Try.func46.trans (congrArg some (by kernel_rfl))⟩
 f69 := ⟨Try.f84.name,by decide,Try.func84.trans (congrArg some (by kernel_rfl))⟩
 f78 := Try.func71.trans (congrArg some (by kernel_rfl))
 f79 := Try.func72.trans (congrArg some (by kernel_rfl))
 f80 := ⟨Try.f62.name,by decide,Try.func62.trans (congrArg some (by kernel_rfl))⟩
 f81 := ⟨Try.f63.name,by decide,Try.func63.trans (congrArg some (by kernel_rfl))⟩
 f82 := ⟨Try.f64.name,by decide,Try.func64.trans (congrArg some (by kernel_rfl))⟩
 f83 := ⟨Try.f65.name,by decide,Try.func65.trans (congrArg some (by kernel_rfl))⟩
 f84 := ⟨Try.f66.name,by decide,Try.func66.trans (congrArg some (by kernel_rfl))⟩
 f85 := ⟨Try.f67.name,by decide,Try.func67.trans (congrArg some (by kernel_rfl))⟩
 f86 := ⟨Try.f69.name,by decide,Try.func69.trans (congrArg some (by kernel_rfl))⟩
 f87 := ⟨Try.f70.name,by decide,Try.func70.trans (congrArg some (by kernel_rfl))⟩
 f89 := Try.func80.trans (congrArg some (by kernel_rfl))
 f90 := Try.func81.trans (congrArg some (by kernel_rfl))
 f93 := ⟨Try.f79.name,by decide,Try.func79.trans (congrArg some (by kernel_rfl))⟩
 f94 := ⟨Try.f82.name,by decide,Try.func82.trans (congrArg some (by kernel_rfl))⟩
 f95 := ⟨Try.f83.name,by decide,Try.func83.trans (congrArg some (by kernel_rfl))⟩
 f97 := ⟨Try.f89.name,by decide,Try.func89.trans (congrArg some (by kernel_rfl))⟩
 t0 := Try.underlying0
 a0 := Try.isAgg0
 z0 := Try.sizeOf0
 v0 := Try.zeroValue0
 t3 := Try.underlying3
 a3 := Try.isAgg3
 z3 := Try.sizeOf3
 v3 := Try.zeroValue3
 t4 := Try.underlying4
 a4 := Try.isAgg4
 z4 := Try.sizeOf4
 v4 := Try.zeroValue4
 t5 := Try.underlying5
 a5 := Try.isAgg5
 z5 := Try.sizeOf5
 v5 := Try.zeroValue5
 t9 := Try.underlying9
 a9 := Try.isAgg9
 z9 := Try.sizeOf9
 v9 := Try.zeroValue9
 t25 := Try.underlying32
 a25 := Try.isAgg32
 z25 := Try.sizeOf32
 v25 := Try.zeroValue32
 t26 := Try.underlying9
 a26 := Try.isAgg9
 z26 := Try.sizeOf9
 v26 := Try.zeroValue9
 t44 := Try.underlying29
 a44 := Try.isAgg29
 z44 := Try.sizeOf29
 v44 := Try.zeroValue29
 t51 := Try.underlying81
 a51 := Try.isAgg81
 z51 := Try.sizeOf81
 v51 := Try.zeroValue81
 t60 := Try.underlying95
 a60 := Try.isAgg95
 z60 := Try.sizeOf95
 v60 := Try.zeroValue95
 t61 := Try.underlying96
 a61 := Try.isAgg96
 z61 := Try.sizeOf96
 v61 := Try.zeroValue96
 t67 := Try.underlying103
 a67 := Try.isAgg103
 z67 := Try.sizeOf103
 v67 := Try.zeroValue103
 t69 := Try.underlying105
 a69 := Try.isAgg105
 z69 := Try.sizeOf105
 v69 := Try.zeroValue105
 t75 := Try.underlying110
 a75 := Try.isAgg110
 z75 := Try.sizeOf110
 v75 := Try.zeroValue110
 t79 := Try.underlying114
 a79 := Try.isAgg114
 z79 := Try.sizeOf114
 v79 := Try.zeroValue114
 t83 := Try.underlying119
 a83 := Try.isAgg119
 z83 := Try.sizeOf119
 v83 := Try.zeroValue119
 t84 := Try.underlying120
 a84 := Try.isAgg120
 z84 := Try.sizeOf120
 v84 := Try.zeroValue120 }
theorem sortS_sound : zaq Try.prog 27 sortSS :=
 told_sort (fun blk off cap ss w hH hb hs => AnyG.slices_Sort_string sortSL blk off cap ss w hH hb hs) (fun p cap w => AnyG.slices_Sort_string_none sortSL p cap w)
theorem sound_toO {P : Program} {f : FuncId} {spec : zam} (h : zaq P f spec) (hc : ∀ xs pins,(spec xs pins).p → closedB pins = true) : SoundO P f spec := by
 intro xs pins hp w bad pb vs h1 h2 h3 h4 h5 h6
 refine (h xs pins hp (hc xs pins hp) w bad pb vs h1 h2 h3 h4 h5 h6).mono ?_
 rintro e w' ⟨v,loc',he,hg⟩
 exact ⟨v,loc',he,hg.r,hg.bad,fun k hk => .inr (hg.bl k hk),fun k hk => .inl (hg.old k hk),fun k b hk hb => ⟨.inl (hg.new k b hk hb).1,(hg.new k b hk hb).2⟩,hg.none,hg.inj,hg.fram⟩
theorem zca (l : List (List UInt8)) : closedL (l.map AV.str) = true := by
 induction l with
 | nil => rfl
 | cons x r ih => simp only [List.map_cons,closedL,AV.closed,ih,Bool.and_self]
theorem sortO_sound : SoundO Try.prog 27 sortSS := by
 refine sound_toO sortS_sound fun xs pins hp => ?_
 unfold sortSS at hp
 split at hp
 · obtain ⟨_,_,ss,rfl⟩ := hp
   simp only [closedB,Blk.closed,zca,Bool.and_self]
 · rfl
 · exact hp.elim
end Go.Proofs.Ytlcijldkdpmknaa
namespace Go.Proofs.Ytlcijldkdpmknaa
open Ax
def wr64 (n : Int) : Int := (n + 9223372036854775808) % 18446744073709551616 - 9223372036854775808
def cntR (m : KM) (r : Rec) : KM := if r.k = true then ptK m r.key (wr64 (((gtK m r.key).getD 0) + 1)) else m
def cntB (m : KM) (x : Bat) : KM := x.rs.foldl cntR m
def cntG (l : List Bat) : KM := l.foldl cntB []
def ksM (m : KM) : List (List UInt8) := m.map Prod.fst
theorem ixK_none : ∀ {k : List UInt8} {m : KM} {i : Nat},ixK k m i = none ↔ k ∉ ksM m
 | k,[],i => by simp [ixK,ksM]
 | k,p :: m,i => by
   have h := ixK_none (k := k) (m := m) (i := i + 1)
   unfold ixK
   by_cases e : k = p.1
   · rw [if_pos e]; simp [ksM,e]
   · rw [if_neg e,h]; simp [ksM,e]
theorem ixK_get : ∀ {k : List UInt8} {m : KM} {i j : Nat} {v : Int},ixK k m i = some (j,v) → i ≤ j ∧ ∃ h : j - i < m.length,m[j - i] = (k,v)
 | k,[],i,j,v,h => by cases h
 | k,p :: m,i,j,v,h => by
   unfold ixK at h
   by_cases e : k = p.1
   · rw [if_pos e] at h
     injection h with h
     injection h with h1 h2
     subst h1 h2
     exact ⟨Nat.le_refl _,by simp,by simp [e]⟩
   · rw [if_neg e] at h
     obtain ⟨h1,h2,h3⟩ := ixK_get h
     refine ⟨by omega,by simp only [List.length_cons]; omega,?_⟩
     have : j - i = (j - (i + 1)) + 1 := by omega
     simp only [this,List.getElem_cons_succ]
     exact h3
theorem ksM_ptK (m : KM) (k : List UInt8) (v : Int) : ksM (ptK m k v) = if k ∈ ksM m then ksM m else ksM m ++ [k] := by
 unfold ptK
 cases h : ixK k m 0 with
 | none => rw [if_neg (ixK_none.1 h)]; simp [ksM]
 | some p =>
   obtain ⟨j,w⟩ := p
   have hm : k ∈ ksM m := Classical.byContradiction fun e => by rw [ixK_none.2 e] at h; cases h
   rw [if_pos hm]
   obtain ⟨_,hj,hg⟩ := ixK_get h
   simp only [ksM,List.map_set]
   refine List.ext_getElem (by simp) fun i h1 h2 => ?_
   rw [List.getElem_set]
   split
   · rename_i e
     subst e
     simp only [Nat.sub_zero] at hg
     rw [List.getElem_map]
     simp only [hg]
   · rfl
def skeyS : zam
 | [.agg [.w (.int .i64 B),.sg 6 xs f]],[] => ⟨xs.length ≤ 1000000 ∧ isBs xs ∧ (ksM (cntG (xs.map ubat))).length ≤ 1000000,.sg 1 ((zeq (ksM (cntG (xs.map ubat)))).map .str) false,[]⟩
 | _,_ => zay
theorem le_uu (x y : List UInt8) (h1 : x ≤ y) (h2 : y ≤ x) : x = y := List.le_antisymm h1 h2
theorem sortL_perm {a b : List (List UInt8)} (h : a.Perm b) : zeq a = zeq b := by
 have ht : ∀ (x y z : List UInt8),decide (x ≤ y) = true → decide (y ≤ z) = true → decide (x ≤ z) = true := fun x y z p q => by
   simp only [decide_eq_true_eq] at *
   exact List.le_trans p q
 have hc : ∀ (x y : List UInt8),(decide (x ≤ y) || decide (y ≤ x)) = true := fun x y => by
   simp only [Bool.or_eq_true,decide_eq_true_eq]
   exact List.le_total x y
 refine List.Perm.eq_of_pairwise (le := fun x y => decide (x ≤ y) = true) (fun x y _ _ h1 h2 => le_uu x y (of_decide_eq_true h1) (of_decide_eq_true h2)) (List.pairwise_mergeSort ht hc a) (List.pairwise_mergeSort ht hc b) ?_
 exact (List.mergeSort_perm a _).trans (h.trans (List.mergeSort_perm b _).symm)
theorem erase_perm {α : Type} : ∀ (l : List α) (j : Nat) (h : j < l.length),l.Perm (l[j] :: l.eraseIdx j)
 | x :: r,0,h => List.Perm.refl _
 | x :: r,j + 1,h => by
   have h' : j < r.length := by simpa using h
   simp only [List.getElem_cons_succ,List.eraseIdx_cons_succ]
   exact ((erase_perm r j h').cons x).trans (List.Perm.swap _ _ _)
end Go.Proofs.Ytlcijldkdpmknaa
namespace Go.Proofs.Ytlcijldkdpmknaa
open Ax
def zdy (f : FuncId) : Option zam :=
 match f with
 | 27 => some sortSS
 | _ => none
theorem Skey14_ok : FnsO Try.prog zdy := by
 intro f s h
 unfold zdy at h
 split at h
 · injection h with h; subst h; exact ⟨⟨_,Try.func27,by kernel_rfl,by kernel_rfl⟩,sortO_sound⟩
 · cases h
def keyPl : XPlan := fun id => match id with
 | 14 => .tst [true,false]
 | 17 => .opn [] 1
 | _ => .std
theorem kvA_erase (m : KM) (j : Nat) : (kvA m).eraseIdx j = kvA (m.eraseIdx j) := (map_eraseN kvP m j).symm
theorem kvA_get (m : KM) (j : Nat) (h : j < (kvA m).length) (h' : j < m.length) : (kvA m)[j] = (.str m[j].1,.w (.int .i64 m[j].2)) := by
 simp only [kvA,List.getElem_map]; rfl
theorem kvA_len (m : KM) : (kvA m).length = m.length := by simp [kvA]
theorem sg_falseJ {w : World} {loc : Ax.Loc} {v : Value} {s : Nat} (h : R w loc (.sg s [] true) v) : R w loc (.sg s [] false) v := by
 cases h with
 | sg _ _ _ a cap cs hd hs hc hl hx hh => exact .sg s [] false a cap cs ⟨hd.le,hd.top,fun h => by cases h⟩ (by simp) hc hl hx hh
theorem slot_fgRJ (id s : Nat) (zs : List AV) : ∀ (sl : List AV) (i : Nat),slot (fgL id s zs sl) i = (slot sl i).fg id s zs
 | [],i => rfl
 | x :: sl,0 => rfl
 | x :: sl,i + 1 => slot_fgRJ id s zs sl i
theorem g1_endsJ {T : zac} {sl : List AV} {H : Heap} {nx id n s : Nat} {ws rs : List AV} {q : Prop} (i : Nat) (h2 : slot sl i = .ms id s 0 n) (hl : Ax.look H id = some (.g s ws)) (hc : closedL ws = true) (hn : n = ws.length) (hr : rs = ws) :
   EndsW T [.tmp i] [] ⟨q,.sg s rs false,[]⟩ .ret ⟨sl,H,nx⟩ := by
 subst hn hr
 have hs : slot (fgL id s rs sl) i = .sg s rs false := by
   rw [slot_fgRJ,h2]
   simp [AV.fg]
 refine ⟨_,zfo id s i rs hl hc (by rw [h2]; simp [AV.ids]),?_⟩
 simp only [Ax.Ends,Ax.rvals,EndsX,rone,hs,AV.ids,idsL,newIds,upTo,nodup,pinsOf,List.nil_append,AV.ren,renL,and_self]
theorem ids_strs (l : List (List UInt8)) : idsL (l.map AV.str) = [] := by
 induction l with
 | nil => rfl
 | cons x r ih => simp only [List.map_cons,idsL,AV.ids,ih,List.nil_append]
section
set_option maxRecDepth 100000
set_option maxHeartbeats 8000000 in
theorem skey_sound : zaq Try.prog 9 skeyS := by
 refine fn_soundOK (S := noS) (SO := zdy) (T := ty) zat ty_ok zbo Skey14_ok Try.func9 (c := Try.f9.body.getD .skip) (by kernel_rfl) (fun xs pins hp _ => ?_)
 unfold skeyS at hp ⊢
 split at hp
 · rename_i B xs f _
   obtain ⟨hL,⟨es,rfl,he⟩,hKL⟩ := hp
   rw [List.length_map] at hL
   refine ⟨by simp,keyPl,by kernel_rfl,?_⟩
   have hlp : (es.map bvp).length = es.length := by simp
   rw [zaz] at hKL ⊢
   obtain ⟨G,hG⟩ : ∃ G,cntG (es.map Prod.fst) = G := ⟨_,rfl⟩
   rw [hG] at hKL ⊢
   unfold Try.f9
   simp only [go_sem,zad,Nat.reduceAdd,Nat.reduceSub,Nat.reduceMul,Int.reduceToNat,reduceCtorEq,↓reduceIte,Int.reducePow,Nat.reducePow,Int.reduceMod,Nat.reduceLeDiff,Int.reduceLE,Int.reduceNe,Int.reduceEq,Nat.reduceEqDiff,Nat.reduceLT,Nat.reduceBEq,List.map_cons,List.map_nil,List.toList_toArray,Array.toList_append,Option.toArray_some,Option.toArray_none,Bool.and_self,ty,noS,zdy,keyPl,hlp]
   refine awpO_loopW ⟨fun m σ => ∃ (i : Nat) (M : KM),m = es.length - i ∧ i ≤ es.length ∧ G = ((es.drop i).map Prod.fst).foldl cntB M ∧
       σ = ⟨[.agg [.w (.int .i64 B),.sg 6 (es.map bvp) f],.rf 4 2 0 0,.junk,.rf 5 0 0 0,.junk,.junk,.junk,.junk,.junk,.junk,.junk,.junk,.sg 6 (es.map bvp) f,.w (.int .i64 es.length),.w (.int .i64 i),.junk,.junk,.junk,.junk,.junk,.junk,.junk,.junk,.junk,.junk,.junk,.junk,.junk,.junk,.junk,.junk,.junk,.junk,.junk,.junk,.junk,.junk,.junk,.junk,.junk,.junk,.junk,.junk,.junk,.junk,.junk,.junk],[(4,.g 2 [.agg [.w (.int .i64 B),.sg 6 (es.map bvp) f]]),(5,.o (.mp (kvA M)))],6⟩,?_,?_⟩
   · refine ⟨_,_,zab [0,1,2,3,4,20] rfl rfl rfl ?_ ?_,0,[],rfl,by omega,by rw [List.drop_zero,← hG]; rfl,rfl⟩
     · simp only [ssT,zae,zaf,setSlot,gOf,AV.ren,renL,Blk.ren,Ax.look,Ax.put,reduceCtorEq,↓reduceIte,Nat.reduceEqDiff,Nat.reduceLT,Nat.reduceAdd,List.length_append,List.length_cons,List.length_nil,Option.some.injEq]; try simp
     · simp only [ssT,zae,zaf,setSlot,gOf,AV.ren,renL,Blk.ren,Ax.look,Ax.put,reduceCtorEq,↓reduceIte,Nat.reduceEqDiff,Nat.reduceLT,Nat.reduceAdd,List.length_append,List.length_cons,List.length_nil,Option.some.injEq]; try rfl
   · rintro m σ ⟨i,M,rfl,hi,hinv,rfl⟩
     have e1 : ((i : Int) + 1 + 9223372036854775808) % 18446744073709551616 - 9223372036854775808 = ((i + 1 : Nat) : Int) := by omega
     by_cases hil : i < es.length
     · have d3 : decide ((i : Int) < es.length) = true := decide_eq_true (by omega)
       have hs1 := zbb es i hil
       have m1 := he es[i] (List.getElem_mem hil)
       have hdr : es.drop i = es[i] :: es.drop (i + 1) := List.drop_eq_getElem_cons hil
       obtain ⟨P,hP⟩ : ∃ P,es[i] = P := ⟨_,rfl⟩
       rw [hP] at hs1 m1 hdr
       rw [hdr] at hinv
       obtain ⟨⟨b,c,p,e,s,rs⟩,f'⟩ := P
       have hs1 : slot (es.map bvp) i = .agg [.w (.int .i64 b),.w (.int .i64 c),.w (.int .i64 p),.w (.int .i64 e),.w (.int .i64 s),.sg 6 (rs.map rv) f'] := hs1
       simp only at m1
       have hlr : (rs.map rv).length = rs.length := by simp
       have hinv : G = ((es.drop (i + 1)).map Prod.fst).foldl cntB (rs.foldl cntR M) := hinv
       simp only [go_sem,zad,Nat.reduceAdd,Nat.reduceSub,Nat.reduceMul,Int.reduceToNat,reduceCtorEq,↓reduceIte,Int.reducePow,Nat.reducePow,Int.reduceMod,Nat.reduceLeDiff,Int.reduceLE,Int.reduceNe,Int.reduceEq,Nat.reduceEqDiff,Nat.reduceLT,Nat.reduceBEq,List.map_cons,List.map_nil,List.toList_toArray,Array.toList_append,Option.toArray_some,Option.toArray_none,Bool.and_self,ty,noS,zdy,keyPl,hlp,d3,hs1,hlr,Int.toNat_natCast]
       repeat (refine And.intro (by omega) ?_)
       refine awpO_loopW ⟨fun m σ => ∃ (k : Nat) (M : KM),m = rs.length - k ∧ k ≤ rs.length ∧ G = ((es.drop (i + 1)).map Prod.fst).foldl cntB ((rs.drop k).foldl cntR M) ∧
           σ = ⟨[.agg [.w (.int .i64 B),.sg 6 (es.map bvp) f],.rf 4 2 0 0,.junk,.rf 5 0 0 0,.junk,.rf 6 6 0 0,.junk,.junk,.junk,.junk,.junk,.junk,.sg 6 (es.map bvp) f,.w (.int .i64 es.length),.w (.int .i64 i),.junk,.junk,.junk,.junk,.sg 6 (rs.map rv) f',.w (.int .i64 rs.length),.w (.int .i64 k),.junk,.junk,.junk,.junk,.junk,.junk,.junk,.junk,.junk,.junk,.junk,.junk,.junk,.junk,.junk,.junk,.junk,.junk,.junk,.junk,.junk,.junk,.junk,.junk,.junk],
             [(4,.g 2 [.agg [.w (.int .i64 B),.sg 6 (es.map bvp) f]]),(5,.o (.mp (kvA M))),(6,.g 6 [.agg [.w (.int .i64 b),.w (.int .i64 c),.w (.int .i64 p),.w (.int .i64 e),.w (.int .i64 s),.sg 6 (rs.map rv) f']])],7⟩,?_,?_⟩
       · refine ⟨_,_,zab [0,1,2,3,4,5,30] rfl rfl rfl ?_ ?_,0,M,rfl,by omega,by rw [List.drop_zero]; exact hinv,rfl⟩
         · simp only [ssT,zae,zaf,setSlot,gOf,AV.ren,renL,Blk.ren,Ax.look,Ax.put,reduceCtorEq,↓reduceIte,Nat.reduceEqDiff,Nat.reduceLT,Nat.reduceAdd,List.length_append,List.length_cons,List.length_nil,Option.some.injEq]; try simp
         · simp only [ssT,zae,zaf,setSlot,gOf,AV.ren,renL,Blk.ren,Ax.look,Ax.put,reduceCtorEq,↓reduceIte,Nat.reduceEqDiff,Nat.reduceLT,Nat.reduceAdd,List.length_append,List.length_cons,List.length_nil,Option.some.injEq]
       · rintro m σ ⟨k,M,rfl,hk,hinv,rfl⟩
         by_cases hkl : k < rs.length
         · have e2 : ((k : Int) + 1 + 9223372036854775808) % 18446744073709551616 - 9223372036854775808 = ((k + 1 : Nat) : Int) := by omega
           have d4 : decide ((k : Int) < rs.length) = true := decide_eq_true (by omega)
           have hs2 := zbe rv rs k hkl
           have hdk : rs.drop k = rs[k] :: rs.drop (k + 1) := List.drop_eq_getElem_cons hkl
           obtain ⟨R,hR⟩ : ∃ R,rs[k] = R := ⟨_,rfl⟩
           rw [hR] at hs2 hdk
           rw [hdk,List.foldl_cons] at hinv
           obtain ⟨d,t,kd,key,dd,val⟩ := R
           simp only [rv] at hs2
           cases kd with
           | false =>
             have hst : cntR M ⟨d,t,false,key,dd,val⟩ = M := rfl
             rw [hst] at hinv
             simp only [go_sem,zad,Nat.reduceAdd,Nat.reduceSub,Nat.reduceMul,Int.reduceToNat,reduceCtorEq,↓reduceIte,Int.reducePow,Nat.reducePow,Int.reduceMod,Nat.reduceLeDiff,Int.reduceLE,Int.reduceNe,Int.reduceEq,Nat.reduceEqDiff,Nat.reduceLT,Nat.reduceBEq,List.map_cons,List.map_nil,List.toList_toArray,Array.toList_append,Option.toArray_some,Option.toArray_none,Bool.and_self,ty,noS,zdy,keyPl,hlp,hlr,d4,hs2,e2,Int.toNat_natCast,Bool.not_false]
             repeat (refine And.intro (by omega) ?_)
             refine ⟨rs.length - (k + 1),_,by omega,zab [0,1,2,3,4,5,6] rfl rfl rfl ?_ ?_,k + 1,M,rfl,by omega,hinv,rfl⟩
             · simp only [ssT,zae,zaf,setSlot,gOf,AV.ren,renL,Blk.ren,Ax.look,Ax.put,reduceCtorEq,↓reduceIte,Nat.reduceEqDiff,Nat.reduceLT,Nat.reduceAdd,List.length_append,List.length_cons,List.length_nil,Option.some.injEq]
             · simp only [ssT,zae,zaf,setSlot,gOf,AV.ren,renL,Blk.ren,Ax.look,Ax.put,reduceCtorEq,↓reduceIte,Nat.reduceEqDiff,Nat.reduceLT,Nat.reduceAdd,List.length_append,List.length_cons,List.length_nil,Option.some.injEq]
           | true =>
             rcases hx : ixK key M 0 with _ | ⟨j,a⟩
             · have hw : ((0 : Int) + 1 + 9223372036854775808) % 18446744073709551616 - 9223372036854775808 = wr64 (((gtK M key).getD 0) + 1) := by unfold gtK; rw [hx]; rfl
               have hst : cntR M ⟨d,t,true,key,dd,val⟩ = ptK M key (wr64 (((gtK M key).getD 0) + 1)) := rfl
               rw [hst] at hinv
               obtain ⟨W,hW⟩ : ∃ W,wr64 (((gtK M key).getD 0) + 1) = W := ⟨_,rfl⟩
               rw [hW] at hw hinv
               have hpk := snoc_kvA W hx
               simp only [go_sem,zad,Nat.reduceAdd,Nat.reduceSub,Nat.reduceMul,Int.reduceToNat,reduceCtorEq,↓reduceIte,Int.reducePow,Nat.reducePow,Int.reduceMod,Nat.reduceLeDiff,Int.reduceLE,Int.reduceNe,Int.reduceEq,Nat.reduceEqDiff,Nat.reduceLT,Nat.reduceBEq,List.map_cons,List.map_nil,List.toList_toArray,Array.toList_append,Option.toArray_some,Option.toArray_none,Bool.and_self,ty,noS,zdy,keyPl,hlp,hlr,d4,hs2,e2,find_kvA,hx,mpI_none,asv,hw,hpk,Int.toNat_natCast,Bool.not_true,Bool.not_false]
               repeat (refine And.intro (by omega) ?_)
               refine ⟨rs.length - (k + 1),_,by omega,zab [0,1,2,3,4,5,6] rfl rfl rfl ?_ ?_,k + 1,_,rfl,by omega,hinv,rfl⟩
               · simp only [ssT,zae,zaf,setSlot,gOf,AV.ren,renL,Blk.ren,Ax.look,Ax.put,reduceCtorEq,↓reduceIte,Nat.reduceEqDiff,Nat.reduceLT,Nat.reduceAdd,List.length_append,List.length_cons,List.length_nil,Option.some.injEq]
               · simp only [ssT,zae,zaf,setSlot,gOf,AV.ren,renL,Blk.ren,Ax.look,Ax.put,reduceCtorEq,↓reduceIte,Nat.reduceEqDiff,Nat.reduceLT,Nat.reduceAdd,List.length_append,List.length_cons,List.length_nil,Option.some.injEq]
             · have hw : (a + 1 + 9223372036854775808) % 18446744073709551616 - 9223372036854775808 = wr64 (((gtK M key).getD 0) + 1) := by unfold gtK; rw [hx]; rfl
               have hst : cntR M ⟨d,t,true,key,dd,val⟩ = ptK M key (wr64 (((gtK M key).getD 0) + 1)) := rfl
               rw [hst] at hinv
               obtain ⟨W,hW⟩ : ∃ W,wr64 (((gtK M key).getD 0) + 1) = W := ⟨_,rfl⟩
               rw [hW] at hw hinv
               have hpk := set_kvA W hx
               simp only [go_sem,zad,Nat.reduceAdd,Nat.reduceSub,Nat.reduceMul,Int.reduceToNat,reduceCtorEq,↓reduceIte,Int.reducePow,Nat.reducePow,Int.reduceMod,Nat.reduceLeDiff,Int.reduceLE,Int.reduceNe,Int.reduceEq,Nat.reduceEqDiff,Nat.reduceLT,Nat.reduceBEq,List.map_cons,List.map_nil,List.toList_toArray,Array.toList_append,Option.toArray_some,Option.toArray_none,Bool.and_self,ty,noS,zdy,keyPl,hlp,hlr,d4,hs2,e2,find_kvA,hx,mpI_some,hw,hpk,Int.toNat_natCast,Bool.not_true,Bool.not_false]
               repeat (refine And.intro (by omega) ?_)
               refine ⟨rs.length - (k + 1),_,by omega,zab [0,1,2,3,4,5,6] rfl rfl rfl ?_ ?_,k + 1,_,rfl,by omega,hinv,rfl⟩
               · simp only [ssT,zae,zaf,setSlot,gOf,AV.ren,renL,Blk.ren,Ax.look,Ax.put,reduceCtorEq,↓reduceIte,Nat.reduceEqDiff,Nat.reduceLT,Nat.reduceAdd,List.length_append,List.length_cons,List.length_nil,Option.some.injEq]
               · simp only [ssT,zae,zaf,setSlot,gOf,AV.ren,renL,Blk.ren,Ax.look,Ax.put,reduceCtorEq,↓reduceIte,Nat.reduceEqDiff,Nat.reduceLT,Nat.reduceAdd,List.length_append,List.length_cons,List.length_nil,Option.some.injEq]
         · have d4 : decide ((k : Int) < rs.length) = false := decide_eq_false (by omega)
           have hdk : rs.drop k = [] := List.drop_eq_nil_of_le (by omega)
           rw [hdk,List.foldl_nil] at hinv
           simp only [go_sem,zad,Nat.reduceAdd,Nat.reduceSub,Nat.reduceMul,Int.reduceToNat,reduceCtorEq,↓reduceIte,Int.reducePow,Nat.reducePow,Int.reduceMod,Nat.reduceLeDiff,Int.reduceLE,Int.reduceNe,Int.reduceEq,Nat.reduceEqDiff,Nat.reduceLT,Nat.reduceBEq,List.map_cons,List.map_nil,List.toList_toArray,Array.toList_append,Option.toArray_some,Option.toArray_none,Bool.and_self,ty,noS,zdy,keyPl,hlp,hlr,d4,e1]
           repeat (refine ⟨_,Weak.refl _,?_⟩; simp only [go_sem,zad,Nat.reduceAdd,Nat.reduceSub,Nat.reduceMul,Int.reduceToNat,reduceCtorEq,↓reduceIte,Int.reducePow,Nat.reducePow,Int.reduceMod,Nat.reduceLeDiff,Int.reduceLE,Int.reduceNe,Int.reduceEq,Nat.reduceEqDiff,Nat.reduceLT,Nat.reduceBEq,List.map_cons,List.map_nil,List.toList_toArray,Array.toList_append,Option.toArray_some,Option.toArray_none,Bool.and_self,ty,noS,zdy,keyPl,hlp,hlr,d4,e1])
           refine ⟨es.length - (i + 1),_,by omega,zab [0,1,2,3,4,5] rfl rfl rfl ?_ ?_,i + 1,M,rfl,by omega,hinv,rfl⟩
           · simp only [ssT,zae,zaf,setSlot,gOf,AV.ren,renL,Blk.ren,Ax.look,Ax.put,reduceCtorEq,↓reduceIte,Nat.reduceEqDiff,Nat.reduceLT,Nat.reduceAdd,List.length_append,List.length_cons,List.length_nil,Option.some.injEq]
           · simp only [ssT,zae,zaf,setSlot,gOf,AV.ren,renL,Blk.ren,Ax.look,Ax.put,reduceCtorEq,↓reduceIte,Nat.reduceEqDiff,Nat.reduceLT,Nat.reduceAdd,List.length_append,List.length_cons,List.length_nil,Option.some.injEq]
     · have d3 : decide ((i : Int) < es.length) = false := decide_eq_false (by omega)
       have hdr : es.drop i = [] := List.drop_eq_nil_of_le (by omega)
       rw [hdr] at hinv
       have hv2 : G = M := hinv
       subst hv2
       clear hinv hdr
       simp only [go_sem,zad,Nat.reduceAdd,Nat.reduceSub,Nat.reduceMul,Int.reduceToNat,reduceCtorEq,↓reduceIte,Int.reducePow,Nat.reducePow,Int.reduceMod,Nat.reduceLeDiff,Int.reduceLE,Int.reduceNe,Int.reduceEq,Nat.reduceEqDiff,Nat.reduceLT,Nat.reduceBEq,List.map_cons,List.map_nil,List.toList_toArray,Array.toList_append,Option.toArray_some,Option.toArray_none,Bool.and_self,ty,noS,zdy,keyPl,hlp,d3]
       refine ⟨_,Weak.refl _,?_⟩
       simp only [go_sem,zad,Nat.reduceAdd,Nat.reduceSub,Nat.reduceMul,Int.reduceToNat,reduceCtorEq,↓reduceIte,Int.reducePow,Nat.reducePow,Int.reduceMod,Nat.reduceLeDiff,Int.reduceLE,Int.reduceNe,Int.reduceEq,Nat.reduceEqDiff,Nat.reduceLT,Nat.reduceBEq,List.map_cons,List.map_nil,List.toList_toArray,Array.toList_append,Option.toArray_some,Option.toArray_none,Bool.and_self,ty,noS,zdy,keyPl,hlp]
       refine awpO_loopW ⟨fun m σ => ∃ (M : KM) (now : Option (AV × AV)) (vs : List (List UInt8)),m = M.length ∧ (ksM M ++ vs).Perm (ksM G) ∧
           ((vs = [] ∧ σ = ⟨[.agg [.w (.int .i64 B),.sg 6 (es.map bvp) f],.rf 4 2 0 0,.junk,.junk,.junk,.junk,.junk,.junk,.sg 1 [] true,.junk,.junk,.junk,.junk,.junk,.junk,.junk,.junk,.junk,.junk,.junk,.junk,.junk,.junk,.junk,.junk,.junk,.junk,.junk,.junk,.junk,.junk,.junk,.junk,.junk,.junk,.rf 5 1 0 0,.junk,.junk,.junk,.junk,.junk,.junk,.junk,.junk,.junk,.junk,.junk],[(4,.g 2 [.agg [.w (.int .i64 B),.sg 6 (es.map bvp) f]]),(5,.o (.mi (kvA M) now))],6⟩) ∨
            (0 < vs.length ∧ σ = ⟨[.agg [.w (.int .i64 B),.sg 6 (es.map bvp) f],.rf 4 2 0 0,.junk,.junk,.junk,.junk,.junk,.junk,.ms 6 1 0 vs.length,.junk,.junk,.junk,.junk,.junk,.junk,.junk,.junk,.junk,.junk,.junk,.junk,.junk,.junk,.junk,.junk,.junk,.junk,.junk,.junk,.junk,.junk,.junk,.junk,.junk,.junk,.rf 5 1 0 0,.junk,.junk,.junk,.junk,.junk,.junk,.junk,.junk,.junk,.junk,.junk],[(4,.g 2 [.agg [.w (.int .i64 B),.sg 6 (es.map bvp) f]]),(5,.o (.mi (kvA M) now)),(6,.g 1 (vs.map .str))],7⟩)),?_,?_⟩
       · refine ⟨_,_,zab [0,1,2,3,4,30] rfl rfl rfl ?_ ?_,G,none,[],rfl,by simp,.inl ⟨rfl,rfl⟩⟩
         · simp only [ssT,zae,zaf,setSlot,gOf,AV.ren,renL,Blk.ren,Ax.look,Ax.put,reduceCtorEq,↓reduceIte,Nat.reduceEqDiff,Nat.reduceLT,Nat.reduceAdd,List.length_append,List.length_cons,List.length_nil,Option.some.injEq]; try simp
         · simp only [ssT,zae,zaf,setSlot,gOf,AV.ren,renL,Blk.ren,Ax.look,Ax.put,reduceCtorEq,↓reduceIte,Nat.reduceEqDiff,Nat.reduceLT,Nat.reduceAdd,List.length_append,List.length_cons,List.length_nil,Option.some.injEq]; try rfl
       · have ht : top = 4294967296 := rfl
         have hstep : ∀ (M : KM) (vs : List (List UInt8)) (j : Nat) (hj : j < M.length),(ksM M ++ vs).Perm (ksM G) → (ksM (M.eraseIdx j) ++ (vs ++ [M[j].1])).Perm (ksM G) ∧ (M.eraseIdx j).length < M.length ∧ vs.length < (ksM G).length := by
           intro M vs j hj hpm
           have h1 := erase_perm (ksM M) j (by unfold ksM; simpa using hj)
           have h2 : (ksM M)[j]'(by unfold ksM; simpa using hj) = M[j].1 := by unfold ksM; simp
           have h3 : (ksM M).eraseIdx j = ksM (M.eraseIdx j) := by unfold ksM; rw [map_eraseN]
           rw [h2,h3] at h1
           refine ⟨?_,by rw [List.length_eraseIdx]; rw [if_pos hj]; omega,?_⟩
           · have h4 : (ksM (M.eraseIdx j) ++ (vs ++ [M[j].1])).Perm (M[j].1 :: (ksM (M.eraseIdx j) ++ vs)) := by
               rw [← List.append_assoc]; exact List.perm_append_singleton _ _
             exact h4.trans ((h1.symm.append_right vs).trans hpm)
           · have := hpm.length_eq
             rw [List.length_append] at this
             have hl : (ksM M).length = M.length := by unfold ksM; simp
             omega
         have hc0 : coe ty 32 (.sg 1 [] true) = .sg 1 [] true := rfl
         rintro m σ ⟨M,now,vs,rfl,hpm,⟨rfl,rfl⟩ | ⟨hv0,rfl⟩⟩
         · simp only [go_sem,zad,Nat.reduceAdd,Nat.reduceSub,Nat.reduceMul,Int.reduceToNat,reduceCtorEq,↓reduceIte,Int.reducePow,Nat.reducePow,Int.reduceMod,Nat.reduceLeDiff,Int.reduceLE,Int.reduceNe,Int.reduceEq,Nat.reduceEqDiff,Nat.reduceLT,Nat.reduceBEq,List.map_cons,List.map_nil,List.toList_toArray,Array.toList_append,Option.toArray_some,Option.toArray_none,Bool.and_self,ty,noS,zdy,keyPl]
           refine ⟨fun he0 => ?_,fun j hj => ?_⟩
           · have hM : M = [] := by cases M with
               | nil => rfl
               | cons p r => cases he0
             have hG0 : ksM G = [] := by subst hM; exact List.eq_nil_of_length_eq_zero (by have := hpm.length_eq; simpa [ksM] using this.symm)
             rw [hG0]
             refine ⟨_,Weak.refl _,?_⟩
             simp only [go_sem,zad,Nat.reduceAdd,Nat.reduceSub,Nat.reduceMul,Int.reduceToNat,reduceCtorEq,↓reduceIte,Int.reducePow,Nat.reducePow,Int.reduceMod,Nat.reduceLeDiff,Int.reduceLE,Int.reduceNe,Int.reduceEq,Nat.reduceEqDiff,Nat.reduceLT,Nat.reduceBEq,List.map_cons,List.map_nil,List.toList_toArray,Array.toList_append,Option.toArray_some,Option.toArray_none,Bool.and_self,ty,noS,zdy,keyPl,sortSS,hc0]
             have hs0 : zeq [] = [] := List.eq_nil_of_length_eq_zero (by rw [zcu]; rfl)
             refine ⟨_,zbl 2 (.sg 1 [] false) (fun w loc v h => sg_falseJ h),?_⟩
             simp only [go_sem,zad,Nat.reduceAdd,Nat.reduceSub,Nat.reduceMul,Int.reduceToNat,reduceCtorEq,↓reduceIte,Int.reducePow,Nat.reducePow,Int.reduceMod,Nat.reduceLeDiff,Int.reduceLE,Int.reduceNe,Int.reduceEq,Nat.reduceEqDiff,Nat.reduceLT,Nat.reduceBEq,List.map_cons,List.map_nil,List.toList_toArray,Array.toList_append,Option.toArray_some,Option.toArray_none,Bool.and_self,ty,noS,zdy,keyPl,hs0,setSlot,slot,List.map_nil,EndsX]
           · have hj' : j < M.length := by rw [kvA_len] at hj; exact hj
             have hg := kvA_get M j hj hj'
             have hE := kvA_erase M j
             obtain ⟨s1,s2,s3⟩ := hstep M [] j hj' hpm
             simp only [hg,hE,ht]
             refine ⟨by simp,by decide,?_⟩
             refine ⟨(M.eraseIdx j).length,_,s2,zab [0,1,2,3,4,5,70] rfl rfl rfl ?_ ?_,M.eraseIdx j,some (.str M[j].1,.w (.int .i64 M[j].2)),[M[j].1],rfl,s1,.inr ⟨by simp,rfl⟩⟩
             · simp only [ssT,zae,zaf,setSlot,gOf,AV.ren,renL,Blk.ren,Ax.look,Ax.put,reduceCtorEq,↓reduceIte,Nat.reduceEqDiff,Nat.reduceLT,Nat.reduceAdd,List.length_append,List.length_cons,List.length_nil,Option.some.injEq]; try simp
             · simp only [ssT,zae,zaf,setSlot,gOf,AV.ren,renL,Blk.ren,Ax.look,Ax.put,reduceCtorEq,↓reduceIte,Nat.reduceEqDiff,Nat.reduceLT,Nat.reduceAdd,List.length_append,List.length_cons,List.length_nil,Option.some.injEq]; try simp
               rfl
         · simp only [go_sem,zad,Nat.reduceAdd,Nat.reduceSub,Nat.reduceMul,Int.reduceToNat,reduceCtorEq,↓reduceIte,Int.reducePow,Nat.reducePow,Int.reduceMod,Nat.reduceLeDiff,Int.reduceLE,Int.reduceNe,Int.reduceEq,Nat.reduceEqDiff,Nat.reduceLT,Nat.reduceBEq,List.map_cons,List.map_nil,List.toList_toArray,Array.toList_append,Option.toArray_some,Option.toArray_none,Bool.and_self,ty,noS,zdy,keyPl]
           have dv : decide (0 < vs.length) = true := decide_eq_true hv0
           have hlv : (vs.map AV.str).length = vs.length := by simp
           have hxv : ∃ ss : List (List UInt8),vs.map AV.str = ss.map AV.str := ⟨vs,rfl⟩
           refine ⟨fun he0 => ?_,fun j hj => ?_⟩
           · have hM : M = [] := by cases M with
               | nil => rfl
               | cons p r => cases he0
             have hpv : vs.Perm (ksM G) := by subst hM; simpa [ksM] using hpm
             have hsv : zeq vs = zeq (ksM G) := sortL_perm hpv
             have hlv2 : vs.length < 4611686018427387904 := by have := hpv.length_eq; omega
             refine ⟨_,Weak.refl _,?_⟩
             simp only [go_sem,zad,Nat.reduceAdd,Nat.reduceSub,Nat.reduceMul,Int.reduceToNat,reduceCtorEq,↓reduceIte,Int.reducePow,Nat.reducePow,Int.reduceMod,Nat.reduceLeDiff,Int.reduceLE,Int.reduceNe,Int.reduceEq,Nat.reduceEqDiff,Nat.reduceLT,Nat.reduceBEq,List.map_cons,List.map_nil,List.toList_toArray,Array.toList_append,Option.toArray_some,Option.toArray_none,Bool.and_self,ty,noS,zdy,keyPl,sortSS,hc0,hv0,dv,hlv,hxv,hlv2,map_strB,hsv,zca]
             exact g1_endsJ 2 rfl rfl (zca _) (by rw [List.length_map,zcu]; exact hpv.length_eq) rfl
           · have hj' : j < M.length := by rw [kvA_len] at hj; exact hj
             have hg := kvA_get M j hj hj'
             have hE := kvA_erase M j
             obtain ⟨s1,s2,s3⟩ := hstep M vs j hj' hpm
             have hlap : (vs ++ [M[j].1]).length = vs.length + 1 := by simp
             have hmap : (vs ++ [M[j].1]).map AV.str = vs.map AV.str ++ [AV.str M[j].1] := by simp
             have hcl : closedL (vs.map AV.str ++ [AV.str M[j].1]) = true := by rw [← hmap]; exact zca _
             simp only [hg,hE,ht,hlv]
             refine ⟨⟨by simp,trivial⟩,⟨trivial,by omega⟩,?_⟩
             refine ⟨(M.eraseIdx j).length,_,s2,zab [0,1,2,3,4,5,71] rfl rfl rfl ?_ ?_,M.eraseIdx j,some (.str M[j].1,.w (.int .i64 M[j].2)),vs ++ [M[j].1],rfl,s1,.inr ⟨by simp,rfl⟩⟩
             · simp only [ssT,zae,zaf,setSlot,gOf,AV.ren,renL,Blk.ren,Ax.look,Ax.put,reduceCtorEq,↓reduceIte,Nat.reduceEqDiff,Nat.reduceLT,Nat.reduceAdd,List.length_append,List.length_cons,List.length_nil,Option.some.injEq,hlap]
             · simp only [ssT,zae,zaf,setSlot,gOf,AV.ren,renL,Blk.ren,Ax.look,Ax.put,reduceCtorEq,↓reduceIte,Nat.reduceEqDiff,Nat.reduceLT,Nat.reduceAdd,List.length_append,List.length_cons,List.length_nil,Option.some.injEq,hmap]
               rw [zcr _ _ hcl]
 · exact hp.elim
end
end Go.Proofs.Ytlcijldkdpmknaa
namespace Go.Proofs.Ytlcijldkdpmknaa
open Ax
def naT (k x : List UInt8) : Bool := !Op.bytesLess x k
def plT (k : List UInt8) (l : List (List UInt8)) : Nat := l.findIdx (naT k)
def rowT (k : List UInt8) (l : List (List UInt8)) : List UInt8 := l.getD (plT k l) []
def thT (k : List UInt8) (l : List (List UInt8)) : Bool := decide (plT k l < l.length) && decide (rowT k l = k)
def insT (k : List UInt8) (l : List (List UInt8)) : List (List UInt8) := l.take (plT k l) ++ k :: l.drop (plT k l)
def dkR (K : List (List UInt8)) (r : Rec) : List (List UInt8) := if r.k = true then (if thT r.key K = true then K else insT r.key K) else K
def dkB (K : List (List UInt8)) (x : Bat) : List (List UInt8) := x.rs.foldl dkR K
def dkG (l : List Bat) : List (List UInt8) := l.foldl dkB []
theorem findT_split (p : List UInt8 → Bool) (l : List (List UInt8)) (i : Nat) (hi : i < l.length) (hno : ∀ x ∈ l.take i,p x = false) (hp : p l[i] = true) : l.findIdx p = i := by
 have h : l.findIdx p ≤ i := by
   rcases Nat.lt_or_ge i (l.findIdx p) with h | h
   · have := List.not_of_lt_findIdx h
     rw [hp] at this; cases this
   · exact h
 rcases Nat.lt_or_ge (l.findIdx p) i with h1 | h1
 · have h2 : p l[l.findIdx p] = true := List.findIdx_getElem
   have h3 := hno l[l.findIdx p] (List.mem_take_iff_getElem.2 ⟨_,by omega,rfl⟩)
   rw [h2] at h3; cases h3
 · omega
theorem findT_none (p : List UInt8 → Bool) (l : List (List UInt8)) (hno : ∀ x ∈ l,p x = false) : l.findIdx p = l.length := by
 have h := List.findIdx_le_length (p := p) (xs := l)
 rcases Nat.lt_or_ge (l.findIdx p) l.length with h1 | h1
 · have h2 : p l[l.findIdx p] = true := List.findIdx_getElem
   rw [hno _ (List.getElem_mem h1)] at h2; cases h2
 · omega
theorem dkR_len (K : List (List UInt8)) (r : Rec) : (dkR K r).length ≤ K.length + 1 := by
 unfold dkR
 split
 · split
   · omega
   · unfold insT
     simp only [List.length_append,List.length_cons,List.length_take,List.length_drop]; omega
 · omega
def rskeyS : zam
 | [.agg [.w (.int .i64 B),.sg 6 xs f]],[] => ⟨xs.length ≤ 1000000 ∧ isB4 xs,.sg 1 ((dkG (xs.map ubat)).map .str) false,[]⟩
 | _,_ => zay
def zbx : Plan := fun id => match id with
 | 10 => some []
 | 12 => some []
 | 14 => some [(4,5),(4,6),(4,7),(4,11),(8,11)]
 | _ => none
section
set_option maxRecDepth 100000
set_option maxHeartbeats 16000000 in
theorem rskey_sound : zaq Try.prog 10 rskeyS := by
 refine fn_soundF (S := noS) (T := ty) (pl := zbx) zat ty_ok zbo Try.func10 (c := Try.f10.body.getD .skip) (by kernel_rfl) (by kernel_rfl) (fun xs pins hp _ => ?_)
 unfold rskeyS at hp ⊢
 split at hp
 · rename_i B xs f _
   obtain ⟨hL,es,rfl,he⟩ := hp
   rw [List.length_map] at hL
   refine ⟨by simp,?_⟩
   have hlp : (es.map bvp).length = es.length := by simp
   rw [zaz]
   obtain ⟨G,hG⟩ : ∃ G,dkG (es.map Prod.fst) = G := ⟨_,rfl⟩
   rw [hG]
   have ht : top = 4294967296 := rfl
   unfold Try.f10
   simp only [go_sem,zag,Nat.reduceAdd,Nat.reduceSub,Nat.reduceMul,Int.reduceToNat,reduceCtorEq,↓reduceIte,Int.reducePow,Nat.reducePow,Int.reduceMod,Nat.reduceLeDiff,Int.reduceLE,Int.reduceNe,Int.reduceEq,Nat.reduceEqDiff,Nat.reduceLT,Nat.reduceBEq,List.map_cons,List.map_nil,List.toList_toArray,Array.toList_append,Option.toArray_some,Option.toArray_none,Bool.and_self,ty,noS,zbx,hlp]
   refine awpF_loopW ⟨fun m σ => ∃ (i : Nat) (K : List (List UInt8)),m = es.length - i ∧ i ≤ es.length ∧ K.length ≤ 40 * i ∧ G = ((es.drop i).map Prod.fst).foldl dkB K ∧
       σ = ⟨[.agg [.w (.int .i64 B),.sg 6 (es.map bvp) f],.rf 4 2 0 0,.junk,.sg 1 (K.map .str) false,.w (.int .i64 i),.junk,.junk,.junk,.junk,.junk,.junk,.junk,.junk,.junk,.junk,.junk,.junk,.junk,.junk,.junk,.junk,.junk,.junk,.junk,.junk,.junk,.junk,.junk,.junk,.junk,.junk,.junk,.junk,.junk,.junk,.junk,.junk,.junk,.junk,.junk,.junk,.junk,.junk,.junk,.junk,.junk,.junk,.junk,.junk,.junk,.junk,.junk,.junk,.junk,.junk,.junk,.junk,.junk,.junk,.junk,.junk,.junk,.junk,.junk,.junk,.junk,.junk,.junk,.junk,.junk,.junk,.junk,.junk,.junk,.junk,.junk,.junk,.junk,.junk,.junk,.junk,.junk,.junk],[(4,.g 2 [.agg [.w (.int .i64 B),.sg 6 (es.map bvp) f]])],5⟩,?_,?_⟩
   · refine ⟨_,_,(zbl 3 (.sg 1 [] false) (fun w loc v h => by exact sg_falseJ h)).trans (zab [0,1,2,3,4] rfl rfl rfl ?_ ?_),0,[],rfl,by omega,by simp,by rw [List.drop_zero,← hG]; rfl,rfl⟩
     · simp only [ssT,zae,zaf,setSlot,gOf,AV.ren,renL,Blk.ren,Ax.look,Ax.put,reduceCtorEq,↓reduceIte,Nat.reduceEqDiff,Nat.reduceLT,Nat.reduceAdd,List.length_append,List.length_cons,List.length_nil,Option.some.injEq]; try simp
     · simp only [ssT,zae,zaf,setSlot,gOf,AV.ren,renL,Blk.ren,Ax.look,Ax.put,reduceCtorEq,↓reduceIte,Nat.reduceEqDiff,Nat.reduceLT,Nat.reduceAdd,List.length_append,List.length_cons,List.length_nil,Option.some.injEq]; try simp
   · rintro m σ ⟨i,K,rfl,hi,hKl,hinv,rfl⟩
     have e1 : ((i : Int) + 1 + 9223372036854775808) % 18446744073709551616 - 9223372036854775808 = ((i + 1 : Nat) : Int) := by omega
     by_cases hil : i < es.length
     · have d3 : decide ((i : Int) < es.length) = true := decide_eq_true (by omega)
       have hs1 := zbb es i hil
       have m1 := he es[i] (List.getElem_mem hil)
       have hdr : es.drop i = es[i] :: es.drop (i + 1) := List.drop_eq_getElem_cons hil
       obtain ⟨P,hP⟩ : ∃ P,es[i] = P := ⟨_,rfl⟩
       rw [hP] at hs1 m1 hdr
       rw [hdr] at hinv
       obtain ⟨⟨b,c,p,e,s,rs⟩,f'⟩ := P
       have hs1 : slot (es.map bvp) i = .agg [.w (.int .i64 b),.w (.int .i64 c),.w (.int .i64 p),.w (.int .i64 e),.w (.int .i64 s),.sg 6 (rs.map rv) f'] := hs1
       simp only at m1
       have hlr : (rs.map rv).length = rs.length := by simp
       have hinv : G = ((es.drop (i + 1)).map Prod.fst).foldl dkB (rs.foldl dkR K) := hinv
       simp only [go_sem,zag,Nat.reduceAdd,Nat.reduceSub,Nat.reduceMul,Int.reduceToNat,reduceCtorEq,↓reduceIte,Int.reducePow,Nat.reducePow,Int.reduceMod,Nat.reduceLeDiff,Int.reduceLE,Int.reduceNe,Int.reduceEq,Nat.reduceEqDiff,Nat.reduceLT,Nat.reduceBEq,List.map_cons,List.map_nil,List.toList_toArray,Array.toList_append,Option.toArray_some,Option.toArray_none,Bool.and_self,ty,noS,zbx,hlp,d3]
       refine awpF_loopW ⟨fun m σ => ∃ (k : Nat) (K : List (List UInt8)),m = rs.length - k ∧ k ≤ rs.length ∧ K.length ≤ 40 * i + k ∧ G = ((es.drop (i + 1)).map Prod.fst).foldl dkB ((rs.drop k).foldl dkR K) ∧
           σ = ⟨[.agg [.w (.int .i64 B),.sg 6 (es.map bvp) f],.rf 4 2 0 0,.junk,.sg 1 (K.map .str) false,.w (.int .i64 i),.w (.int .i64 k),.junk,.junk,.junk,.junk,.junk,.junk,.junk,.junk,.junk,.junk,.junk,.junk,.junk,.junk,.junk,.junk,.junk,.junk,.junk,.junk,.junk,.junk,.junk,.junk,.junk,.junk,.junk,.junk,.junk,.junk,.junk,.junk,.junk,.junk,.junk,.junk,.junk,.junk,.junk,.junk,.junk,.junk,.junk,.junk,.junk,.junk,.junk,.junk,.junk,.junk,.junk,.junk,.junk,.junk,.junk,.junk,.junk,.junk,.junk,.junk,.junk,.junk,.junk,.junk,.junk,.junk,.junk,.junk,.junk,.junk,.junk,.junk,.junk,.junk,.junk,.junk,.junk],[(4,.g 2 [.agg [.w (.int .i64 B),.sg 6 (es.map bvp) f]])],5⟩,?_,?_⟩
       · refine ⟨_,_,zab [0,1,2,3,4] rfl rfl rfl ?_ ?_,0,K,rfl,by omega,by omega,by rw [List.drop_zero]; exact hinv,rfl⟩
         · simp only [ssT,zae,zaf,setSlot,gOf,AV.ren,renL,Blk.ren,Ax.look,Ax.put,reduceCtorEq,↓reduceIte,Nat.reduceEqDiff,Nat.reduceLT,Nat.reduceAdd,List.length_append,List.length_cons,List.length_nil,Option.some.injEq]; try simp
         · simp only [ssT,zae,zaf,setSlot,gOf,AV.ren,renL,Blk.ren,Ax.look,Ax.put,reduceCtorEq,↓reduceIte,Nat.reduceEqDiff,Nat.reduceLT,Nat.reduceAdd,List.length_append,List.length_cons,List.length_nil,Option.some.injEq]
       · clear hKl hinv
         rintro m σ ⟨k,K,rfl,hk,hKl,hinv,rfl⟩
         by_cases hkl : k < rs.length
         · have e2 : ((k : Int) + 1 + 9223372036854775808) % 18446744073709551616 - 9223372036854775808 = ((k + 1 : Nat) : Int) := by omega
           have d4 : decide ((k : Int) < rs.length) = true := decide_eq_true (by omega)
           have hs2 := zbe rv rs k hkl
           have hdk : rs.drop k = rs[k] :: rs.drop (k + 1) := List.drop_eq_getElem_cons hkl
           obtain ⟨R,hR⟩ : ∃ R,rs[k] = R := ⟨_,rfl⟩
           rw [hR] at hs2 hdk
           rw [hdk,List.foldl_cons] at hinv
           obtain ⟨d,t,kd,key,dd,val⟩ := R
           simp only [rv] at hs2
           have hKm : (K.map AV.str).length = K.length := by simp
           have hrl := dkR_len K ⟨d,t,kd,key,dd,val⟩
           simp only [go_sem,zag,Nat.reduceAdd,Nat.reduceSub,Nat.reduceMul,Int.reduceToNat,reduceCtorEq,↓reduceIte,Int.reducePow,Nat.reducePow,Int.reduceMod,Nat.reduceLeDiff,Int.reduceLE,Int.reduceNe,Int.reduceEq,Nat.reduceEqDiff,Nat.reduceLT,Nat.reduceBEq,List.map_cons,List.map_nil,List.toList_toArray,Array.toList_append,Option.toArray_some,Option.toArray_none,Bool.and_self,ty,noS,zbx,hlp,hlr,d3,d4,hs1,hs2,Int.toNat_natCast]
           repeat (refine And.intro (by omega) ?_)
           refine awpF_loopW ⟨fun m σ => ∃ (n : Nat),m = K.length - n ∧ n ≤ K.length ∧ (∀ x ∈ K.take n,naT key x = false) ∧
               σ = ⟨[.agg [.w (.int .i64 B),.sg 6 (es.map bvp) f],.rf 4 2 0 0,.junk,.sg 1 (K.map .str) false,.w (.int .i64 i),.w (.int .i64 k),.rf 5 6 0 0,.w (.int .i64 n),.junk,.junk,.junk,.junk,.junk,.junk,.junk,.junk,.junk,.junk,.junk,.junk,.junk,.junk,.junk,.junk,.junk,.junk,.junk,.junk,.junk,.junk,.junk,.junk,.junk,.junk,.junk,.junk,.junk,.junk,.junk,.junk,.junk,.junk,.junk,.junk,.junk,.junk,.junk,.junk,.junk,.junk,.junk,.junk,.junk,.junk,.junk,.junk,.junk,.junk,.junk,.junk,.junk,.junk,.junk,.junk,.junk,.junk,.junk,.junk,.junk,.junk,.junk,.junk,.junk,.junk,.junk,.junk,.junk,.junk,.junk,.junk,.junk,.junk,.junk],
                 [(4,.g 2 [.agg [.w (.int .i64 B),.sg 6 (es.map bvp) f]]),(5,.g 6 [.agg [.w (.int .i64 d),.w (.int .i64 t),.w (.bool kd),.str key,.w (.bool dd),.str val]])],6⟩,?_,?_⟩
           · refine ⟨_,_,zab [0,1,2,3,4,149] rfl rfl rfl ?_ ?_,0,rfl,by omega,by simp,rfl⟩
             · simp only [ssT,zae,zaf,setSlot,gOf,AV.ren,renL,Blk.ren,Ax.look,Ax.put,reduceCtorEq,↓reduceIte,Nat.reduceEqDiff,Nat.reduceLT,Nat.reduceAdd,List.length_append,List.length_cons,List.length_nil,Option.some.injEq]; try simp
             · simp only [ssT,zae,zaf,setSlot,gOf,AV.ren,renL,Blk.ren,Ax.look,Ax.put,reduceCtorEq,↓reduceIte,Nat.reduceEqDiff,Nat.reduceLT,Nat.reduceAdd,List.length_append,List.length_cons,List.length_nil,Option.some.injEq]
           · rintro m σ ⟨n,rfl,hn,hno,rfl⟩
             have e3 : ((n : Int) + 1 + 9223372036854775808) % 18446744073709551616 - 9223372036854775808 = ((n + 1 : Nat) : Int) := by omega
             have hl1 : (K.take n).length = n := by rw [List.length_take]; omega
             have hl2 : (K.drop n).length = K.length - n := List.length_drop
             have htd : List.take (K.length - n) ((K.drop n).map AV.str) = (K.drop n).map AV.str := List.take_of_length_le (by rw [List.length_map,hl2]; omega)
             have htk1 : ∀ n,List.take n (K.map AV.str) = (K.take n).map AV.str := fun n => (List.map_take (f := AV.str) (l := K) (i := n)).symm
             have hdr1 : ∀ n,List.drop n (K.map AV.str) = (K.drop n).map AV.str := fun n => (List.map_drop (f := AV.str) (l := K) (i := n)).symm
             have hap1 : (K.take n).map AV.str ++ [AV.str key] = (K.take n ++ [key]).map AV.str := by simp
             have hap2 : (K.take n ++ [key]).map AV.str ++ (K.drop n).map AV.str = (K.take n ++ key :: K.drop n).map AV.str := by simp
             have hl4 : (K.take n ++ [key]).length = n + 1 := by simp; omega
             have hl5 : (K.take n ++ key :: K.drop n).length = K.length + 1 := by simp; omega
             -- what comes behind the third loop
             by_cases hnl : n < K.length
             · have d5 : decide ((n : Int) < K.length) = true := decide_eq_true (by omega)
               have hs3 := zbe AV.str K n hnl
               obtain ⟨X,hX⟩ : ∃ X,K[n] = X := ⟨_,rfl⟩
               rw [hX] at hs3
               cases hv : Op.bytesLess X key with
               | true =>
                 simp only [go_sem,zag,Nat.reduceAdd,Nat.reduceSub,Nat.reduceMul,Int.reduceToNat,reduceCtorEq,↓reduceIte,Int.reducePow,Nat.reducePow,Int.reduceMod,Nat.reduceLeDiff,Int.reduceLE,Int.reduceNe,Int.reduceEq,Nat.reduceEqDiff,Nat.reduceLT,Nat.reduceBEq,List.map_cons,List.map_nil,List.toList_toArray,Array.toList_append,Option.toArray_some,Option.toArray_none,Bool.and_self,ty,noS,zbx,hKm,d5,hs3,hv,e3,Int.toNat_natCast]
                 repeat (refine And.intro (by omega) ?_)
                 refine ⟨K.length - (n + 1),_,by omega,zab [0,1,2,3,4,5] rfl rfl rfl ?_ ?_,n + 1,rfl,by omega,?_,rfl⟩
                 · simp only [ssT,zae,zaf,setSlot,gOf,AV.ren,renL,Blk.ren,Ax.look,Ax.put,reduceCtorEq,↓reduceIte,Nat.reduceEqDiff,Nat.reduceLT,Nat.reduceAdd,List.length_append,List.length_cons,List.length_nil,Option.some.injEq]
                 · simp only [ssT,zae,zaf,setSlot,gOf,AV.ren,renL,Blk.ren,Ax.look,Ax.put,reduceCtorEq,↓reduceIte,Nat.reduceEqDiff,Nat.reduceLT,Nat.reduceAdd,List.length_append,List.length_cons,List.length_nil,Option.some.injEq]
                 · intro x hx
                   rw [List.take_succ_eq_append_getElem hnl] at hx
                   rcases List.mem_append.1 hx with h | h
                   · exact hno x h
                   · obtain rfl := List.mem_singleton.1 h
                     unfold naT; rw [hX,hv]; rfl
               | false =>
                 have hPL : plT key K = n := findT_split _ K n hnl hno (by unfold naT; rw [hX,hv]; rfl)
                 simp only [go_sem,zag,Nat.reduceAdd,Nat.reduceSub,Nat.reduceMul,Int.reduceToNat,reduceCtorEq,↓reduceIte,Int.reducePow,Nat.reducePow,Int.reduceMod,Nat.reduceLeDiff,Int.reduceLE,Int.reduceNe,Int.reduceEq,Nat.reduceEqDiff,Nat.reduceLT,Nat.reduceBEq,List.map_cons,List.map_nil,List.toList_toArray,Array.toList_append,Option.toArray_some,Option.toArray_none,Bool.and_self,ty,noS,zbx,hKm,d5,hs3,hv,Int.toNat_natCast]
                 refine ⟨⟨by omega,hnl⟩,_,Weak.refl _,?_⟩
                 have hrow : rowT key K = X := by unfold rowT; rw [hPL,List.getD_eq_getElem?_getD,List.getElem?_eq_getElem hnl,hX]; rfl
                 cases kd with
                 | false =>
                   have hst : dkR K ⟨d,t,false,key,dd,val⟩ = K := rfl
                   rw [hst] at hinv
                   simp only [go_sem,zag,Nat.reduceAdd,Nat.reduceSub,Nat.reduceMul,Int.reduceToNat,reduceCtorEq,↓reduceIte,Int.reducePow,Nat.reducePow,Int.reduceMod,Nat.reduceLeDiff,Int.reduceLE,Int.reduceNe,Int.reduceEq,Nat.reduceEqDiff,Nat.reduceLT,Nat.reduceBEq,List.map_cons,List.map_nil,List.toList_toArray,Array.toList_append,Option.toArray_some,Option.toArray_none,Bool.and_self,ty,noS,zbx,hKm,d5,e2,Int.toNat_natCast,Bool.not_true,Bool.not_false]
                   try (repeat (refine And.intro (by omega) ?_))
                   refine ⟨rs.length - (k + 1),_,by omega,zab [0,1,2,3,4] rfl rfl rfl ?_ ?_,k + 1,K,rfl,by omega,by omega,hinv,rfl⟩
                   · simp only [ssT,zae,zaf,setSlot,gOf,AV.ren,renL,Blk.ren,Ax.look,Ax.put,reduceCtorEq,↓reduceIte,Nat.reduceEqDiff,Nat.reduceLT,Nat.reduceAdd,List.length_append,List.length_cons,List.length_nil,Option.some.injEq]
                   · simp only [ssT,zae,zaf,setSlot,gOf,AV.ren,renL,Blk.ren,Ax.look,Ax.put,reduceCtorEq,↓reduceIte,Nat.reduceEqDiff,Nat.reduceLT,Nat.reduceAdd,List.length_append,List.length_cons,List.length_nil,Option.some.injEq]
                 | true =>
                   by_cases hxk : X = key
                   · have dx : decide (X = key) = true := decide_eq_true hxk
                     have hth : thT key K = true := by unfold thT; rw [hPL,hrow,dx,decide_eq_true hnl]; rfl
                     have hst : dkR K ⟨d,t,true,key,dd,val⟩ = K := by unfold dkR; rw [if_pos rfl,if_pos hth]
                     rw [hst] at hinv
                     simp only [go_sem,zag,Nat.reduceAdd,Nat.reduceSub,Nat.reduceMul,Int.reduceToNat,reduceCtorEq,↓reduceIte,Int.reducePow,Nat.reducePow,Int.reduceMod,Nat.reduceLeDiff,Int.reduceLE,Int.reduceNe,Int.reduceEq,Nat.reduceEqDiff,Nat.reduceLT,Nat.reduceBEq,List.map_cons,List.map_nil,List.toList_toArray,Array.toList_append,Option.toArray_some,Option.toArray_none,Bool.and_self,ty,noS,zbx,hKm,d5,e2,Int.toNat_natCast,Bool.not_true,Bool.not_false,hs3,dx]
                     repeat (refine And.intro (by omega) ?_)
                     try (repeat (refine And.intro (by omega) ?_))
                     refine ⟨rs.length - (k + 1),_,by omega,zab [0,1,2,3,4] rfl rfl rfl ?_ ?_,k + 1,K,rfl,by omega,by omega,hinv,rfl⟩
                     · simp only [ssT,zae,zaf,setSlot,gOf,AV.ren,renL,Blk.ren,Ax.look,Ax.put,reduceCtorEq,↓reduceIte,Nat.reduceEqDiff,Nat.reduceLT,Nat.reduceAdd,List.length_append,List.length_cons,List.length_nil,Option.some.injEq]
                     · simp only [ssT,zae,zaf,setSlot,gOf,AV.ren,renL,Blk.ren,Ax.look,Ax.put,reduceCtorEq,↓reduceIte,Nat.reduceEqDiff,Nat.reduceLT,Nat.reduceAdd,List.length_append,List.length_cons,List.length_nil,Option.some.injEq]
                   · have dx : decide (X = key) = false := decide_eq_false hxk
                     have hth : thT key K = false := by unfold thT; rw [hPL,hrow,dx,Bool.and_false]
                     have hst : dkR K ⟨d,t,true,key,dd,val⟩ = K.take n ++ key :: K.drop n := by unfold dkR; rw [if_pos rfl,if_neg (by rw [hth]; simp)]; unfold insT; rw [hPL]
                     rw [hst] at hinv hrl
                     simp only [go_sem,zag,Nat.reduceAdd,Nat.reduceSub,Nat.reduceMul,Int.reduceToNat,reduceCtorEq,↓reduceIte,Int.reducePow,Nat.reducePow,Int.reduceMod,Nat.reduceLeDiff,Int.reduceLE,Int.reduceNe,Int.reduceEq,Nat.reduceEqDiff,Nat.reduceLT,Nat.reduceBEq,List.map_cons,List.map_nil,List.toList_toArray,Array.toList_append,Option.toArray_some,Option.toArray_none,Bool.and_self,ty,noS,zbx,hKm,d5,e2,htk1,hdr1,htd,ht,ids_strs,zca,Nat.sub_zero,List.length_map,hl1,hl2,hl4,hap1,hap2,Int.toNat_natCast,Bool.not_true,Bool.not_false,hs3,dx]
                     repeat (refine And.intro (by omega) ?_)
                     have hdle : decide (0 + (n + 1 + (K.length - n)) ≤ ((K.take n ++ key :: K.drop n).map AV.str).length) = true := decide_eq_true (by rw [List.length_map,hl5]; omega)
                     have htk : List.take (n + 1 + (K.length - n)) ((K.take n ++ key :: K.drop n).map AV.str) = (K.take n ++ key :: K.drop n).map AV.str := List.take_of_length_le (by rw [List.length_map,hl5]; omega)
                     refine ⟨rs.length - (k + 1),_,by omega,(zfo 358 1 3 _ rfl (zca _) (by simp [slot,AV.ids])).trans ?_,k + 1,K.take n ++ key :: K.drop n,rfl,by omega,by omega,hinv,rfl⟩
                     simp only [fgL,fgH,AV.fg,Blk.fg,Nat.reduceBEq,cond_true,cond_false,hdle,Bool.and_true,beq_self_eq_true,Bool.true_and,List.drop_zero,htk]
                     refine zab [0,1,2,3,4] rfl rfl rfl ?_ ?_
                     · simp only [ssT,zae,zaf,setSlot,gOf,AV.ren,renL,Blk.ren,Ax.look,Ax.put,reduceCtorEq,↓reduceIte,Nat.reduceEqDiff,Nat.reduceLT,Nat.reduceAdd,List.length_append,List.length_cons,List.length_nil,Option.some.injEq]
                     · simp only [ssT,zae,zaf,setSlot,gOf,AV.ren,renL,Blk.ren,Ax.look,Ax.put,reduceCtorEq,↓reduceIte,Nat.reduceEqDiff,Nat.reduceLT,Nat.reduceAdd,List.length_append,List.length_cons,List.length_nil,Option.some.injEq]
             · have d5 : decide ((n : Int) < K.length) = false := decide_eq_false (by omega)
               have hPL : plT key K = n := by
                 have : K.take n = K := List.take_of_length_le (by omega)
                 rw [this] at hno
                 have := findT_none _ K hno
                 unfold plT; omega
               simp only [go_sem,zag,Nat.reduceAdd,Nat.reduceSub,Nat.reduceMul,Int.reduceToNat,reduceCtorEq,↓reduceIte,Int.reducePow,Nat.reducePow,Int.reduceMod,Nat.reduceLeDiff,Int.reduceLE,Int.reduceNe,Int.reduceEq,Nat.reduceEqDiff,Nat.reduceLT,Nat.reduceBEq,List.map_cons,List.map_nil,List.toList_toArray,Array.toList_append,Option.toArray_some,Option.toArray_none,Bool.and_self,ty,noS,zbx,hKm,d5,Int.toNat_natCast]
               refine ⟨_,Weak.refl _,?_⟩
               cases kd with
               | false =>
                 have hst : dkR K ⟨d,t,false,key,dd,val⟩ = K := rfl
                 rw [hst] at hinv
                 simp only [go_sem,zag,Nat.reduceAdd,Nat.reduceSub,Nat.reduceMul,Int.reduceToNat,reduceCtorEq,↓reduceIte,Int.reducePow,Nat.reducePow,Int.reduceMod,Nat.reduceLeDiff,Int.reduceLE,Int.reduceNe,Int.reduceEq,Nat.reduceEqDiff,Nat.reduceLT,Nat.reduceBEq,List.map_cons,List.map_nil,List.toList_toArray,Array.toList_append,Option.toArray_some,Option.toArray_none,Bool.and_self,ty,noS,zbx,hKm,d5,e2,Int.toNat_natCast,Bool.not_true,Bool.not_false]
                 try (repeat (refine And.intro (by omega) ?_))
                 refine ⟨rs.length - (k + 1),_,by omega,zab [0,1,2,3,4] rfl rfl rfl ?_ ?_,k + 1,K,rfl,by omega,by omega,hinv,rfl⟩
                 · simp only [ssT,zae,zaf,setSlot,gOf,AV.ren,renL,Blk.ren,Ax.look,Ax.put,reduceCtorEq,↓reduceIte,Nat.reduceEqDiff,Nat.reduceLT,Nat.reduceAdd,List.length_append,List.length_cons,List.length_nil,Option.some.injEq]
                 · simp only [ssT,zae,zaf,setSlot,gOf,AV.ren,renL,Blk.ren,Ax.look,Ax.put,reduceCtorEq,↓reduceIte,Nat.reduceEqDiff,Nat.reduceLT,Nat.reduceAdd,List.length_append,List.length_cons,List.length_nil,Option.some.injEq]
               | true =>
                 have hth : thT key K = false := by unfold thT; rw [hPL,decide_eq_false (by omega)]; rfl
                 have hst : dkR K ⟨d,t,true,key,dd,val⟩ = K.take n ++ key :: K.drop n := by unfold dkR; rw [if_pos rfl,if_neg (by rw [hth]; simp)]; unfold insT; rw [hPL]
                 rw [hst] at hinv hrl
                 simp only [go_sem,zag,Nat.reduceAdd,Nat.reduceSub,Nat.reduceMul,Int.reduceToNat,reduceCtorEq,↓reduceIte,Int.reducePow,Nat.reducePow,Int.reduceMod,Nat.reduceLeDiff,Int.reduceLE,Int.reduceNe,Int.reduceEq,Nat.reduceEqDiff,Nat.reduceLT,Nat.reduceBEq,List.map_cons,List.map_nil,List.toList_toArray,Array.toList_append,Option.toArray_some,Option.toArray_none,Bool.and_self,ty,noS,zbx,hKm,d5,e2,htk1,hdr1,htd,ht,ids_strs,zca,Nat.sub_zero,List.length_map,hl1,hl2,hl4,hap1,hap2,Int.toNat_natCast,Bool.not_true,Bool.not_false]
                 repeat (refine And.intro (by omega) ?_)
                 have hdle : decide (0 + (n + 1 + (K.length - n)) ≤ ((K.take n ++ key :: K.drop n).map AV.str).length) = true := decide_eq_true (by rw [List.length_map,hl5]; omega)
                 have htk : List.take (n + 1 + (K.length - n)) ((K.take n ++ key :: K.drop n).map AV.str) = (K.take n ++ key :: K.drop n).map AV.str := List.take_of_length_le (by rw [List.length_map,hl5]; omega)
                 refine ⟨rs.length - (k + 1),_,by omega,(zfo 358 1 3 _ rfl (zca _) (by simp [slot,AV.ids])).trans ?_,k + 1,K.take n ++ key :: K.drop n,rfl,by omega,by omega,hinv,rfl⟩
                 simp only [fgL,fgH,AV.fg,Blk.fg,Nat.reduceBEq,cond_true,cond_false,hdle,Bool.and_true,beq_self_eq_true,Bool.true_and,List.drop_zero,htk]
                 refine zab [0,1,2,3,4] rfl rfl rfl ?_ ?_
                 · simp only [ssT,zae,zaf,setSlot,gOf,AV.ren,renL,Blk.ren,Ax.look,Ax.put,reduceCtorEq,↓reduceIte,Nat.reduceEqDiff,Nat.reduceLT,Nat.reduceAdd,List.length_append,List.length_cons,List.length_nil,Option.some.injEq]
                 · simp only [ssT,zae,zaf,setSlot,gOf,AV.ren,renL,Blk.ren,Ax.look,Ax.put,reduceCtorEq,↓reduceIte,Nat.reduceEqDiff,Nat.reduceLT,Nat.reduceAdd,List.length_append,List.length_cons,List.length_nil,Option.some.injEq]
         · have d4 : decide ((k : Int) < rs.length) = false := decide_eq_false (by omega)
           have hdk : rs.drop k = [] := List.drop_eq_nil_of_le (by omega)
           rw [hdk,List.foldl_nil] at hinv
           simp only [go_sem,zag,Nat.reduceAdd,Nat.reduceSub,Nat.reduceMul,Int.reduceToNat,reduceCtorEq,↓reduceIte,Int.reducePow,Nat.reducePow,Int.reduceMod,Nat.reduceLeDiff,Int.reduceLE,Int.reduceNe,Int.reduceEq,Nat.reduceEqDiff,Nat.reduceLT,Nat.reduceBEq,List.map_cons,List.map_nil,List.toList_toArray,Array.toList_append,Option.toArray_some,Option.toArray_none,Bool.and_self,ty,noS,zbx,hlp,hlr,hs1,d3,d4,e1,Int.toNat_natCast]
           refine ⟨⟨by omega,hil⟩,_,Weak.refl _,?_⟩
           simp only [go_sem,zag,Nat.reduceAdd,Nat.reduceSub,Nat.reduceMul,Int.reduceToNat,reduceCtorEq,↓reduceIte,Int.reducePow,Nat.reducePow,Int.reduceMod,Nat.reduceLeDiff,Int.reduceLE,Int.reduceNe,Int.reduceEq,Nat.reduceEqDiff,Nat.reduceLT,Nat.reduceBEq,List.map_cons,List.map_nil,List.toList_toArray,Array.toList_append,Option.toArray_some,Option.toArray_none,Bool.and_self,ty,noS,zbx,e1]
           refine ⟨es.length - (i + 1),_,by omega,zab [0,1,2,3,4] rfl rfl rfl ?_ ?_,i + 1,K,rfl,by omega,by omega,hinv,rfl⟩
           · simp only [ssT,zae,zaf,setSlot,gOf,AV.ren,renL,Blk.ren,Ax.look,Ax.put,reduceCtorEq,↓reduceIte,Nat.reduceEqDiff,Nat.reduceLT,Nat.reduceAdd,List.length_append,List.length_cons,List.length_nil,Option.some.injEq]
           · simp only [ssT,zae,zaf,setSlot,gOf,AV.ren,renL,Blk.ren,Ax.look,Ax.put,reduceCtorEq,↓reduceIte,Nat.reduceEqDiff,Nat.reduceLT,Nat.reduceAdd,List.length_append,List.length_cons,List.length_nil,Option.some.injEq]
     · have d3 : decide ((i : Int) < es.length) = false := decide_eq_false (by omega)
       have hdr : es.drop i = [] := List.drop_eq_nil_of_le (by omega)
       rw [hdr] at hinv
       have hv2 : G = K := hinv
       subst hv2
       simp only [go_sem,zag,Nat.reduceAdd,Nat.reduceSub,Nat.reduceMul,Int.reduceToNat,reduceCtorEq,↓reduceIte,Int.reducePow,Nat.reducePow,Int.reduceMod,Nat.reduceLeDiff,Int.reduceLE,Int.reduceNe,Int.reduceEq,Nat.reduceEqDiff,Nat.reduceLT,Nat.reduceBEq,List.map_cons,List.map_nil,List.toList_toArray,Array.toList_append,Option.toArray_some,Option.toArray_none,Bool.and_self,ty,noS,zbx,hlp,d3]
       refine ⟨_,Weak.refl _,?_⟩
       simp only [go_sem,zag,Nat.reduceAdd,Nat.reduceSub,Nat.reduceMul,Int.reduceToNat,reduceCtorEq,↓reduceIte,Int.reducePow,Nat.reducePow,Int.reduceMod,Nat.reduceLeDiff,Int.reduceLE,Int.reduceNe,Int.reduceEq,Nat.reduceEqDiff,Nat.reduceLT,Nat.reduceBEq,List.map_cons,List.map_nil,List.toList_toArray,Array.toList_append,Option.toArray_some,Option.toArray_none,Bool.and_self,ty,noS,zbx]
       refine ⟨_,Weak.refl _,?_⟩
       simp only [go_sem,zag,Nat.reduceAdd,Nat.reduceSub,Nat.reduceMul,Int.reduceToNat,reduceCtorEq,↓reduceIte,Int.reducePow,Nat.reducePow,Int.reduceMod,Nat.reduceLeDiff,Int.reduceLE,Int.reduceNe,Int.reduceEq,Nat.reduceEqDiff,Nat.reduceLT,Nat.reduceBEq,List.map_cons,List.map_nil,List.toList_toArray,Array.toList_append,Option.toArray_some,Option.toArray_none,Bool.and_self,ty,noS,zbx]
 · exact hp.elim
end
end Go.Proofs.Ytlcijldkdpmknaa
namespace Go.Proofs.Ytlcijldkdpmknaa
open Ax
def rsbtS : zam
 | [.agg [.w (.int .i64 B),.sg 6 xs f],.w (.int .i64 t)],[] => ⟨xs.length ≤ 1000000 ∧ isB4 xs,.tup [.w (.int .i64 (btG t (xs.map ubat)).1),.w (.bool (btG t (xs.map ubat)).2)],[]⟩
 | _,_ => zay
def spD (l : List Bat) : List Ent := l.zipIdx.map fun p => ⟨p.1.b,newI p.1.rs (-1),(p.2 : Int)⟩
theorem spD_snoc (l : List Bat) (x : Bat) : spD (l ++ [x]) = spD l ++ [⟨x.b,newI x.rs (-1),(l.length : Int)⟩] := by
 unfold spD; rw [List.zipIdx_append]; simp
theorem spD_len (l : List Bat) : (spD l).length = l.length := by unfold spD; simp
def rsparS : zam
 | [.agg [.w (.int .i64 B),.sg 6 xs f],.w (.int .i64 v)],[] => ⟨xs.length ≤ 90000 ∧ isB4 xs,.agg [.w (.int .i64 (bldI v (spD (xs.map ubat))).v),.w (.int .i64 (bldI v (spD (xs.map ubat))).c),.sg 3 ((bldI v (spD (xs.map ubat))).es.map ent) (decide (xs.length = 0))],[]⟩
 | _,_ => zay
def Srspar (f : FuncId) : Option zam :=
 match f with
 | 29 => some rnewS
 | 35 => some rbuildS
 | _ => none
theorem Srspar_ok : Fns Try.prog Srspar := by
 intro f s h
 unfold Srspar at h
 split at h
 · injection h with h; subst h; exact ⟨⟨_,Try.func29,by kernel_rfl,by kernel_rfl⟩,rnew_sound⟩
 · injection h with h; subst h; exact ⟨⟨_,Try.func35,by kernel_rfl,by kernel_rfl⟩,rbuildI_sound⟩
 · cases h
def rsparPl : Plan := fun id => match id with
 | 5 => some [(1,12),(2,12),(4,12),(5,12),(6,12)]
 | _ => none
section
set_option maxRecDepth 100000
set_option maxHeartbeats 8000000 in
theorem rsbt_sound : zaq Try.prog 8 rsbtS := by
 refine zak (S := noS) (T := ty) zat ty_ok zbo Try.func8 (c := Try.f8.body.getD .skip) (by kernel_rfl) (by kernel_rfl) (fun xs pins hp _ => ?_)
 unfold rsbtS at hp ⊢
 split at hp
 · rename_i B xs f t _
   obtain ⟨hL,es,rfl,he⟩ := hp
   rw [List.length_map] at hL
   refine ⟨by simp,?_⟩
   have hlp : (es.map bvp).length = es.length := by simp
   rw [zaz]
   unfold Try.f8
   simp only [go_sem,zaa,Nat.reduceAdd,Nat.reduceSub,Nat.reduceMul,Int.reduceToNat,reduceCtorEq,↓reduceIte,Int.reducePow,Nat.reducePow,Int.reduceMod,Nat.reduceLeDiff,Int.reduceLE,Int.reduceNe,Int.reduceEq,Nat.reduceEqDiff,Nat.reduceLT,Nat.reduceBEq,ty,noS,hlp]
   refine zas ⟨fun m σ => ∃ (i : Nat) (a : Int) (h : Bool),m = es.length - i ∧ i ≤ es.length ∧ btG t (es.map Prod.fst) = ((es.drop i).map Prod.fst).foldl (btB t) (a,h) ∧
       σ = ⟨[.agg [.w (.int .i64 B),.sg 6 (es.map bvp) f],.w (.int .i64 t),.rf 4 2 0 0,.junk,.junk,.junk,.w (.int .i64 a),.w (.bool h),.w (.int .i64 i),.junk,.junk,.junk,.junk,.junk,.junk,.junk,.junk,.junk,.junk,.junk,.junk,.junk,.junk,.junk,.junk,.junk,.junk,.junk,.junk,.junk,.junk,.junk,.junk,.junk,.junk,.junk,.junk,.junk,.junk,.junk,.junk,.junk,.junk,.junk,.junk,.junk,.junk,.junk,.junk,.junk,.junk,.junk,.junk,.junk,.junk,.junk,.junk,.junk,.junk,.junk,.junk,.junk,.junk,.junk],[(4,.g 2 [.agg [.w (.int .i64 B),.sg 6 (es.map bvp) f]])],5⟩,?_,?_⟩
   · refine ⟨_,_,zab [0,1,2,3,4] rfl rfl rfl ?_ ?_,0,0,false,rfl,by omega,by rw [List.drop_zero]; rfl,rfl⟩
     · simp only [ssT,zae,zaf,setSlot,gOf,AV.ren,renL,Blk.ren,Ax.look,Ax.put,reduceCtorEq,↓reduceIte,Nat.reduceEqDiff,Nat.reduceLT,Nat.reduceAdd,List.length_append,List.length_cons,List.length_nil,Option.some.injEq]; try simp
     · simp only [ssT,zae,zaf,setSlot,gOf,AV.ren,renL,Blk.ren,Ax.look,Ax.put,reduceCtorEq,↓reduceIte,Nat.reduceEqDiff,Nat.reduceLT,Nat.reduceAdd,List.length_append,List.length_cons,List.length_nil,Option.some.injEq]
   · rintro m σ ⟨i,a,h,rfl,hi,hinv,rfl⟩
     have e1 : ((i : Int) + 1 + 9223372036854775808) % 18446744073709551616 - 9223372036854775808 = ((i + 1 : Nat) : Int) := by omega
     by_cases hil : i < es.length
     · have d3 : decide ((i : Int) < es.length) = true := decide_eq_true (by omega)
       have hs1 := zbb es i hil
       have m1 := he es[i] (List.getElem_mem hil)
       have hdr : es.drop i = es[i] :: es.drop (i + 1) := List.drop_eq_getElem_cons hil
       obtain ⟨P,hP⟩ : ∃ P,es[i] = P := ⟨_,rfl⟩
       rw [hP] at hs1 m1 hdr
       rw [hdr] at hinv
       obtain ⟨⟨b,c,p,e,s,rs⟩,f'⟩ := P
       have hs1 : slot (es.map bvp) i = .agg [.w (.int .i64 b),.w (.int .i64 c),.w (.int .i64 p),.w (.int .i64 e),.w (.int .i64 s),.sg 6 (rs.map rv) f'] := hs1
       simp only at m1
       have hlr : (rs.map rv).length = rs.length := by simp
       have hinv : btG t (es.map Prod.fst) = ((es.drop (i + 1)).map Prod.fst).foldl (btB t) (rs.foldl (btR t b) (a,h)) := hinv
       simp only [go_sem,zaa,Nat.reduceAdd,Nat.reduceSub,Nat.reduceMul,Int.reduceToNat,reduceCtorEq,↓reduceIte,Int.reducePow,Nat.reducePow,Int.reduceMod,Nat.reduceLeDiff,Int.reduceLE,Int.reduceNe,Int.reduceEq,Nat.reduceEqDiff,Nat.reduceLT,Nat.reduceBEq,ty,noS,hlp,d3]
       refine zas ⟨fun m σ => ∃ (k : Nat) (a : Int) (h : Bool),m = rs.length - k ∧ k ≤ rs.length ∧ btG t (es.map Prod.fst) = ((es.drop (i + 1)).map Prod.fst).foldl (btB t) ((rs.drop k).foldl (btR t b) (a,h)) ∧
           σ = ⟨[.agg [.w (.int .i64 B),.sg 6 (es.map bvp) f],.w (.int .i64 t),.rf 4 2 0 0,.junk,.junk,.junk,.w (.int .i64 a),.w (.bool h),.w (.int .i64 i),.w (.int .i64 k),.junk,.junk,.junk,.junk,.junk,.junk,.junk,.junk,.junk,.junk,.junk,.junk,.junk,.junk,.junk,.junk,.junk,.junk,.junk,.junk,.junk,.junk,.junk,.junk,.junk,.junk,.junk,.junk,.junk,.junk,.junk,.junk,.junk,.junk,.junk,.junk,.junk,.junk,.junk,.junk,.junk,.junk,.junk,.junk,.junk,.junk,.junk,.junk,.junk,.junk,.junk,.junk,.junk,.junk],
             [(4,.g 2 [.agg [.w (.int .i64 B),.sg 6 (es.map bvp) f]])],5⟩,?_,?_⟩
       · refine ⟨_,_,zab [0,1,2,3,4] rfl rfl rfl ?_ ?_,0,a,h,rfl,by omega,by rw [List.drop_zero]; exact hinv,rfl⟩
         · simp only [ssT,zae,zaf,setSlot,gOf,AV.ren,renL,Blk.ren,Ax.look,Ax.put,reduceCtorEq,↓reduceIte,Nat.reduceEqDiff,Nat.reduceLT,Nat.reduceAdd,List.length_append,List.length_cons,List.length_nil,Option.some.injEq]; try simp
         · simp only [ssT,zae,zaf,setSlot,gOf,AV.ren,renL,Blk.ren,Ax.look,Ax.put,reduceCtorEq,↓reduceIte,Nat.reduceEqDiff,Nat.reduceLT,Nat.reduceAdd,List.length_append,List.length_cons,List.length_nil,Option.some.injEq]
       · rintro m σ ⟨k,a,h,rfl,hk,hinv,rfl⟩
         by_cases hkl : k < rs.length
         · have e2 : ((k : Int) + 1 + 9223372036854775808) % 18446744073709551616 - 9223372036854775808 = ((k + 1 : Nat) : Int) := by omega
           have d4 : decide ((k : Int) < rs.length) = true := decide_eq_true (by omega)
           have hs2 := zbe rv rs k hkl
           have hdk : rs.drop k = rs[k] :: rs.drop (k + 1) := List.drop_eq_getElem_cons hkl
           obtain ⟨R,hR⟩ : ∃ R,rs[k] = R := ⟨_,rfl⟩
           rw [hR] at hs2 hdk
           rw [hdk,List.foldl_cons] at hinv
           simp only [rv] at hs2
           have hof : (b + R.d + 9223372036854775808) % 18446744073709551616 - 9223372036854775808 = offI b R.d := rfl
           obtain ⟨O,hO⟩ : ∃ O,offI b R.d = O := ⟨_,rfl⟩
           rw [hO] at hof
           by_cases c1 : t ≤ R.t
           · have d5 : decide (t ≤ R.t) = true := decide_eq_true c1
             cases h with
             | false =>
               have hst : btR t b (a,false) R = (O,true) := by unfold btR; rw [if_pos ⟨c1,.inl rfl⟩,hO]
               rw [hst] at hinv
               simp only [go_sem,zaa,Nat.reduceAdd,Nat.reduceSub,Nat.reduceMul,Int.reduceToNat,reduceCtorEq,↓reduceIte,Int.reducePow,Nat.reducePow,Int.reduceMod,Nat.reduceLeDiff,Int.reduceLE,Int.reduceNe,Int.reduceEq,Nat.reduceEqDiff,Nat.reduceLT,Nat.reduceBEq,ty,noS,hlp,hlr,d3,d4,d5,hs1,hs2,hof,e2,Int.toNat_natCast,Bool.not_false]
               repeat (refine And.intro (by omega) ?_)
               refine ⟨rs.length - (k + 1),_,by omega,zab [0,1,2,3,4] rfl rfl rfl ?_ ?_,k + 1,O,true,rfl,by omega,hinv,rfl⟩
               · simp only [ssT,zae,zaf,setSlot,gOf,AV.ren,renL,Blk.ren,Ax.look,Ax.put,reduceCtorEq,↓reduceIte,Nat.reduceEqDiff,Nat.reduceLT,Nat.reduceAdd,List.length_append,List.length_cons,List.length_nil,Option.some.injEq]
               · simp only [ssT,zae,zaf,setSlot,gOf,AV.ren,renL,Blk.ren,Ax.look,Ax.put,reduceCtorEq,↓reduceIte,Nat.reduceEqDiff,Nat.reduceLT,Nat.reduceAdd,List.length_append,List.length_cons,List.length_nil,Option.some.injEq]
             | true =>
               by_cases c2 : O < a
               · have d6 : decide (O < a) = true := decide_eq_true c2
                 have hst : btR t b (a,true) R = (O,true) := by unfold btR; rw [hO,if_pos ⟨c1,.inr c2⟩]
                 rw [hst] at hinv
                 simp only [go_sem,zaa,Nat.reduceAdd,Nat.reduceSub,Nat.reduceMul,Int.reduceToNat,reduceCtorEq,↓reduceIte,Int.reducePow,Nat.reducePow,Int.reduceMod,Nat.reduceLeDiff,Int.reduceLE,Int.reduceNe,Int.reduceEq,Nat.reduceEqDiff,Nat.reduceLT,Nat.reduceBEq,ty,noS,hlp,hlr,d3,d4,d5,d6,hs1,hs2,hof,e2,Int.toNat_natCast,Bool.not_true]
                 repeat (refine And.intro (by omega) ?_)
                 refine ⟨rs.length - (k + 1),_,by omega,zab [0,1,2,3,4] rfl rfl rfl ?_ ?_,k + 1,O,true,rfl,by omega,hinv,rfl⟩
                 · simp only [ssT,zae,zaf,setSlot,gOf,AV.ren,renL,Blk.ren,Ax.look,Ax.put,reduceCtorEq,↓reduceIte,Nat.reduceEqDiff,Nat.reduceLT,Nat.reduceAdd,List.length_append,List.length_cons,List.length_nil,Option.some.injEq]
                 · simp only [ssT,zae,zaf,setSlot,gOf,AV.ren,renL,Blk.ren,Ax.look,Ax.put,reduceCtorEq,↓reduceIte,Nat.reduceEqDiff,Nat.reduceLT,Nat.reduceAdd,List.length_append,List.length_cons,List.length_nil,Option.some.injEq]
               · have d6 : decide (O < a) = false := decide_eq_false c2
                 have hst : btR t b (a,true) R = (a,true) := by unfold btR; rw [hO,if_neg (by rintro ⟨_,h | h⟩; cases h; exact c2 h)]
                 rw [hst] at hinv
                 simp only [go_sem,zaa,Nat.reduceAdd,Nat.reduceSub,Nat.reduceMul,Int.reduceToNat,reduceCtorEq,↓reduceIte,Int.reducePow,Nat.reducePow,Int.reduceMod,Nat.reduceLeDiff,Int.reduceLE,Int.reduceNe,Int.reduceEq,Nat.reduceEqDiff,Nat.reduceLT,Nat.reduceBEq,ty,noS,hlp,hlr,d3,d4,d5,d6,hs1,hs2,hof,e2,Int.toNat_natCast,Bool.not_true]
                 repeat (refine And.intro (by omega) ?_)
                 refine ⟨rs.length - (k + 1),_,by omega,zab [0,1,2,3,4] rfl rfl rfl ?_ ?_,k + 1,a,true,rfl,by omega,hinv,rfl⟩
                 · simp only [ssT,zae,zaf,setSlot,gOf,AV.ren,renL,Blk.ren,Ax.look,Ax.put,reduceCtorEq,↓reduceIte,Nat.reduceEqDiff,Nat.reduceLT,Nat.reduceAdd,List.length_append,List.length_cons,List.length_nil,Option.some.injEq]
                 · simp only [ssT,zae,zaf,setSlot,gOf,AV.ren,renL,Blk.ren,Ax.look,Ax.put,reduceCtorEq,↓reduceIte,Nat.reduceEqDiff,Nat.reduceLT,Nat.reduceAdd,List.length_append,List.length_cons,List.length_nil,Option.some.injEq]
           · have d5 : decide (t ≤ R.t) = false := decide_eq_false c1
             have hst : btR t b (a,h) R = (a,h) := by unfold btR; rw [if_neg (by rintro ⟨h,_⟩; exact c1 h)]
             rw [hst] at hinv
             simp only [go_sem,zaa,Nat.reduceAdd,Nat.reduceSub,Nat.reduceMul,Int.reduceToNat,reduceCtorEq,↓reduceIte,Int.reducePow,Nat.reducePow,Int.reduceMod,Nat.reduceLeDiff,Int.reduceLE,Int.reduceNe,Int.reduceEq,Nat.reduceEqDiff,Nat.reduceLT,Nat.reduceBEq,ty,noS,hlp,hlr,d3,d4,d5,hs1,hs2,hof,e2,Int.toNat_natCast]
             repeat (refine And.intro (by omega) ?_)
             refine ⟨rs.length - (k + 1),_,by omega,zab [0,1,2,3,4] rfl rfl rfl ?_ ?_,k + 1,a,h,rfl,by omega,hinv,rfl⟩
             · simp only [ssT,zae,zaf,setSlot,gOf,AV.ren,renL,Blk.ren,Ax.look,Ax.put,reduceCtorEq,↓reduceIte,Nat.reduceEqDiff,Nat.reduceLT,Nat.reduceAdd,List.length_append,List.length_cons,List.length_nil,Option.some.injEq]
             · simp only [ssT,zae,zaf,setSlot,gOf,AV.ren,renL,Blk.ren,Ax.look,Ax.put,reduceCtorEq,↓reduceIte,Nat.reduceEqDiff,Nat.reduceLT,Nat.reduceAdd,List.length_append,List.length_cons,List.length_nil,Option.some.injEq]
         · have d4 : decide ((k : Int) < rs.length) = false := decide_eq_false (by omega)
           have hdk : rs.drop k = [] := List.drop_eq_nil_of_le (by omega)
           rw [hdk,List.foldl_nil] at hinv
           simp only [go_sem,zaa,Nat.reduceAdd,Nat.reduceSub,Nat.reduceMul,Int.reduceToNat,reduceCtorEq,↓reduceIte,Int.reducePow,Nat.reducePow,Int.reduceMod,Nat.reduceLeDiff,Int.reduceLE,Int.reduceNe,Int.reduceEq,Nat.reduceEqDiff,Nat.reduceLT,Nat.reduceBEq,ty,noS,hlp,hlr,hs1,d3,d4,e1,Int.toNat_natCast]
           try (repeat (refine And.intro (by omega) ?_))
           refine ⟨es.length - (i + 1),_,by omega,zab [0,1,2,3,4] rfl rfl rfl ?_ ?_,i + 1,a,h,rfl,by omega,hinv,rfl⟩
           · simp only [ssT,zae,zaf,setSlot,gOf,AV.ren,renL,Blk.ren,Ax.look,Ax.put,reduceCtorEq,↓reduceIte,Nat.reduceEqDiff,Nat.reduceLT,Nat.reduceAdd,List.length_append,List.length_cons,List.length_nil,Option.some.injEq]
           · simp only [ssT,zae,zaf,setSlot,gOf,AV.ren,renL,Blk.ren,Ax.look,Ax.put,reduceCtorEq,↓reduceIte,Nat.reduceEqDiff,Nat.reduceLT,Nat.reduceAdd,List.length_append,List.length_cons,List.length_nil,Option.some.injEq]
     · have d3 : decide ((i : Int) < es.length) = false := decide_eq_false (by omega)
       have hdr : es.drop i = [] := List.drop_eq_nil_of_le (by omega)
       rw [hdr] at hinv
       have hv2 : btG t (es.map Prod.fst) = (a,h) := hinv
       simp only [go_sem,zaa,Nat.reduceAdd,Nat.reduceSub,Nat.reduceMul,Int.reduceToNat,reduceCtorEq,↓reduceIte,Int.reducePow,Nat.reducePow,Int.reduceMod,Nat.reduceLeDiff,Int.reduceLE,Int.reduceNe,Int.reduceEq,Nat.reduceEqDiff,Nat.reduceLT,Nat.reduceBEq,ty,noS,hlp,d3,hv2]
 · exact hp.elim
end
end Go.Proofs.Ytlcijldkdpmknaa
namespace Go.Proofs.Ytlcijldkdpmknaa
open Ax
section
set_option maxRecDepth 100000
set_option maxHeartbeats 8000000 in
theorem rspar_sound : zaq Try.prog 18 rsparS := by
 refine fn_soundF (S := Srspar) (T := ty) (pl := rsparPl) zat ty_ok Srspar_ok Try.func18 (c := Try.f18.body.getD .skip) (by kernel_rfl) (by kernel_rfl) (fun xs pins hp _ => ?_)
 unfold rsparS at hp ⊢
 split at hp
 · rename_i B xs f v _
   obtain ⟨hL,es,rfl,he⟩ := hp
   rw [List.length_map] at hL
   refine ⟨by simp,?_⟩
   have hlp : (es.map bvp).length = es.length := by simp
   rw [zaz]
   obtain ⟨l,hl⟩ : ∃ l,es.map Prod.fst = l := ⟨_,rfl⟩
   rw [hl]
   have hlq : l.length = es.length := by subst hl; simp
   have ht : top = 4294967296 := rfl
   unfold Try.f18
   simp only [go_sem,zag,Nat.reduceAdd,Nat.reduceSub,Nat.reduceMul,Int.reduceToNat,reduceCtorEq,↓reduceIte,Int.reducePow,Nat.reducePow,Int.reduceMod,Nat.reduceLeDiff,Int.reduceLE,Int.reduceNe,Int.reduceEq,Nat.reduceEqDiff,Nat.reduceLT,Nat.reduceBEq,List.map_cons,List.map_nil,List.toList_toArray,Array.toList_append,Option.toArray_some,Option.toArray_none,Bool.and_self,ty,Srspar,rsparPl,hlp]
   refine awpF_loopW ⟨fun m σ => ∃ (i : Nat),m = es.length - i ∧ i ≤ es.length ∧
       σ = ⟨[.agg [.w (.int .i64 B),.sg 6 (es.map bvp) f],.w (.int .i64 v),.rf 4 2 0 0,.junk,.rf 5 3 0 0,.ms 6 3 0 i,.w (.int .i64 i),.junk,.junk,.junk,.junk,.junk,.junk,.junk,.junk,.junk,.junk,.junk,.junk,.junk,.junk,.junk,.junk,.junk,.junk,.junk,.junk,.junk,.junk,.junk,.junk,.junk,.junk,.junk],
         [(4,.g 2 [.agg [.w (.int .i64 B),.sg 6 (es.map bvp) f]]),(5,.g 3 [.agg [.w (.int .i64 0),.w (.int .i64 0),.sg 3 [] true]]),(6,.g 3 ((spD (l.take i)).map ent))],7⟩,?_,?_⟩
   · refine ⟨_,_,(zfg 5 3 (.g 3 []) ⟨by decide,rfl⟩ (by exact trivial)).trans (zab [0,1,2,3,4,12,36] rfl rfl rfl ?_ ?_),0,rfl,by omega,rfl⟩
     · simp only [ssT,zae,zaf,setSlot,gOf,AV.ren,renL,Blk.ren,Ax.look,Ax.put,reduceCtorEq,↓reduceIte,Nat.reduceEqDiff,Nat.reduceLT,Nat.reduceAdd,List.length_append,List.length_cons,List.length_nil,Option.some.injEq]; try simp
     · simp only [ssT,zae,zaf,setSlot,gOf,AV.ren,renL,Blk.ren,Ax.look,Ax.put,reduceCtorEq,↓reduceIte,Nat.reduceEqDiff,Nat.reduceLT,Nat.reduceAdd,List.length_append,List.length_cons,List.length_nil,Option.some.injEq,List.take_zero]; try simp [spD,renL]
   · rintro m σ ⟨i,rfl,hi,rfl⟩
     have e1 : ((i : Int) + 1 + 9223372036854775808) % 18446744073709551616 - 9223372036854775808 = ((i + 1 : Nat) : Int) := by omega
     have hml : ((spD (l.take i)).map ent).length = i := by rw [List.length_map,spD_len,List.length_take]; omega
     by_cases hil : i < es.length
     · have d3 : decide ((i : Int) < es.length) = true := decide_eq_true (by omega)
       have hs1 := zbb es i hil
       have m1 := he es[i] (List.getElem_mem hil)
       have hyi : (spD (l.take (i + 1))).map ent = (spD (l.take i)).map ent ++ [.agg [.w (.int .i64 es[i].1.b),.w (.int .i64 (newI es[i].1.rs (-1))),.w (.int .i64 (i : Int))]] := by
         have h1 : l[i]'(by omega) = es[i].1 := by subst hl; simp
         have h2 : (l.take i).length = i := by rw [List.length_take]; omega
         rw [List.take_succ_eq_append_getElem (by omega),spD_snoc,h1,h2,List.map_append]; rfl
       obtain ⟨P,hP⟩ : ∃ P,es[i] = P := ⟨_,rfl⟩
       rw [hP] at hs1 m1 hyi
       obtain ⟨⟨b,c,p,e,s,rs⟩,f'⟩ := P
       have hs1 : slot (es.map bvp) i = .agg [.w (.int .i64 b),.w (.int .i64 c),.w (.int .i64 p),.w (.int .i64 e),.w (.int .i64 s),.sg 6 (rs.map rv) f'] := hs1
       simp only at m1 hyi
       have n1 : (rs.map rv).length ≤ 9223372036854775807 := by rw [List.length_map]; omega
       have x1 : ∃ k : List Rec,rs.map rv = k.map rv := ⟨rs,rfl⟩
       have r1 := zaj rs
       have hids := ids_rvJ rs
       obtain ⟨W,hW⟩ : ∃ W,newI rs (-1) = W := ⟨_,rfl⟩
       rw [hW] at hyi
       have hcl := zbg (spD (l.take i))
       have hids2 := zef (spD (l.take i))
       have hids3 := zef (spD (l.take (i + 1)))
       rw [hyi] at hids3
       simp only [go_sem,zag,Nat.reduceAdd,Nat.reduceSub,Nat.reduceMul,Int.reduceToNat,reduceCtorEq,↓reduceIte,Int.reducePow,Nat.reducePow,Int.reduceMod,Nat.reduceLeDiff,Int.reduceLE,Int.reduceNe,Int.reduceEq,Nat.reduceEqDiff,Nat.reduceLT,Nat.reduceBEq,List.map_cons,List.map_nil,List.toList_toArray,Array.toList_append,Option.toArray_some,Option.toArray_none,Bool.and_self,ty,Srspar,rsparPl,rnewS,hlp,hml,d3,hs1,n1,x1,r1,hW,e1,hids,hids2,hids3,hcl,fillS,Int.toNat_natCast]
       repeat (refine And.intro (by omega) ?_)
       refine ⟨es.length - (i + 1),_,by omega,zab [0,1,2,3,4,5,175] rfl rfl rfl ?_ ?_,i + 1,rfl,by omega,rfl⟩
       · simp only [ssT,zae,zaf,setSlot,gOf,AV.ren,renL,Blk.ren,Ax.look,Ax.put,reduceCtorEq,↓reduceIte,Nat.reduceEqDiff,Nat.reduceLT,Nat.reduceAdd,List.length_append,List.length_cons,List.length_nil,Option.some.injEq]
       · simp only [ssT,zae,zaf,setSlot,gOf,AV.ren,renL,Blk.ren,Ax.look,Ax.put,reduceCtorEq,↓reduceIte,Nat.reduceEqDiff,Nat.reduceLT,Nat.reduceAdd,List.length_append,List.length_cons,List.length_nil,Option.some.injEq,hyi]
         rw [← hyi,zcr _ _ (zbg _)]
     · have d3 : decide ((i : Int) < es.length) = false := decide_eq_false (by omega)
       have hii : l.take i = l := List.take_of_length_le (by omega)
       rw [hii] at hml ⊢
       have hx1 : ∃ k : List Ent,(spD l).map ent = k.map ent := ⟨_,rfl⟩
       have hu := zco (spD l)
       have hcl := zbg (spD l)
       have hids2 := zef (spD l)
       have hle1 : i ≤ 100000 := by omega
       have htk : ((spD l).map ent).take i = (spD l).map ent := List.take_of_length_le (by omega)
       have hcm : ∀ y ∈ (spD l).map ent,y.closed = true := by
         intro y hy
         obtain ⟨e,_,rfl⟩ := List.mem_map.1 hy
         rfl
       simp only [go_sem,zag,Nat.reduceAdd,Nat.reduceSub,Nat.reduceMul,Int.reduceToNat,reduceCtorEq,↓reduceIte,Int.reducePow,Nat.reducePow,Int.reduceMod,Nat.reduceLeDiff,Int.reduceLE,Int.reduceNe,Int.reduceEq,Nat.reduceEqDiff,Nat.reduceLT,Nat.reduceBEq,List.map_cons,List.map_nil,List.toList_toArray,Array.toList_append,Option.toArray_some,Option.toArray_none,Bool.and_self,ty,Srspar,rsparPl,rbuildS,hlp,hml,d3,hids2,hcl,hx1,hu,hle1,htk,fillS]
       have hdle : decide (0 + i ≤ ((spD l).map ent).length) = true := decide_eq_true (by omega)
       have hL1 : ((spD l).map ent).length ≤ 100000 := by omega
       have hLe : ((spD l).map ent).length = es.length := by rw [List.length_map,spD_len,hlq]
       have hcc : ∀ h,coe ty 44 (.sg 3 ((spD l).map ent) h) = .sg 3 ((spD l).map ent) h := fun h => by cases (spD l) <;> rfl
       obtain ⟨X,hX⟩ : ∃ X,bldI v (spD l) = X := ⟨_,rfl⟩
       obtain ⟨G,hG⟩ : ∃ G,decide (es.length = 0) = G := ⟨_,rfl⟩
       rw [hX,hG]
       have hiX := zef X.es
       refine ⟨_,zfo 6 3 5 ((spD l).map ent) rfl hcl (by simp [slot,AV.ids]),?_⟩
       simp only [fgL,fgH,AV.fg,Blk.fg,Nat.reduceBEq,cond_true,cond_false,hdle,Bool.and_true,beq_self_eq_true,Bool.true_and,List.drop_zero,htk]
       simp only [go_sem,zag,Nat.reduceAdd,Nat.reduceSub,Nat.reduceMul,Int.reduceToNat,reduceCtorEq,↓reduceIte,Int.reducePow,Nat.reducePow,Int.reduceMod,Nat.reduceLeDiff,Int.reduceLE,Int.reduceNe,Int.reduceEq,Nat.reduceEqDiff,Nat.reduceLT,Nat.reduceBEq,List.map_cons,List.map_nil,List.toList_toArray,Array.toList_append,Option.toArray_some,Option.toArray_none,Bool.and_self,ty,Srspar,rsparPl,rbuildS,hcc,hLe,hle1,hx1,hu,hX,hG,hiX,fillS]
       refine ⟨by omega,_,Weak.refl _,?_⟩
       simp only [go_sem,zag,Nat.reduceAdd,Nat.reduceSub,Nat.reduceMul,Int.reduceToNat,reduceCtorEq,↓reduceIte,Int.reducePow,Nat.reducePow,Int.reduceMod,Nat.reduceLeDiff,Int.reduceLE,Int.reduceNe,Int.reduceEq,Nat.reduceEqDiff,Nat.reduceLT,Nat.reduceBEq,List.map_cons,List.map_nil,List.toList_toArray,Array.toList_append,Option.toArray_some,Option.toArray_none,Bool.and_self,ty,hiX,fillS,hlp]
 · exact hp.elim
end
end Go.Proofs.Ytlcijldkdpmknaa
namespace Go.Proofs.Ytlcijldkdpmknaa
open Ax
def okL : Int → List Bat → Prop
 | _,[] => True
 | a,x :: r => bE x = 0 ∧ a ≤ x.b ∧ okL (nxB x) r
theorem chkL_ok : ∀ (l : List Bat) (a : Int),chkL a l = 0 ↔ okL a l
 | [],a => by simp [chkL,okL]
 | x :: r,a => by
   unfold chkL okL
   by_cases h1 : bE x = 0
   · rw [if_pos h1]
     by_cases h2 : x.b < a
     · rw [if_pos h2]; constructor
       · intro h; omega
       · rintro ⟨_,h,_⟩; omega
     · rw [if_neg h2,chkL_ok r]
       exact ⟨fun h => ⟨h1,by omega,h⟩,fun h => h.2.2⟩
   · rw [if_neg h1]
     exact ⟨fun h => (h1 h).elim,fun h => (h1 h.1).elim⟩
theorem chkG_ok {B : Int} {l : List Bat} (h : chkG B l = 0) : 0 ≤ B ∧ okL B l := by
 unfold chkG at h
 split at h
 · omega
 · rename_i h1
   exact ⟨by omega,(chkL_ok l B).1 h⟩
section
set_option maxRecDepth 100000
set_option maxHeartbeats 4000000 in
end
end Go.Proofs.Ytlcijldkdpmknaa
namespace Go.Proofs.Ytlcijldkdpmknaa
open Ax
theorem bLess : ∀ (x y : List UInt8),Op.bytesLess x y = decide (x < y)
 | [],[] => by simp [Op.bytesLess]
 | _ :: _,[] => by simp [Op.bytesLess]
 | [],_ :: _ => by simp [Op.bytesLess]
 | a :: x,b :: y => by
   rw [Op.bytesLess,bLess x y]
   by_cases h : a < b
   · simp [h,List.cons_lt_cons_iff]
   · by_cases e : a = b <;> simp [h,e,List.cons_lt_cons_iff]
def srtT (l : List (List UInt8)) : Prop := l.Pairwise (· < ·)
theorem take_lt {k : List UInt8} {l : List (List UInt8)} : ∀ x ∈ l.take (plT k l),x < k := by
 intro x hx
 obtain ⟨i,hi,rfl⟩ := List.mem_take_iff_getElem.1 hx
 have := List.not_of_lt_findIdx (p := naT k) (xs := l) (i := i) (by unfold plT at hi; omega)
 unfold naT at this
 rw [bLess] at this
 simpa using this
theorem row_ge {k : List UInt8} {l : List (List UInt8)} (h : plT k l < l.length) : ¬ l[plT k l] < k := by
 have h2 : naT k l[plT k l] = true := List.findIdx_getElem (w := h)
 unfold naT at h2
 rw [bLess] at h2
 simpa using h2
theorem rowT_at {k : List UInt8} {l : List (List UInt8)} (h : plT k l < l.length) : rowT k l = l[plT k l] := by
 unfold rowT; rw [List.getD_eq_getElem?_getD,List.getElem?_eq_getElem h]; rfl
theorem drop_ge {k : List UInt8} {l : List (List UInt8)} (hs : srtT l) : ∀ x ∈ l.drop (plT k l),¬ x < k := by
 intro x hx
 have hl : plT k l < l.length := by
   have := List.length_pos_of_mem hx
   rw [List.length_drop] at this; omega
 rw [List.drop_eq_getElem_cons hl] at hx
 have hd : srtT (l.drop (plT k l)) := hs.sublist (List.drop_sublist _ _)
 rw [List.drop_eq_getElem_cons hl] at hd
 have h0 := row_ge hl
 rcases List.mem_cons.1 hx with rfl | h
 · exact h0
 · have h1 := (List.pairwise_cons.1 hd).1 x h
   intro h2
   exact h0 (List.lt_trans h1 h2)
theorem thT_mem {k : List UInt8} {l : List (List UInt8)} (hs : srtT l) : thT k l = true ↔ k ∈ l := by
 unfold thT
 constructor
 · intro h
   simp only [Bool.and_eq_true,decide_eq_true_eq] at h
   obtain ⟨h1,h2⟩ := h
   rw [rowT_at h1] at h2
   exact h2 ▸ List.getElem_mem h1
 · intro h
   have h3 : k ∈ l.drop (plT k l) := by
     rw [← List.take_append_drop (plT k l) l] at h
     rcases List.mem_append.1 h with h | h
     · exact (List.lt_irrefl k (take_lt k h)).elim
     · exact h
   have hl : plT k l < l.length := by
     have := List.length_pos_of_mem h3
     rw [List.length_drop] at this; omega
   have hd : srtT (l.drop (plT k l)) := hs.sublist (List.drop_sublist _ _)
   rw [List.drop_eq_getElem_cons hl] at hd h3
   have : l[plT k l] = k := by
     rcases List.mem_cons.1 h3 with h | h
     · exact h.symm
     · exact (row_ge hl ((List.pairwise_cons.1 hd).1 k h)).elim
   simp only [Bool.and_eq_true,decide_eq_true_eq]
   exact ⟨hl,by rw [rowT_at hl,this]⟩
theorem insT_perm (k : List UInt8) (l : List (List UInt8)) : (insT k l).Perm (k :: l) := by
 unfold insT
 refine List.perm_middle.trans ?_
 rw [List.take_append_drop]
theorem insT_srt {k : List UInt8} {l : List (List UInt8)} (hs : srtT l) (hn : k ∉ l) : srtT (insT k l) := by
 unfold insT srtT
 have h0 : srtT (l.take (plT k l) ++ l.drop (plT k l)) := by rw [List.take_append_drop]; exact hs
 obtain ⟨h1,h2,h3⟩ := List.pairwise_append.1 h0
 refine List.pairwise_append.2 ⟨h1,List.pairwise_cons.2 ⟨fun x hx => ?_,h2⟩,fun x hx y hy => ?_⟩
 · have := drop_ge hs x hx
   have hne : x ≠ k := fun e => hn (e ▸ List.mem_of_mem_drop hx)
   have hle : k ≤ x := List.not_lt.1 this
   exact Classical.byContradiction fun e => hne (List.le_antisymm (List.not_lt.1 e) hle)
 · rcases List.mem_cons.1 hy with rfl | h
   · exact take_lt x hx
   · exact h3 x hx y h
theorem dkR_ok {K : List (List UInt8)} {m : KM} (r : Rec) (hs : srtT K) (hp : K.Perm (ksM m)) : srtT (dkR K r) ∧ (dkR K r).Perm (ksM (cntR m r)) := by
 unfold dkR cntR
 by_cases hk : r.k = true
 · rw [if_pos hk,if_pos hk,ksM_ptK]
   by_cases hm : r.key ∈ K
   · rw [if_pos ((thT_mem hs).2 hm),if_pos (hp.mem_iff.1 hm)]
     exact ⟨hs,hp⟩
   · rw [if_neg (fun h => hm ((thT_mem hs).1 h)),if_neg (fun h => hm (hp.mem_iff.2 h))]
     refine ⟨insT_srt hs hm,(insT_perm _ _).trans ?_⟩
     exact (hp.cons r.key).trans (List.perm_append_singleton _ _).symm
 · rw [if_neg hk,if_neg hk]; exact ⟨hs,hp⟩
theorem dkB_ok : ∀ (rs : List Rec) {K : List (List UInt8)} {m : KM},srtT K → K.Perm (ksM m) → srtT (rs.foldl dkR K) ∧ (rs.foldl dkR K).Perm (ksM (rs.foldl cntR m))
 | [],_,_,hs,hp => ⟨hs,hp⟩
 | r :: rs,_,_,hs,hp => by
   obtain ⟨h1,h2⟩ := dkR_ok r hs hp
   exact dkB_ok rs h1 h2
theorem dkG_okA : ∀ (l : List Bat) {K : List (List UInt8)} {m : KM},srtT K → K.Perm (ksM m) → srtT (l.foldl dkB K) ∧ (l.foldl dkB K).Perm (ksM (l.foldl cntB m))
 | [],_,_,hs,hp => ⟨hs,hp⟩
 | x :: l,_,_,hs,hp => by
   obtain ⟨h1,h2⟩ := dkB_ok x.rs hs hp
   exact dkG_okA l h1 h2
theorem dkG_ok (l : List Bat) : srtT (dkG l) ∧ (dkG l).Perm (ksM (cntG l)) := dkG_okA l List.Pairwise.nil (List.Perm.refl _)
theorem keys_eq (l : List Bat) : zeq (ksM (cntG l)) = dkG l := by
 obtain ⟨hs,hp⟩ := dkG_ok l
 rw [← sortL_perm hp]
 have ht : ∀ (x y z : List UInt8),decide (x ≤ y) = true → decide (y ≤ z) = true → decide (x ≤ z) = true := fun x y z p q => by
   simp only [decide_eq_true_eq] at *
   exact List.le_trans p q
 have hc : ∀ (x y : List UInt8),(decide (x ≤ y) || decide (y ≤ x)) = true := fun x y => by
   simp only [Bool.or_eq_true,decide_eq_true_eq]
   exact List.le_total x y
 refine List.Perm.eq_of_pairwise (le := fun x y => decide (x ≤ y) = true) (fun x y _ _ h1 h2 => le_uu x y (of_decide_eq_true h1) (of_decide_eq_true h2)) (List.pairwise_mergeSort ht hc _) ?_ (List.mergeSort_perm _ _)
 exact hs.imp fun {x y} h => decide_eq_true (List.le_of_lt h)
theorem cntB_len : ∀ (rs : List Rec) (m : KM),(ksM (rs.foldl cntR m)).length ≤ (ksM m).length + rs.length
 | [],m => by simp
 | r :: rs,m => by
   have h1 := cntB_len rs (cntR m r)
   have h2 : (ksM (cntR m r)).length ≤ (ksM m).length + 1 := by
     unfold cntR
     split
     · rw [ksM_ptK]; split
       · omega
       · simp
     · omega
   simp only [List.foldl_cons,List.length_cons]; omega
theorem cntG_lenA : ∀ (l : List Bat) (m : KM),(∀ x ∈ l,x.rs.length ≤ 40) → (ksM (l.foldl cntB m)).length ≤ (ksM m).length + 40 * l.length
 | [],m,_ => by simp
 | x :: l,m,h => by
   have h1 := cntG_lenA l (cntB m x) fun y hy => h y (by simp [hy])
   have h2 := cntB_len x.rs m
   have h3 := h x (by simp)
   simp only [List.foldl_cons,List.length_cons]
   unfold cntB at *
   omega
theorem cntG_len (l : List Bat) (h : ∀ x ∈ l,x.rs.length ≤ 40) : (ksM (cntG l)).length ≤ 40 * l.length := by
 have := cntG_lenA l [] h
 simpa [cntG,ksM] using this
theorem okL_bE : ∀ (l : List Bat) (a : Int),okL a l → ∀ x ∈ l,bE x = 0
 | y :: r,a,h,x,hx => by
   rcases List.mem_cons.1 hx with rfl | hx
   · exact h.1
   · exact okL_bE r _ h.2.2 x hx
theorem newL_eqJ (rs : List Rec) (h : ∀ r ∈ rs,-1 ≤ r.t) : newL rs = newI rs (-1) := by
 cases rs with
 | nil => rfl
 | cons r rs =>
   have := h r (by simp)
   show List.foldl (fun a (r : Rec) => max a r.t) r.t (r :: rs) = List.foldl (fun a (r : Rec) => max a r.t) (-1) (r :: rs)
   rw [List.foldl_cons,List.foldl_cons,show max r.t r.t = r.t by omega,show max (-1) r.t = r.t by omega]
theorem timesJ {x : Bat} (h : bE x = 0) : ∀ r ∈ x.rs,-1 ≤ r.t := by
 obtain ⟨h1,h2,h3⟩ := bE_zero h
 obtain ⟨i1,i2,i3⟩ := layE_zero h2
 intro r hr
 have := rchk_zero (i1 r hr)
 omega
theorem newL_ok {l : List Bat} {a : Int} (h : okL a l) : ∀ x ∈ l,newL x.rs = newI x.rs (-1) := fun x hx => newL_eqJ _ (timesJ (okL_bE l a h x hx))
theorem newI_ge : ∀ (rs : List Rec) (a : Int),a ≤ newI rs a
 | [],a => Int.le_refl _
 | r :: rs,a => by
   have := newI_ge rs (max a r.t)
   show a ≤ newI rs (max a r.t)
   omega
theorem nwI_nwD : ∀ (l : List Bat) (a : Int),(∀ x ∈ l,newL x.rs = newI x.rs (-1)) → nwI l a = nwD l a
 | [],_,_ => rfl
 | x :: l,a,h => by
   have e := h x (by simp)
   have := nwI_nwD l (max a (newL x.rs)) fun y hy => h y (by simp [hy])
   rw [e] at this
   unfold nwI nwD at *
   rw [List.foldl_cons,List.foldl_cons,e]
   exact this
theorem nwG_nwD {l : List Bat} (h : ∀ x ∈ l,newL x.rs = newI x.rs (-1)) : nwG l = nwD l (-1) := by
 cases l with
 | nil => rfl
 | cons x r =>
   have e := h x (by simp)
   have g := newI_ge x.rs (-1)
   show nwI (x :: r) (newL x.rs) = nwD (x :: r) (-1)
   rw [nwI_nwD _ _ h,e]
   show List.foldl _ (max (newI x.rs (-1)) (newI x.rs (-1))) r = List.foldl _ (max (-1) (newI x.rs (-1))) r
   rw [show max (newI x.rs (-1)) (newI x.rs (-1)) = max (-1) (newI x.rs (-1)) by omega]
theorem spL_spD {l : List Bat} (h : ∀ x ∈ l,newL x.rs = newI x.rs (-1)) : spL l = spD l := by
 unfold spL spD
 refine List.map_congr_left fun p hp => ?_
 have : p.1 ∈ l := by
   obtain ⟨i,hi,e⟩ := List.mem_iff_getElem.1 hp
   subst e
   rw [List.getElem_zipIdx]
   exact List.getElem_mem _
 simp only [h _ this]
end Go.Proofs.Ytlcijldkdpmknaa
