/- That what is said of abstract values holds of the model: append, by kinds of elements. -/
import Derived.Test.YtgkkgbomhfdbkaaAxO
namespace Go.Proofs.Ytgkkgbomhfdbkaa
namespace Ax
set_option linter.unusedSimpArgs false
set_option linter.unusedVariables false
section ops
variable {P : Program}

theorem seen_empty {w : World} {loc : Loc} {a : Option Addr} {cap s : Nat} (hc : cap ≤ maxLen) : Seen w loc (.slice a 0 cap) 0 s [] := ⟨⟨a, cap, rfl, Nat.zero_le _, hc, .inl rfl⟩, by simp⟩

theorem appendB_post {w0 : World} {E : Nat → Prop} {w : World} {loc : Loc} {H : Heap} (he : Env w0 E w loc) (hh : HR w loc H) {nm : Nat} (hf : loc.m nm = .free)
    {t u : TypeId} {ty : TypeId} {e : TypeId} {te : TyI} {du : TypeDesc} (hd : P.underlying t = some (.slice e)) (hty : TyR P e te) (hu : P.underlying u = some du) (hdu : ∀ k, du ≠ .int k) {v vx : Value} {d : AV} {ys : List UInt8}
    (hs : te.size = 1) (hb : te.bytes ≤ 1024) (hv : R w loc d v) (hx : Src P w loc vx ys.length te.size (ys.map fun b => .w (byte b))) (hp : (appendB nm d ys H).p) :
    ∃ u' w' loc', (Builtin.append_ #[t, u] ty #[v, vx]).run P w = .ok u' w' ∧ Post w0 E w loc true nm (appendB nm d ys H).x (appendB nm d ys H).H u' w' loc' := by
  unfold appendB at hp ⊢
  unfold top at hp
  cases hv with
  | sb bs full a cap hdm hc =>
    simp only at hp ⊢
    obtain ⟨h1, h2, h3⟩ := hp
    have hcap := hdm.full h1
    subst hcap
    have := grow_full (P := P) (ty := ty) he hh hf hd hty hu hdu hb hx (a := a) (n := bs.length) (cells_seen hdm hc (bytes_cellsOf bs) (by rw [hs]; simp) (by omega)) (by
      rcases h2 with h | h
      · left; rw [h]; rfl
      · right; exact List.length_pos_iff.2 h) h3 (blk := .b (bs ++ ys)) trivial (by simp [Blk.flat]) hs.symm (by simp [Blk.len])
    rw [hs] at this
    exact this
  | sg s xs full a cap cs hdm hls hc hl hxs h =>
    cases xs with
    | nil =>
      simp only at hp ⊢
      obtain ⟨h1, h3⟩ := hp
      have hcap := hdm.full h1
      simp at hcap
      subst hcap
      have := grow_full (P := P) (ty := ty) he hh hf hd hty hu hdu hb hx (a := a) (n := 0) (fd := []) (seen_empty (Nat.zero_le _)) (.inl rfl) (by omega) (blk := .b ys) trivial (by simp [Blk.flat]) hs.symm (by simp [Blk.len])
      rw [hs] at this
      simpa using this
    | cons => simp [bad] at hp
  | ms id s off len v h =>
    simp only at hp ⊢
    cases hl : look H id with
    | none => simp [hl, bad] at hp
    | some blk =>
      cases blk with
      | b bs =>
        simp only [hl] at hp ⊢
        obtain ⟨rfl, rfl, rfl, h3⟩ := hp
        have := grow_ms (P := P) (ty := ty) he hh hf hd hty hu hdu hb hx hl (n := bs.length) (by rw [hs]; exact h) rfl (by rw [hs]; rfl) h3 (blk' := .b (bs ++ ys)) trivial (by simp [Blk.flat]) hs.symm (by simp [Blk.len])
        rw [hs] at this
        exact this
      | i ns => simp [hl, bad] at hp
      | g s xs => simp [hl, bad] at hp
  | _ => simp [bad] at hp

theorem appendI_post {w0 : World} {E : Nat → Prop} {w : World} {loc : Loc} {H : Heap} (he : Env w0 E w loc) (hh : HR w loc H) {nm : Nat} (hf : loc.m nm = .free)
    {t u : TypeId} {ty : TypeId} {e : TypeId} {te : TyI} {du : TypeDesc} (hd : P.underlying t = some (.slice e)) (hty : TyR P e te) (hu : P.underlying u = some du) (hdu : ∀ k, du ≠ .int k) {v vx : Value} {d : AV} {ys : List Int}
    (hs : te.size = 1) (hb : te.bytes ≤ 1024) (hv : R w loc d v) (hx : Src P w loc vx ys.length te.size (ys.map fun b => .w (word b))) (hp : (appendI nm d ys H).p) :
    ∃ u' w' loc', (Builtin.append_ #[t, u] ty #[v, vx]).run P w = .ok u' w' ∧ Post w0 E w loc true nm (appendI nm d ys H).x (appendI nm d ys H).H u' w' loc' := by
  unfold appendI at hp ⊢
  unfold top at hp
  cases hv with
  | si bs full a cap hdm hc =>
    simp only at hp ⊢
    obtain ⟨h1, h2, h3⟩ := hp
    have hcap := hdm.full h1
    subst hcap
    have := grow_full (P := P) (ty := ty) he hh hf hd hty hu hdu hb hx (a := a) (n := bs.length) (cells_seen hdm hc (words_cellsOf bs) (by rw [hs]; simp) (by omega)) (by
      rcases h2 with h | h
      · left; rw [h]; rfl
      · right; exact List.length_pos_iff.2 h) h3 (blk := .i (bs ++ ys)) trivial (by simp [Blk.flat]) hs.symm (by simp [Blk.len])
    rw [hs] at this
    exact this
  | sg s xs full a cap cs hdm hls hc hl hxs h =>
    cases xs with
    | nil =>
      simp only at hp ⊢
      obtain ⟨h1, h3⟩ := hp
      have hcap := hdm.full h1
      simp at hcap
      subst hcap
      have := grow_full (P := P) (ty := ty) he hh hf hd hty hu hdu hb hx (a := a) (n := 0) (fd := []) (seen_empty (Nat.zero_le _)) (.inl rfl) (by omega) (blk := .i ys) trivial (by simp [Blk.flat]) hs.symm (by simp [Blk.len])
      rw [hs] at this
      simpa using this
    | cons => simp [bad] at hp
  | ms id s off len v h =>
    simp only at hp ⊢
    cases hl : look H id with
    | none => simp [hl, bad] at hp
    | some blk =>
      cases blk with
      | i bs =>
        simp only [hl] at hp ⊢
        obtain ⟨rfl, rfl, rfl, h3⟩ := hp
        have := grow_ms (P := P) (ty := ty) he hh hf hd hty hu hdu hb hx hl (n := bs.length) (by rw [hs]; exact h) rfl (by rw [hs]; rfl) h3 (blk' := .i (bs ++ ys)) trivial (by simp [Blk.flat]) hs.symm (by simp [Blk.len])
        rw [hs] at this
        exact this
      | b ns => simp [hl, bad] at hp
      | g s xs => simp [hl, bad] at hp
  | _ => simp [bad] at hp

theorem appendG_post {w0 : World} {E : Nat → Prop} {w : World} {loc : Loc} {H : Heap} (he : Env w0 E w loc) (hh : HR w loc H) {nm : Nat} (hf : loc.m nm = .free)
    {t u : TypeId} {ty : TypeId} {e : TypeId} {te : TyI} {du : TypeDesc} (hd : P.underlying t = some (.slice e)) (hty : TyR P e te) (hu : P.underlying u = some du) (hdu : ∀ k, du ≠ .int k) {v vx : Value} {d : AV} {ys : List AV}
    (hs : 0 < te.size) (hb : te.bytes ≤ 1024) (hv : R w loc d v) (hx : Src P w loc vx ys.length te.size (ys.flatMap AV.leaves)) (hyl : ∀ y ∈ ys, y.leaves.length = te.size) (hp : (appendG te.size nm d ys H).p) :
    ∃ u' w' loc', (Builtin.append_ #[t, u] ty #[v, vx]).run P w = .ok u' w' ∧ Post w0 E w loc true nm (appendG te.size nm d ys H).x (appendG te.size nm d ys H).H u' w' loc' := by
  unfold appendG at hp ⊢
  unfold top at hp
  cases hv with
  | sg s xs full a cap cs hdm hls hc hl hxs h =>
    simp only at hp ⊢
    obtain ⟨h1, h2, h3⟩ := hp
    have hcap := hdm.full h1
    subst hcap
    have hlx : ∀ y ∈ xs ++ ys, y.leaves.length = te.size := by
      intro y hy
      rcases List.mem_append.1 hy with hy | hy
      · rcases h2 with rfl | ⟨rfl, _⟩
        · simp at hy
        · exact hls y hy
      · exact hyl y hy
    have hseen : Seen w loc (.slice a xs.length xs.length) xs.length te.size (xs.flatMap AV.leaves) := by
      rcases h2 with rfl | ⟨rfl, _⟩
      · exact seen_empty hdm.top
      · refine cells_seen hdm hc ⟨hl, fun j hj => (hxs j hj).1, h⟩ ?_ hs
        have := flat_len (blk := .g te.size xs) ⟨hs, hls⟩
        simp only [Blk.flat, Blk.len, Blk.size] at this
        rw [← hl, this]
    exact grow_full (P := P) (ty := ty) he hh hf hd hty hu hdu hb hx hseen (by
      rcases h2 with h | h
      · left; rw [h]; rfl
      · right; exact List.length_pos_iff.2 h.2) h3 (blk := .g te.size (xs ++ ys)) ⟨hs, hlx⟩ (by simp [Blk.flat]) rfl (by simp [Blk.len])
  | ms id s off len v h =>
    simp only at hp ⊢
    cases hl : look H id with
    | none => simp [hl, bad] at hp
    | some blk =>
      cases blk with
      | g s'' xs =>
        simp only [hl] at hp ⊢
        obtain ⟨rfl, rfl, rfl, rfl, h3⟩ := hp
        have hfr : loc.m id ≠ .free := by intro e; simp [Owns, e] at h
        obtain ⟨hok, _⟩ := hh.get hl hfr
        exact grow_ms (P := P) (ty := ty) he hh hf hd hty hu hdu hb hx hl (n := xs.length) h rfl rfl h3 (blk' := .g te.size (xs ++ ys)) ⟨hs, fun y hy => by
          rcases List.mem_append.1 hy with hy | hy
          · exact hok.2 y hy
          · exact hyl y hy⟩ (by simp [Blk.flat]) rfl (by simp [Blk.len])
      | i ns => simp [hl, bad] at hp
      | b xs => simp [hl, bad] at hp
  | _ => simp [bad] at hp

theorem run_zero8 {e : TypeId} {te : TyI} (hty : TyR P e te) (hz : te.zero = [.w (.int .u8 0)]) (hs : te.size = 1) (w : World) : ∃ z, (zeroValue e).run P w = .ok z w ∧ z.cells = #[.int .u8 0] := by
  obtain ⟨z, h1, h2, h3⟩ := run_zeroValue' hty w
  refine ⟨z, h1, ?_⟩
  have hc := (h3 w ⟨fun _ => .free, fun _ => False⟩).1
  rw [hz] at hc
  have hl := hc.len
  have := (hc.r 0 (by simp) (by rw [← hl]; simp)).wv
  rw [← Array.toList_inj]
  refine List.ext_getElem (by rw [← hl]; rfl) fun j a b => ?_
  have : j = 0 := by simp at b; omega
  subst this
  simpa using ‹_ = _›

theorem zeroCells8 (n : Nat) : Builtin.zeroCells #[.int .u8 0] n = Array.replicate n (.int .u8 0) := by
  apply Array.ext
  · simp [Builtin.zeroCells]
  · intro j h1 h2
    simp [Builtin.zeroCells, Nat.mod_one]

theorem first_zeros (m n : Nat) (h : m ≤ n) (w : World) : (Builtin.firstCells 1 m (.string ⟨(List.replicate n (0 : UInt8)).toArray⟩)).run P w = .ok (Array.replicate m (.int .u8 0)) w := by
  simp only [Builtin.firstCells, Sem.run_pure]
  congr 1
  rw [ByteArray.extract_mk]
  apply Array.ext
  · simp; omega
  · intro j h1 h2
    simp

/-- Appending zeros is appending a text of them. -/
theorem run_append_zeros {t u : TypeId} {ty : TypeId} {e : TypeId} {te : TyI} {ku : IntKind} (hd : P.underlying t = some (.slice e)) (hty : TyR P e te) (hu : P.underlying u = some (.int ku)) (hz : te.zero = [.w (.int .u8 0)]) (hs : te.size = 1) (hb : te.bytes ≤ 1024) {w : World} {v : Value} {n : Nat} {kk : IntKind}
    (hn : n ≤ 4294967296) (hv : ∀ a l c, v = .slice a l c → l ≤ c ∧ l + n ≤ 4294967296) :
    (Builtin.append_ #[t, u] ty #[v, .int kk n]).run P w = (Builtin.append_ #[t, t] ty #[v, .string ⟨(List.replicate n (0 : UInt8)).toArray⟩]).run P w := by
  cases v with
  | slice a l c =>
    obtain ⟨hlc, hln⟩ := hv a l c rfl
    obtain ⟨inf, zz, i1, i2, i3, i4, _⟩ := hty.info
    have hsz : ∀ W, (sizeOf e).run P W = .ok te.size W := fun W => run_sizeOf' hty W
    have hti : ∀ W, (typeInfo e).run P W = .ok inf W := fun W => run_typeInfo' i1 W
    have hw : IntKind.i64.wrap (n : Int) = n := by rw [IntKind.wrap_i64]; omega
    have h48 : ¬ ((n : Int) * (te.bytes : Int) > 2 ^ 48) := by
      have : n * te.bytes ≤ 4294967296 * 1024 := Nat.mul_le_mul hn hb
      have h2 : ((n * te.bytes : Nat) : Int) = (n : Int) * (te.bytes : Int) := by simp
      omega
    have h0 : ¬ ((n : Int) < 0) := by omega
    have hsb : (ByteArray.mk (List.replicate n (0 : UInt8)).toArray).size = n := by simp [ByteArray.size]
    have hmax : IntKind.i64.max = 9223372036854775807 := by decide
    have h63 : ¬ (((l + n : Nat) : Int) > IntKind.i64.max) := by rw [hmax]; omega
    have hfirst := fun W => first_zeros (P := P) n n (Nat.le_refl _) W
    have happ : ∀ W, (if n * te.size = 0 then pure #[] else do let z ← zeroValue e; pure (Builtin.zeroCells z.cells n) : Sem (Array Value)).run P W = .ok (Array.replicate n (.int .u8 0)) W := by
      intro W
      by_cases hn0 : n = 0
      · subst hn0; simp
      · obtain ⟨z, z1, z2⟩ := run_zero8 (P := P) hty hz hs W
        rw [if_neg (by rw [hs]; omega)]
        simp only [Sem.run_bind, z1, Result.andThen_ok, Sem.run_pure, z2, zeroCells8]
    rw [hs] at happ hsz
    by_cases hroom : l + n ≤ c
    · unfold Builtin.append_
      simp only [List.getElem?_toArray, List.getElem?_cons_zero, List.getElem?_cons_succ, Sem.run_bind, run_underlying hd, run_underlying hu, Result.andThen_ok, hsz, Sem.run_pure, if_true, asInt, asIntOf, hw, if_neg h0, hti, i3, if_neg h48, Int.toNat_natCast, Bool.false_eq_true, if_false, Builtin.lenOf, hsb, if_pos hroom, Bool.not_true, Bool.not_false, happ, hs, hfirst]
    · have hlim : ¬ Builtin.nextslicecap (l + n) c * te.bytes > 2 ^ 48 := by
        have a1 := next_le hln (by omega : c ≤ l + n)
        have a2 : Builtin.nextslicecap (l + n) c * te.bytes ≤ (4294967296 + 768) * 16 * 1024 := Nat.mul_le_mul a1 hb
        omega
      unfold Builtin.append_
      simp only [List.getElem?_toArray, List.getElem?_cons_zero, List.getElem?_cons_succ, Sem.run_bind, run_underlying hd, run_underlying hu, Result.andThen_ok, hsz, Sem.run_pure, if_true, asInt, asIntOf, hw, if_neg h0, hti, i3, if_neg h48, Int.toNat_natCast, Bool.false_eq_true, if_false, Builtin.lenOf, hsb, if_neg hroom, Bool.not_true, Bool.not_false, happ, hs, hfirst, h63, false_and, if_neg hlim]
  | _ => rfl

theorem append_post {w0 : World} {E : Nat → Prop} {w : World} {loc : Loc} {H : Heap} {T : Types} (hT : TOk P T) (he : Env w0 E w loc) (hh : HR w loc H) {nm : Nat} (hf : loc.m nm = .free) {ts : List TypeId} {ty : TypeId} {d x : AV} {v vx : Value} (hv : R w loc d v) (hx : R w loc x vx) (hp : (aAppend T nm ts d x H).p) :
    ∃ u' w' loc', (Builtin.append_ ts.toArray ty #[v, vx]).run P w = .ok u' w' ∧ Post w0 E w loc true nm (aAppend T nm ts d x H).x (aAppend T nm ts d x H).H u' w' loc' := by
  unfold aAppend at hp ⊢
  split at hp
  · rename_i t u
    cases ht : T t with
    | none => simp [ht, bad] at hp
    | some ti =>
      cases htu : T u with
      | none => simp [ht, htu, bad] at hp
      | some tu =>
        simp only [ht, htu] at hp ⊢
        have hd := (hT t ti ht).d
        have hud := (hT u tu htu).d
        cases hdd : ti.d with
        | slice e =>
          simp only [hdd] at hp ⊢
          rw [hdd] at hd
          have hd : P.underlying t = some (.slice e) := hd
          cases hte : T e with
          | none => simp [hte, bad] at hp
          | some te =>
            simp only [hte] at hp ⊢
            have hty := hT _ te hte
            have slice_u : ∀ e', tu.d = .slice e' → P.underlying u = some (.slice e') := fun e' h => by rw [h] at hud; exact hud
            have caseB : (∀ e', tu.d = .slice e' → ((appendB nm d (viewB H x).2 H).and (te.size = 1 ∧ te.bytes ≤ 1024 ∧ (viewB H x).1)).p → ∃ u' w' loc', (Builtin.append_ #[t, u] ty #[v, vx]).run P w = .ok u' w' ∧ Post w0 E w loc true nm (appendB nm d (viewB H x).2 H).x (appendB nm d (viewB H x).2 H).H u' w' loc') := by
              intro e' h1 ⟨⟨h2, h3, h4⟩, h5⟩
              have := src_seen (P := P) (viewB_sound hh hx h4)
              rw [← h2] at this
              exact appendB_post (P := P) he hh hf hd hty (slice_u e' h1) (by simp) h2 h3 hv this h5
            have caseI : (∀ e', tu.d = .slice e' → ((appendI nm d (viewI H x).2 H).and (te.size = 1 ∧ te.bytes ≤ 1024 ∧ (viewI H x).1)).p → ∃ u' w' loc', (Builtin.append_ #[t, u] ty #[v, vx]).run P w = .ok u' w' ∧ Post w0 E w loc true nm (appendI nm d (viewI H x).2 H).x (appendI nm d (viewI H x).2 H).H u' w' loc') := by
              intro e' h1 ⟨⟨h2, h3, h4⟩, h5⟩
              have := src_seen (P := P) (viewI_sound hh hx h4)
              rw [← h2] at this
              exact appendI_post (P := P) he hh hf hd hty (slice_u e' h1) (by simp) h2 h3 hv this h5
            have caseG : (∀ e', tu.d = .slice e' → ((appendG te.size nm d (viewG te.size H x).2 H).and (0 < te.size ∧ te.bytes ≤ 1024 ∧ (viewG te.size H x).1)).p → ∃ u' w' loc', (Builtin.append_ #[t, u] ty #[v, vx]).run P w = .ok u' w' ∧ Post w0 E w loc true nm (appendG te.size nm d (viewG te.size H x).2 H).x (appendG te.size nm d (viewG te.size H x).2 H).H u' w' loc') := by
              intro e' h1 ⟨⟨h2, h3, h4⟩, h5⟩
              obtain ⟨s1, s2⟩ := viewG_sound h2 hh hx h4
              exact appendG_post (P := P) he hh hf hd hty (slice_u e' h1) (by simp) h2 h3 hv (src_seen (P := P) s1) s2 h5
            have gen : (match tu.d with | .slice _ => (appendG te.size nm d (viewG te.size H x).2 H).and (0 < te.size ∧ te.bytes ≤ 1024 ∧ (viewG te.size H x).1) | _ => bad).p → ∃ u' w' loc', (Builtin.append_ #[t, u] ty #[v, vx]).run P w = .ok u' w' ∧ Post w0 E w loc true nm (match tu.d with | .slice _ => (appendG te.size nm d (viewG te.size H x).2 H).and (0 < te.size ∧ te.bytes ≤ 1024 ∧ (viewG te.size H x).1) | _ => bad).x (match tu.d with | .slice _ => (appendG te.size nm d (viewG te.size H x).2 H).and (0 < te.size ∧ te.bytes ≤ 1024 ∧ (viewG te.size H x).1) | _ => bad).H u' w' loc' := by
              cases htd : tu.d with
              | slice e' => exact fun h => caseG e' htd h
              | _ => exact fun h => h.elim
            obtain ⟨d8, hd8⟩ : ∃ d, te.d = d := ⟨_, rfl⟩
            rw [hd8] at hp ⊢
            cases d8 with
            | int kk =>
              cases kk with
              | u8 =>
                simp only at hp ⊢
                cases htd : tu.d with
                | slice e' => rw [htd] at hp; exact caseB e' htd hp
                | str =>
                  rw [htd] at hp hud
                  have hud : P.underlying u = some .string := hud
                  simp only at hp ⊢
                  cases hx with
                  | str bs =>
                    simp only at hp ⊢
                    obtain ⟨⟨h2, h3⟩, h5⟩ := hp
                    exact appendB_post (P := P) he hh hf hd hty hud (by simp) h2 h3 hv (by rw [h2]; exact src_string bs) h5
                  | _ => exact hp.elim
                | int ku =>
                  rw [htd] at hp hud
                  have hud : P.underlying u = some (.int ku) := hud
                  simp only at hp ⊢
                  cases hx with
                  | w _ h0 =>
                    cases vx with
                    | int kk n =>
                      simp only at hp ⊢
                      obtain ⟨⟨h2, h3, h6, h7⟩, h5⟩ := hp
                      obtain ⟨m, rfl⟩ := Int.eq_ofNat_of_zero_le h7
                      rw [Int.toNat_natCast] at h5 ⊢
                      have hlen : (List.replicate m (0 : UInt8)).length = m := List.length_replicate
                      have hsrc := src_string (P := P) (w := w) (loc := loc) (List.replicate m (0 : UInt8))
                      obtain ⟨u', w', loc', r1, r2⟩ := appendB_post (P := P) (ty := ty) (u := t) he hh hf hd hty hd (by simp) h2 h3 hv (by rw [h2]; exact hsrc) h5
                      refine ⟨u', w', loc', ?_, r2⟩
                      rw [← r1]
                      have hbd : m ≤ 4294967296 ∧ ∀ a l c, v = .slice a l c → l ≤ c ∧ l + m ≤ 4294967296 := by
                        unfold appendB top at h5
                        cases hv with
                        | sb bs full a cap hdm hc =>
                          simp only [hlen] at h5
                          refine ⟨by omega, fun a l c e => ?_⟩
                          injection e with _ e1 e2
                          subst e1 e2
                          exact ⟨hdm.le, h5.2.2⟩
                        | sg s xs full a cap cs hdm hls hc hl hxs h =>
                          cases xs with
                          | nil =>
                            simp only [hlen] at h5
                            refine ⟨by omega, fun a l c e => ?_⟩
                            injection e with _ e1 e2
                            subst e1 e2
                            exact ⟨hdm.le, by simp; omega⟩
                          | cons => simp [bad] at h5
                        | ms id s off len v h =>
                          simp only at h5
                          cases hlk : look H id with
                          | none => simp [hlk, bad] at h5
                          | some blk =>
                            cases blk with
                            | b bs =>
                              simp only [hlk, hlen] at h5
                              refine ⟨by omega, fun a l c e => ?_⟩
                              have hfr : loc.m id ≠ .free := by intro e; simp [Owns, e] at h
                              obtain ⟨_, hn | ⟨b, hb, _⟩⟩ := hh.get hlk hfr
                              · unfold Owns at h; rw [hn.1] at h
                                obtain ⟨h8, a', h9⟩ := h
                                rw [e] at h9; injection h9 with _ e1 e2
                                omega
                              · unfold Owns at h; rw [hb] at h
                                obtain ⟨o, cap, cur, el, fz, h8, h9, h10, h11, h12, h13⟩ := h
                                rw [e] at h8; injection h8 with _ e1 e2
                                omega
                            | i ns => simp [hlk, bad] at h5
                            | g s xs => simp [hlk, bad] at h5
                        | _ => simp [bad] at h5
                      exact run_append_zeros (P := P) hd hty hud h6 h2 h3 hbd.1 hbd.2
                    | _ => exact hp.elim
                  | _ => exact hp.elim
                | _ => rw [htd] at hp; exact hp.elim
              | i64 =>
                simp only at hp ⊢
                cases htd : tu.d with
                | slice e' => rw [htd] at hp; exact caseI e' htd hp
                | _ => rw [htd] at hp; exact hp.elim
              | _ => exact gen hp
            | _ => exact gen hp
        | _ => simp [hdd, bad] at hp
  · exact hp.elim

/-- The source of a copy: its first bytes. -/
structure SrcN (P : Program) (w : World) (v : Value) (bs : List UInt8) : Prop where
  len : (Builtin.lenOf v).run P w = .ok bs.length w
  first : ∀ n, n ≤ bs.length → (Builtin.firstCells 1 n v).run P w = .ok ((bs.take n).map byte).toArray w

theorem srcB_sound {w : World} {loc : Loc} {H : Heap} (hh : HR w loc H) {x : AV} {v : Value} (hx : R w loc x v) (hp : (srcB H x).1) : SrcN P w v (srcB H x).2 := by
  have gen : ∀ bs : List UInt8, Seen w loc v bs.length 1 (bs.map fun b => .w (byte b)) → SrcN P w v bs := by
    intro bs h
    obtain ⟨a, cap, rfl, _, _, h0 | ⟨b, o, cs, rfl, _, hcl, hc, hco⟩⟩ := h.seen
    · have : bs = [] := List.length_eq_zero_iff.1 h0
      subst this
      refine ⟨by simp [Builtin.lenOf], fun n hn => ?_⟩
      have : n = 0 := by simpa using hn
      subst this
      cases a <;> simp [Builtin.firstCells, loadCells, loadCellsFrom]
    · have hcs := seen_bytes hco
      subst hcs
      refine ⟨by simp [Builtin.lenOf], fun n hn => ?_⟩
      simp only [Builtin.firstCells, Nat.mul_one]
      have := run_loads (P := P) (w := w) (b := b) (o := o) (cs := (bs.take n).map byte) (fun j hj => by
        have := hc j (by simp at hj ⊢; omega)
        simpa using this)
      rw [show ((bs.take n).map byte).length = n by simp; omega] at this
      exact this
  unfold srcB at hp ⊢
  split at hp
  · rename_i bs
    cases hx
    refine ⟨by simp [Builtin.lenOf, ByteArray.size], fun n hn => ?_⟩
    simp only [Builtin.firstCells, Sem.run_pure]
    congr 1
    rw [ByteArray.extract_mk]
    apply Array.ext
    · simp
    · intro j h1 h2
      simp [byte]
  · exact gen _ (viewB_sound hh hx hp)

theorem hr_put_same {w : World} {loc : Loc} {H : Heap} (hh : HR w loc H) {id : Nat} {blk : Blk} (hl : look H id = some blk) : HR w loc (put H id blk) := by
  intro k b hk
  rw [look_put] at hk
  split at hk
  · rename_i hi; subst hi
    injection hk with hk; subst hk
    exact hh id blk hl
  · exact hh k b hk

theorem copyL_length (bs ys : List UInt8) {off len n : Nat} (hn : min ys.length len = n) (hle : off + n ≤ bs.length) : (bs.take off ++ (ys.take len ++ bs.drop (off + n))).length = bs.length := by
  simp; omega
theorem copyL_get (bs ys : List UInt8) {off len n : Nat} (hn : min ys.length len = n) (hle : off + n ≤ bs.length) (j : Nat) (hjb : j < bs.length) (hj : j < (bs.take off ++ (ys.take len ++ bs.drop (off + n))).length) :
    (bs.take off ++ (ys.take len ++ bs.drop (off + n)))[j] = if h : off ≤ j ∧ j < off + n then ys[j - off]'(by omega) else bs[j] := by
  have hl := copyL_length bs ys hn hle
  have h1 : (bs.take off).length = off := by simp; omega
  have h2 : (ys.take len).length = n := by simp; omega
  by_cases ha : j < off
  · rw [List.getElem_append_left (by omega), dif_neg (by omega)]; simp
  · rw [List.getElem_append_right (by omega)]
    by_cases hb : j < off + n
    · rw [List.getElem_append_left (by omega), dif_pos (by omega)]; simp [h1]
    · rw [List.getElem_append_right (by omega), dif_neg (by omega)]
      simp only [List.getElem_drop]
      congr 1
      omega

theorem copy_post {w0 : World} {E : Nat → Prop} {w : World} {loc : Loc} {H : Heap} {T : Types} (hT : TOk P T) (he : Env w0 E w loc) (hh : HR w loc H) {nm : Nat} {ts : List TypeId} {ty : TypeId} {d x : AV} {v vx : Value} (hv : R w loc d v) (hx : R w loc x vx) (hp : (aCopy T ts d x H).p) :
    ∃ u' w', (Builtin.copy_ ts.toArray ty #[v, vx]).run P w = .ok u' w' ∧ Post w0 E w loc true nm (aCopy T ts d x H).x (aCopy T ts d x H).H u' w' loc := by
  unfold aCopy at hp ⊢
  cases ts with
  | nil => exact hp.elim
  | cons t ts =>
    cases ht : T t with
    | none => simp [ht, bad] at hp
    | some ti =>
      simp only [ht] at hp ⊢
      have hd := (hT t ti ht).d
      cases hdd : ti.d with
      | slice e =>
        simp only [hdd] at hp ⊢
        rw [hdd] at hd
        have hd : P.underlying t = some (.slice e) := hd
        cases hte : T e with
        | none => simp [hte, bad] at hp
        | some te =>
          simp only [hte] at hp ⊢
          have hty := hT _ te hte
          cases hv with
          | ms id s off len v h =>
            simp only at hp ⊢
            cases hl : look H id with
            | none => simp [hl, bad] at hp
            | some blk =>
              cases blk with
              | b bs =>
                simp only [hl] at hp ⊢
                obtain ⟨hs1, rfl, hle, htop, hsrc⟩ := hp
                obtain ⟨l1, l2⟩ := srcB_sound (P := P) hh hx hsrc
                generalize (srcB H x).2 = ys at l1 l2 ⊢
                simp only [Out.and]
                have hfr : loc.m id ≠ .free := by intro e; simp [Owns, e] at h
                obtain ⟨hok, hn | ⟨b, hb, hlies⟩⟩ := hh.get hl hfr
                · unfold Owns at h; rw [hn.1] at h
                  obtain ⟨h1, a, rfl⟩ := h
                  subst h1
                  have hbs : bs = [] := List.length_eq_zero_iff.1 hn.2
                  subst hbs
                  have h0 := l2 0 (Nat.zero_le _)
                  refine ⟨goInt 0, w, ?_, ?_⟩
                  · unfold Builtin.copy_
                    have hm : Nat.min ys.length 0 = 0 := Nat.min_zero _
                    simp only [List.getElem?_toArray, List.getElem?_cons_zero, List.getElem?_cons_succ, Sem.run_bind, run_underlying hd, Result.andThen_ok, l1, run_sizeOf' hty, hs1, hm, h0, Sem.run_pure]
                    cases a <;> simp [storeCells]
                  · have := Post.pure (w0 := w0) (E := E) (wr := true) (nm := nm) (x := .w (word 0)) (v := goInt 0) (.w _ rfl) (hr_put_same hh hl) he
                    simpa using this
                · obtain ⟨cur, e1, fz, hheap, hfz, hone, hlen, hr⟩ := hlies.lies
                  unfold Owns at h; rw [hb] at h
                  obtain ⟨o, cap, cur0, e0, fz0, rfl, ho, hh0, hsz0, hlc, htp⟩ := h
                  obtain ⟨n, hn⟩ : ∃ n, min ys.length len = n := ⟨_, rfl⟩
                  have hm : Nat.min ys.length len = n := hn
                  have h0 := l2 n (by omega)
                  rw [hn]
                  have hrun : ∀ w', (storeCells ⟨b, o, none⟩ ((ys.take n).map byte)).run P w = .ok () w' → (Builtin.copy_ (t :: ts).toArray ty #[.slice (some ⟨b, o, none⟩) len cap, vx]).run P w = .ok (goInt n) w' := by
                    intro w' hst
                    unfold Builtin.copy_
                    simp only [List.getElem?_toArray, List.getElem?_cons_zero, List.getElem?_cons_succ, Sem.run_bind, run_underlying hd, Result.andThen_ok, l1, run_sizeOf' hty, hs1, hm, h0, Sem.run_pure, hst]
                  by_cases hn0 : n = 0
                  · subst hn0
                    have e1 : ys.take len = [] := by
                      rcases Nat.eq_zero_or_pos len with h | h
                      · rw [h]; rfl
                      · have : ys = [] := List.length_eq_zero_iff.1 (by omega)
                        rw [this]; simp
                    refine ⟨goInt 0, w, hrun w rfl, ?_⟩
                    have := Post.pure (w0 := w0) (E := E) (wr := true) (nm := nm) (x := .w (word 0)) (v := goInt 0) (.w _ rfl) (hr_put_same hh hl) he
                    simpa [e1] using this
                  · have ho := ho (by omega)
                    rw [Nat.mul_one] at ho
                    subst ho
                    have hfl : (Blk.b bs).flat.length = bs.length := by simp [Blk.flat]
                    obtain ⟨w', cur', r1, r2, r3, r4, r5, r6, r7, r8, r9⟩ := run_storeCells' (P := P) b o e1 fz ((ys.take n).map byte) 0 cur w hheap (fz_free hfz) (by simp; omega) (by intro v hv; obtain ⟨c, _, rfl⟩ := List.mem_map.1 hv; rfl)
                    refine ⟨goInt n, w', hrun w' r1, ?_⟩
                    have hcl := copyL_length bs ys (off := o) (len := len) (n := n) hn (by omega)
                    have hcg := copyL_get bs ys (off := o) (len := len) (n := n) hn (by omega)
                    generalize bs.take o ++ (ys.take len ++ bs.drop (o + n)) = B at hcl hcg ⊢
                    have hBf : (Blk.b B).flat.length = bs.length := by simp [Blk.flat, hcl]
                    refine post_write he hh hb hheap r2 r3 r4 r5 r6 r7 r8 trivial hfz ?_ (by rw [hBf, r3, ← hfl]; exact hlen) ?_ (fun _ _ => .w _ rfl)
                    · intro j hj
                      have := r9 j (by rw [← r3]; exact hj)
                      rw [Array.getElem?_eq_getElem hj] at this
                      split at this
                      · rw [List.getElem?_eq_getElem (by omega)] at this
                        injection this with this
                        rw [this]; simp [byte, one]
                      · rw [Array.getElem?_eq_getElem (by rw [← r3]; exact hj)] at this
                        injection this with this
                        rw [this]; exact hone j _
                    · intro j hj hj'
                      have h9 := r9 j (by rw [← r3]; exact hj')
                      rw [Array.getElem?_eq_getElem hj'] at h9
                      have hjb : j < bs.length := by rw [hBf] at hj; exact hj
                      simp only [Blk.flat, List.getElem_map]
                      refine ⟨rfl, ?_⟩
                      rw [hcg j hjb (by rw [hcl]; exact hjb)]
                      have hyl : ((ys.take n).map byte).length = n := by simp; omega
                      by_cases hc : o ≤ j ∧ j < o + n
                      · rw [dif_pos hc]
                        rw [if_pos (by omega), List.getElem?_eq_getElem (by omega)] at h9
                        injection h9 with h9
                        rw [h9]
                        simp only [List.getElem_map, List.getElem_take, Nat.add_zero]
                        exact .w _ rfl
                      · rw [dif_neg hc]
                        rw [if_neg (by omega), Array.getElem?_eq_getElem (by rw [← r3]; exact hj')] at h9
                        injection h9 with h9
                        rw [h9]
                        have := (hr j (by rw [hfl]; exact hjb) (by rw [← r3]; exact hj')).2
                        simpa [Blk.flat] using this
              | i ns => simp [hl, bad] at hp
              | g s xs => simp [hl, bad] at hp
          | _ => exact hp.elim
      | _ => simp [hdd, bad] at hp

end ops
end Ax
end Go.Proofs.Ytgkkgbomhfdbkaa
