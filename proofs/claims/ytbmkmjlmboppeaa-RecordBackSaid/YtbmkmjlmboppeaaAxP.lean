/- That what is said of abstract values holds of the model: append, by kinds of elements. -/
import Derived.Test.YtbmkmjlmboppeaaAxO
namespace Go.Proofs.Ytbmkmjlmboppeaa
namespace Ax
set_option linter.unusedSimpArgs false
set_option linter.unusedVariables false
section ops
variable {P : Program}

theorem seen_empty {w : World} {loc : Loc} {a : Option Addr} {cap s : Nat} (hc : cap ≤ maxLen) : Seen w loc (.slice a 0 cap) 0 s [] := ⟨⟨a, cap, rfl, Nat.zero_le _, hc, .inl rfl⟩, by simp⟩

theorem appendB_post {w0 : World} {E : Nat → Prop} {w : World} {loc : Loc} {H : Heap} (he : Env w0 E w loc) (hh : HR w loc H) {nm : Nat} (hf : loc.m nm = .free)
    {t u : TypeId} {ty : TypeId} {e : TypeId} {te : TyI} {du : TypeDesc} (hd : P.underlying t = some (.slice e)) (hty : TyR P e te) (hu : P.underlying u = some du) (hdu : ∀ k, du ≠ .int k) {v vx : Value} {d : AV} {ys : List UInt8}
    (hs : te.size = 1) (hb : te.bytes ≤ 1024) (hv : R w loc d v) (hx : Src P w loc vx ys.length te.size (ys.map fun b => .w (byte b))) (hp : (appendB nm d ys H).p) :
    ∃ u' w' loc', (Builtin.append_ #[t, u] ty #[v, vx]).run P w = .ok u' w' ∧ Post w0 E w loc true nm (appendB nm d ys H).x (appendB nm d ys H).H u' w' loc' := by
  unfold appendB at hp ⊢
  unfold top at hp
  cases hv with
  | sb bs full a cap hdm hc =>
    simp only at hp ⊢
    obtain ⟨h1, h2, h3⟩ := hp
    have hcap := hdm.full h1
    subst hcap
    have := grow_full (P := P) (ty := ty) he hh hf hd hty hu hdu hb hx (a := a) (n := bs.length) (cells_seen hdm hc (bytes_cellsOf bs) (by rw [hs]; simp) (by omega)) (by
      rcases h2 with h | h
      · left; rw [h]; rfl
      · right; exact List.length_pos_iff.2 h) h3 (blk := .b (bs ++ ys)) trivial (by simp [Blk.flat]) hs.symm (by simp [Blk.len])
    rw [hs] at this
    exact this
  | sg s xs full a cap cs hdm hls hc hl hxs h =>
    cases xs with
    | nil =>
      simp only at hp ⊢
      obtain ⟨h1, h3⟩ := hp
      have hcap := hdm.full h1
      simp at hcap
      subst hcap
      have := grow_full (P := P) (ty := ty) he hh hf hd hty hu hdu hb hx (a := a) (n := 0) (fd := []) (seen_empty (Nat.zero_le _)) (.inl rfl) (by omega) (blk := .b ys) trivial (by simp [Blk.flat]) hs.symm (by simp [Blk.len])
      rw [hs] at this
      simpa using this
    | cons => simp [bad] at hp
  | ms id s off len v h =>
    simp only at hp ⊢
    cases hl : look H id with
    | none => simp [hl, bad] at hp
    | some blk =>
      cases blk with
      | b bs =>
        simp only [hl] at hp ⊢
        obtain ⟨rfl, rfl, rfl, h3⟩ := hp
        have := grow_ms (P := P) (ty := ty) he hh hf hd hty hu hdu hb hx hl (n := bs.length) (by rw [hs]; exact h) rfl (by rw [hs]; rfl) h3 (blk' := .b (bs ++ ys)) trivial (by simp [Blk.flat]) hs.symm (by simp [Blk.len])
        rw [hs] at this
        exact this
      | i ns => simp [hl, bad] at hp
      | g s xs => simp [hl, bad] at hp
  | _ => simp [bad] at hp

theorem appendI_post {w0 : World} {E : Nat → Prop} {w : World} {loc : Loc} {H : Heap} (he : Env w0 E w loc) (hh : HR w loc H) {nm : Nat} (hf : loc.m nm = .free)
    {t u : TypeId} {ty : TypeId} {e : TypeId} {te : TyI} {du : TypeDesc} (hd : P.underlying t = some (.slice e)) (hty : TyR P e te) (hu : P.underlying u = some du) (hdu : ∀ k, du ≠ .int k) {v vx : Value} {d : AV} {ys : List Int}
    (hs : te.size = 1) (hb : te.bytes ≤ 1024) (hv : R w loc d v) (hx : Src P w loc vx ys.length te.size (ys.map fun b => .w (word b))) (hp : (appendI nm d ys H).p) :
    ∃ u' w' loc', (Builtin.append_ #[t, u] ty #[v, vx]).run P w = .ok u' w' ∧ Post w0 E w loc true nm (appendI nm d ys H).x (appendI nm d ys H).H u' w' loc' := by
  unfold appendI at hp ⊢
  unfold top at hp
  cases hv with
  | si bs full a cap hdm hc =>
    simp only at hp ⊢
    obtain ⟨h1, h2, h3⟩ := hp
    have hcap := hdm.full h1
    subst hcap
    have := grow_full (P := P) (ty := ty) he hh hf hd hty hu hdu hb hx (a := a) (n := bs.length) (cells_seen hdm hc (words_cellsOf bs) (by rw [hs]; simp) (by omega)) (by
      rcases h2 with h | h
      · left; rw [h]; rfl
      · right; exact List.length_pos_iff.2 h) h3 (blk := .i (bs ++ ys)) trivial (by simp [Blk.flat]) hs.symm (by simp [Blk.len])
    rw [hs] at this
    exact this
  | sg s xs full a cap cs hdm hls hc hl hxs h =>
    cases xs with
    | nil =>
      simp only at hp ⊢
      obtain ⟨h1, h3⟩ := hp
      have hcap := hdm.full h1
      simp at hcap
      subst hcap
      have := grow_full (P := P) (ty := ty) he hh hf hd hty hu hdu hb hx (a := a) (n := 0) (fd := []) (seen_empty (Nat.zero_le _)) (.inl rfl) (by omega) (blk := .i ys) trivial (by simp [Blk.flat]) hs.symm (by simp [Blk.len])
      rw [hs] at this
      simpa using this
    | cons => simp [bad] at hp
  | ms id s off len v h =>
    simp only at hp ⊢
    cases hl : look H id with
    | none => simp [hl, bad] at hp
    | some blk =>
      cases blk with
      | i bs =>
        simp only [hl] at hp ⊢
        obtain ⟨rfl, rfl, rfl, h3⟩ := hp
        have := grow_ms (P := P) (ty := ty) he hh hf hd hty hu hdu hb hx hl (n := bs.length) (by rw [hs]; exact h) rfl (by rw [hs]; rfl) h3 (blk' := .i (bs ++ ys)) trivial (by simp [Blk.flat]) hs.symm (by simp [Blk.len])
        rw [hs] at this
        exact this
      | b ns => simp [hl, bad] at hp
      | g s xs => simp [hl, bad] at hp
  | _ => simp [bad] at hp

theorem appendG_post {w0 : World} {E : Nat → Prop} {w : World} {loc : Loc} {H : Heap} (he : Env w0 E w loc) (hh : HR w loc H) {nm : Nat} (hf : loc.m nm = .free)
    {t u : TypeId} {ty : TypeId} {e : TypeId} {te : TyI} {du : TypeDesc} (hd : P.underlying t = some (.slice e)) (hty : TyR P e te) (hu : P.underlying u = some du) (hdu : ∀ k, du ≠ .int k) {v vx : Value} {d : AV} {ys : List AV}
    (hs : 0 < te.size) (hb : te.bytes ≤ 1024) (hv : R w loc d v) (hx : Src P w loc vx ys.length te.size (ys.flatMap AV.leaves)) (hyl : ∀ y ∈ ys, y.leaves.length = te.size) (hp : (appendG te.size nm d ys H).p) :
    ∃ u' w' loc', (Builtin.append_ #[t, u] ty #[v, vx]).run P w = .ok u' w' ∧ Post w0 E w loc true nm (appendG te.size nm d ys H).x (appendG te.size nm d ys H).H u' w' loc' := by
  unfold appendG at hp ⊢
  unfold top at hp
  cases hv with
  | sg s xs full a cap cs hdm hls hc hl hxs h =>
    simp only at hp ⊢
    obtain ⟨h1, h2, h3⟩ := hp
    have hcap := hdm.full h1
    subst hcap
    have hlx : ∀ y ∈ xs ++ ys, y.leaves.length = te.size := by
      intro y hy
      rcases List.mem_append.1 hy with hy | hy
      · rcases h2 with rfl | ⟨rfl, _⟩
        · simp at hy
        · exact hls y hy
      · exact hyl y hy
    have hseen : Seen w loc (.slice a xs.length xs.length) xs.length te.size (xs.flatMap AV.leaves) := by
      rcases h2 with rfl | ⟨rfl, _⟩
      · exact seen_empty hdm.top
      · refine cells_seen hdm hc ⟨hl, fun j hj => (hxs j hj).1, h⟩ ?_ hs
        have := flat_len (blk := .g te.size xs) ⟨hs, hls⟩
        simp only [Blk.flat, Blk.len, Blk.size] at this
        rw [← hl, this]
    exact grow_full (P := P) (ty := ty) he hh hf hd hty hu hdu hb hx hseen (by
      rcases h2 with h | h
      · left; rw [h]; rfl
      · right; exact List.length_pos_iff.2 h.2) h3 (blk := .g te.size (xs ++ ys)) ⟨hs, hlx⟩ (by simp [Blk.flat]) rfl (by simp [Blk.len])
  | ms id s off len v h =>
    simp only at hp ⊢
    cases hl : look H id with
    | none => simp [hl, bad] at hp
    | some blk =>
      cases blk with
      | g s'' xs =>
        simp only [hl] at hp ⊢
        obtain ⟨rfl, rfl, rfl, rfl, h3⟩ := hp
        have hfr : loc.m id ≠ .free := by intro e; simp [Owns, e] at h
        obtain ⟨hok, _⟩ := hh.get hl hfr
        exact grow_ms (P := P) (ty := ty) he hh hf hd hty hu hdu hb hx hl (n := xs.length) h rfl rfl h3 (blk' := .g te.size (xs ++ ys)) ⟨hs, fun y hy => by
          rcases List.mem_append.1 hy with hy | hy
          · exact hok.2 y hy
          · exact hyl y hy⟩ (by simp [Blk.flat]) rfl (by simp [Blk.len])
      | i ns => simp [hl, bad] at hp
      | b xs => simp [hl, bad] at hp
  | _ => simp [bad] at hp

theorem append_post {w0 : World} {E : Nat → Prop} {w : World} {loc : Loc} {H : Heap} {T : Types} (hT : TOk P T) (he : Env w0 E w loc) (hh : HR w loc H) {nm : Nat} (hf : loc.m nm = .free) {ts : List TypeId} {ty : TypeId} {d x : AV} {v vx : Value} (hv : R w loc d v) (hx : R w loc x vx) (hp : (aAppend T nm ts d x H).p) :
    ∃ u' w' loc', (Builtin.append_ ts.toArray ty #[v, vx]).run P w = .ok u' w' ∧ Post w0 E w loc true nm (aAppend T nm ts d x H).x (aAppend T nm ts d x H).H u' w' loc' := by
  unfold aAppend at hp ⊢
  split at hp
  · rename_i t u
    cases ht : T t with
    | none => simp [ht, bad] at hp
    | some ti =>
      cases htu : T u with
      | none => simp [ht, htu, bad] at hp
      | some tu =>
        simp only [ht, htu] at hp ⊢
        have hd := (hT t ti ht).d
        have hud := (hT u tu htu).d
        cases hdd : ti.d with
        | slice e =>
          simp only [hdd] at hp ⊢
          rw [hdd] at hd
          have hd : P.underlying t = some (.slice e) := hd
          cases hte : T e with
          | none => simp [hte, bad] at hp
          | some te =>
            simp only [hte] at hp ⊢
            have hty := hT _ te hte
            have slice_u : ∀ e', tu.d = .slice e' → P.underlying u = some (.slice e') := fun e' h => by rw [h] at hud; exact hud
            have caseB : (∀ e', tu.d = .slice e' → ((appendB nm d (viewB H x).2 H).and (te.size = 1 ∧ te.bytes ≤ 1024 ∧ (viewB H x).1)).p → ∃ u' w' loc', (Builtin.append_ #[t, u] ty #[v, vx]).run P w = .ok u' w' ∧ Post w0 E w loc true nm (appendB nm d (viewB H x).2 H).x (appendB nm d (viewB H x).2 H).H u' w' loc') := by
              intro e' h1 ⟨⟨h2, h3, h4⟩, h5⟩
              have := src_seen (P := P) (viewB_sound hh hx h4)
              rw [← h2] at this
              exact appendB_post (P := P) he hh hf hd hty (slice_u e' h1) (by simp) h2 h3 hv this h5
            have caseI : (∀ e', tu.d = .slice e' → ((appendI nm d (viewI H x).2 H).and (te.size = 1 ∧ te.bytes ≤ 1024 ∧ (viewI H x).1)).p → ∃ u' w' loc', (Builtin.append_ #[t, u] ty #[v, vx]).run P w = .ok u' w' ∧ Post w0 E w loc true nm (appendI nm d (viewI H x).2 H).x (appendI nm d (viewI H x).2 H).H u' w' loc') := by
              intro e' h1 ⟨⟨h2, h3, h4⟩, h5⟩
              have := src_seen (P := P) (viewI_sound hh hx h4)
              rw [← h2] at this
              exact appendI_post (P := P) he hh hf hd hty (slice_u e' h1) (by simp) h2 h3 hv this h5
            have caseG : (∀ e', tu.d = .slice e' → ((appendG te.size nm d (viewG te.size H x).2 H).and (0 < te.size ∧ te.bytes ≤ 1024 ∧ (viewG te.size H x).1)).p → ∃ u' w' loc', (Builtin.append_ #[t, u] ty #[v, vx]).run P w = .ok u' w' ∧ Post w0 E w loc true nm (appendG te.size nm d (viewG te.size H x).2 H).x (appendG te.size nm d (viewG te.size H x).2 H).H u' w' loc') := by
              intro e' h1 ⟨⟨h2, h3, h4⟩, h5⟩
              obtain ⟨s1, s2⟩ := viewG_sound h2 hh hx h4
              exact appendG_post (P := P) he hh hf hd hty (slice_u e' h1) (by simp) h2 h3 hv (src_seen (P := P) s1) s2 h5
            have gen : (match tu.d with | .slice _ => (appendG te.size nm d (viewG te.size H x).2 H).and (0 < te.size ∧ te.bytes ≤ 1024 ∧ (viewG te.size H x).1) | _ => bad).p → ∃ u' w' loc', (Builtin.append_ #[t, u] ty #[v, vx]).run P w = .ok u' w' ∧ Post w0 E w loc true nm (match tu.d with | .slice _ => (appendG te.size nm d (viewG te.size H x).2 H).and (0 < te.size ∧ te.bytes ≤ 1024 ∧ (viewG te.size H x).1) | _ => bad).x (match tu.d with | .slice _ => (appendG te.size nm d (viewG te.size H x).2 H).and (0 < te.size ∧ te.bytes ≤ 1024 ∧ (viewG te.size H x).1) | _ => bad).H u' w' loc' := by
              cases htd : tu.d with
              | slice e' => exact fun h => caseG e' htd h
              | _ => exact fun h => h.elim
            obtain ⟨d8, hd8⟩ : ∃ d, te.d = d := ⟨_, rfl⟩
            rw [hd8] at hp ⊢
            cases d8 with
            | int kk =>
              cases kk with
              | u8 =>
                simp only at hp ⊢
                cases htd : tu.d with
                | slice e' => rw [htd] at hp; exact caseB e' htd hp
                | str =>
                  rw [htd] at hp hud
                  have hud : P.underlying u = some .string := hud
                  simp only at hp ⊢
                  cases hx with
                  | str bs =>
                    simp only at hp ⊢
                    obtain ⟨⟨h2, h3⟩, h5⟩ := hp
                    exact appendB_post (P := P) he hh hf hd hty hud (by simp) h2 h3 hv (by rw [h2]; exact src_string bs) h5
                  | _ => exact hp.elim
                | _ => rw [htd] at hp; exact hp.elim
              | i64 =>
                simp only at hp ⊢
                cases htd : tu.d with
                | slice e' => rw [htd] at hp; exact caseI e' htd hp
                | _ => rw [htd] at hp; exact hp.elim
              | _ => exact gen hp
            | _ => exact gen hp
        | _ => simp [hdd, bad] at hp
  · exact hp.elim

end ops
end Ax
end Go.Proofs.Ytbmkmjlmboppeaa
