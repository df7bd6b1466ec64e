/- Layer 3: records, as plain lists: what is put is got. -/
import Derived.Test.YthmkhlmohjcbgaaR4
namespace Go.Proofs.Ythmkhlmohjcbgaa
open Ax
set_option linter.unusedSimpArgs false
set_option linter.unusedVariables false

theorem fix1_cons (c : UInt8) (r : List UInt8) : rfixN 1 (c :: r) 0 = c.toNat ∧ rfixL 1 (c :: r) 0 = r ∧ rfixE 1 (c :: r) 0 = 0 := by
  have h1 : clampI 1 = 1 := by decide
  have h2 : ¬ (((c :: r).length : Int) < 1) := by simp; omega
  refine ⟨?_, ?_, ?_⟩
  · unfold rfixN tkB
    rw [if_pos rfl, h1, if_neg h2]
    simp [last8, unfL]
  · unfold rfixL tkL
    rw [if_pos rfl, h1, if_neg h2]
    simp
  · unfold rfixE tkE
    rw [if_pos rfl, h1, if_neg h2]

theorem num_put (n : Int) (h1 : -9223372036854775808 ≤ n) (h2 : n ≤ 9223372036854775807) (r : List UInt8) :
    numN (putU (zz n).toNat ++ r) 0 = n ∧ numL (putU (zz n).toNat ++ r) 0 = r ∧ numE (putU (zz n).toNat ++ r) 0 = 0 := by
  have hz := zz_range n h1 h2
  have hg := getL_put (zz n).toNat (by omega) r
  have hc : (((zz n).toNat : Nat) : Int) = zz n := by omega
  rw [hc, zg_zz] at hg
  unfold numN numL numE
  rw [if_pos rfl, if_pos rfl, if_pos rfl, hg]
  exact ⟨rfl, by simp, rfl⟩

theorem zz_len (n : Nat) : (zz (n : Int)).toNat = 2 * n := by unfold zz; rw [if_pos (by omega)]; omega

theorem text_put (m : Int) (s r : List UInt8) (hm : (s.length : Int) ≤ m) (hs : s.length ≤ 1000000) :
    rtS' m (textL s ++ r) 0 = s ∧ rtL m (textL s ++ r) 0 = r ∧ rtE m (textL s ++ r) 0 = 0 := by
  obtain ⟨h1, h2, h3⟩ := num_put (s.length : Int) (by omega) (by omega) (s ++ r)
  rw [zz_len] at h1 h2 h3
  have e : textL s ++ r = putU (2 * s.length) ++ (s ++ r) := by unfold textL; rw [List.append_assoc]
  have hok : rtOk m (textL s ++ r) 0 := by unfold rtOk; rw [e, h1, h3]; omega
  have hl : ¬ (((s ++ r).length : Int) < (s.length : Int)) := by simp; omega
  unfold rtS' rtL rtE
  rw [if_pos hok, if_pos hok, if_pos hok, e, h1, h2, h3]
  unfold tkB tkL tkE
  rw [if_neg hl, if_neg hl, if_neg hl]
  simp

theorem num_cut (u : Nat) (hu : u < 18446744073709551616) : numE ((putU u).take ((putU u).length - 1)) 0 ≠ 0 := by
  unfold numE
  rw [if_pos rfl, getL_cut u hu]
  decide

theorem text_cut (m : Int) (s : List UInt8) (hm : (s.length : Int) ≤ m) (hs : s.length ≤ 1000000) : rtE m ((textL s).take ((textL s).length - 1)) 0 ≠ 0 := by
  have hp := putU_pos (2 * s.length)
  rcases s with _ | ⟨c, q⟩
  · have e : textL [] = putU 0 := by unfold textL; simp
    rw [e]
    have := num_cut 0 (by omega)
    unfold rtE
    rw [if_pos this]
    exact this
  · obtain ⟨x, hx⟩ : ∃ x, (c :: q).take ((c :: q).length - 1) = x := ⟨_, rfl⟩
    have hxl : x.length = q.length := by rw [← hx]; simp
    have e : (textL (c :: q)).take ((textL (c :: q)).length - 1) = putU (2 * (c :: q).length) ++ x := by
      unfold textL
      rw [List.length_append, List.take_append, List.take_of_length_le (by simp)]
      congr 1
      rw [← hx]
      congr 1
      simp
    obtain ⟨h1, h2, h3⟩ := num_put ((c :: q).length : Int) (by omega) (by omega) x
    rw [zz_len] at h1 h2 h3
    have hok : rtOk m (putU (2 * (c :: q).length) ++ x) 0 := by unfold rtOk; rw [h1, h3]; omega
    rw [e]
    unfold rtE
    rw [h3, if_neg (by simp), if_pos hok, h1, h2]
    unfold tkE
    rw [if_pos (by simp; omega)]
    decide

theorem flag_toNat (k dd : Bool) : (UInt8.ofNat (flagI k dd).toNat).toNat = (flagI k dd).toNat := by
  cases k <;> cases dd <;> rfl

/-- What is read behind the first byte. -/
theorem g_head (d t : Int) (hd : 0 ≤ d ∧ d ≤ 31) (ht : 0 ≤ t ∧ t ≤ 1099511627776) (k dd : Bool) (r bs : List UInt8) (hbs : bs = UInt8.ofNat (flagI k dd).toNat :: (putU (zz d).toNat ++ (putU (zz t).toNat ++ r))) :
    g0 bs 0 = (flagI k dd).toNat ∧ gk bs 0 = k ∧ gdd bs 0 = dd ∧ gd bs 0 = d ∧ gt bs 0 = t ∧ gb3 bs 0 = r ∧ ge3 bs 0 = 0 := by
  subst hbs
  obtain ⟨a1, a2, a3⟩ := fix1_cons (UInt8.ofNat (flagI k dd).toNat) (putU (zz d).toNat ++ (putU (zz t).toNat ++ r))
  obtain ⟨b1, b2, b3⟩ := num_put d (by omega) (by omega) (putU (zz t).toNat ++ r)
  obtain ⟨c1, c2, c3⟩ := num_put t (by omega) (by omega) r
  generalize hB : UInt8.ofNat (flagI k dd).toNat :: (putU (zz d).toNat ++ (putU (zz t).toNat ++ r)) = B at *
  have h0 : g0 B 0 = (flagI k dd).toNat := by unfold g0; rw [a1, flag_toNat, Int.toNat_natCast]
  have hb1 : gb1 B 0 = putU (zz d).toNat ++ (putU (zz t).toNat ++ r) := a2
  have he1 : ge1 B 0 = 0 := a3
  have hb2 : gb2 B 0 = putU (zz t).toNat ++ r := by unfold gb2; rw [hb1, he1, b2]
  have he2 : ge2 B 0 = 0 := by unfold ge2; rw [hb1, he1, b3]
  refine ⟨h0, ?_, ?_, by unfold gd; rw [hb1, he1, b1], by unfold gt; rw [hb2, he2, c1], by unfold gb3; rw [hb2, he2, c2], by unfold ge3; rw [hb2, he2, c3]⟩
  · unfold gk; rw [h0]; cases k <;> cases dd <;> rfl
  · unfold gdd; rw [h0]; cases k <;> cases dd <;> rfl

theorem rchk_zero {d t : Int} {k : Bool} {key : List UInt8} {dd : Bool} {val : List UInt8} (h : rchk d t k key dd val = 0) :
    (0 ≤ d ∧ d ≤ 31) ∧ (0 ≤ t ∧ t ≤ 1099511627776) ∧ key.length ≤ 64 ∧ val.length ≤ 512 ∧ (k = false → key = [] ∧ dd = false) ∧ (dd = true → val = []) := by
  rcases rchk_cases d t k key dd val with ⟨e, _⟩ | ⟨e, _⟩ | ⟨e, _⟩ | ⟨_, h1, h2, h3⟩
  · omega
  · omega
  · omega
  · unfold rA at h1
    unfold rB at h2
    unfold rC at h3
    refine ⟨by omega, by omega, by omega, by omega, fun hk => ?_, fun hd => ?_⟩
    · refine ⟨?_, ?_⟩
      · apply Classical.byContradiction; intro hne; exact h3 (.inl ⟨hk, .inl hne⟩)
      · cases dd with
        | false => rfl
        | true => exact (h3 (.inl ⟨hk, .inr rfl⟩)).elim
    · apply Classical.byContradiction; intro hne; exact h3 (.inr ⟨hd, hne⟩)

/-- What is put is got, and what stands behind it is left. -/
theorem get_put (d t : Int) (k : Bool) (key : List UInt8) (dd : Bool) (val : List UInt8) (z : List UInt8) (h : rchk d t k key dd val = 0) :
    gerr (recL d t k key dd val ++ z) 0 = 0 ∧ grec (recL d t k key dd val ++ z) 0 = recV d t k key dd val ∧ gb5 (recL d t k key dd val ++ z) 0 = z ∧ ge5 (recL d t k key dd val ++ z) 0 = 0 := by
  obtain ⟨h1, h2, h3, h4, h5, h6⟩ := rchk_zero h
  obtain ⟨B, hB⟩ : ∃ B, recL d t k key dd val ++ z = B := ⟨_, rfl⟩
  have hform : B = UInt8.ofNat (flagI k dd).toNat :: (putU (zz d).toNat ++ (putU (zz t).toNat ++ ((if k then textL key else []) ++ ((if dd then [] else textL val) ++ z)))) := by
    rw [← hB]; unfold recL; simp
  obtain ⟨q0, q1, q2, q3, q4, q5, q6⟩ := g_head d t h1 h2 k dd _ B hform
  rw [hB]
  have r4 : gkey B 0 = key ∧ gb4 B 0 = (if dd then [] else textL val) ++ z ∧ ge4 B 0 = 0 := by
    unfold gkey gb4 ge4
    rw [q1, q5, q6]
    cases k with
    | true =>
      obtain ⟨t1, t2, t3⟩ := text_put 64 key ((if dd then [] else textL val) ++ z) (by omega) (by omega)
      exact ⟨t1, t2, t3⟩
    | false => exact ⟨(h5 rfl).1.symm, rfl, rfl⟩
  obtain ⟨r1, r2, r3⟩ := r4
  have r5 : gval B 0 = val ∧ gb5 B 0 = z ∧ ge5 B 0 = 0 := by
    unfold gval gb5 ge5
    rw [q2, r2, r3]
    cases dd with
    | false =>
      obtain ⟨t1, t2, t3⟩ := text_put 512 val z (by omega) (by omega)
      exact ⟨t1, t2, t3⟩
    | true => exact ⟨(h6 rfl).symm, rfl, rfl⟩
  obtain ⟨s1, s2, s3⟩ := r5
  have hf : ¬ 4 ≤ (flagI k dd).toNat := by cases k <;> cases dd <;> decide
  have he : gerr B 0 = 0 := by
    unfold gerr
    rw [s3, if_neg (by simp), q0, q1, q2, q3, q4, r1, s1, h, if_neg]
    rintro (h | h)
    · exact hf h
    · exact h rfl
  refine ⟨he, ?_, s2, s3⟩
  unfold grec
  rw [if_pos he, q1, q2, q3, q4, r1, s1]

theorem rec_pos (d t : Int) (k : Bool) (key : List UInt8) (dd : Bool) (val : List UInt8) : 0 < (recL d t k key dd val).length := by unfold recL; simp

theorem take_last (p q : List UInt8) (h : 0 < q.length) : (p ++ q).take ((p ++ q).length - 1) = p ++ q.take (q.length - 1) := by
  rw [List.length_append, List.take_append, List.take_of_length_le (by omega)]
  congr 2
  omega

/-- Without its last byte it is none. -/
theorem get_cut (d t : Int) (k : Bool) (key : List UInt8) (dd : Bool) (val : List UInt8) (h : rchk d t k key dd val = 0) :
    gerr ((recL d t k key dd val).take ((recL d t k key dd val).length - 1)) 0 ≠ 0 := by
  obtain ⟨h1, h2, h3, h4, h5, h6⟩ := rchk_zero h
  have key1 : ∀ (r : List UInt8), 0 < r.length → ∀ B, B = (UInt8.ofNat (flagI k dd).toNat :: (putU (zz d).toNat ++ (putU (zz t).toNat ++ r))).take ((UInt8.ofNat (flagI k dd).toNat :: (putU (zz d).toNat ++ (putU (zz t).toNat ++ r))).length - 1) →
      B = UInt8.ofNat (flagI k dd).toNat :: (putU (zz d).toNat ++ (putU (zz t).toNat ++ r.take (r.length - 1))) := by
    rintro r hr B rfl
    have := take_last (UInt8.ofNat (flagI k dd).toNat :: (putU (zz d).toNat ++ putU (zz t).toNat)) r hr
    simpa using this
  have tl : ∀ s : List UInt8, 0 < (textL s).length := fun s => by unfold textL; have := putU_pos (2 * s.length); rw [List.length_append]; omega
  have fin : ∀ B, ge5 B 0 ≠ 0 → gerr B 0 ≠ 0 := fun B hb => by unfold gerr; rw [if_pos hb]; exact hb
  generalize hB : (recL d t k key dd val).take ((recL d t k key dd val).length - 1) = B
  refine fin B ?_
  cases dd with
  | false =>
    have e : recL d t k key false val = UInt8.ofNat (flagI k false).toNat :: (putU (zz d).toNat ++ (putU (zz t).toNat ++ ((if k then textL key else []) ++ textL val))) := by unfold recL; simp
    have hB2 := key1 ((if k then textL key else []) ++ textL val) (by rw [List.length_append]; have := tl val; omega) B (by rw [← hB, e])
    rw [take_last _ _ (tl val)] at hB2
    obtain ⟨q0, q1, q2, q3, q4, q5, q6⟩ := g_head d t h1 h2 k false _ B hB2
    have r2 : gb4 B 0 = (textL val).take ((textL val).length - 1) ∧ ge4 B 0 = 0 := by
      unfold gb4 ge4
      rw [q1, q5, q6]
      cases k with
      | true =>
        obtain ⟨t1, t2, t3⟩ := text_put 64 key ((textL val).take ((textL val).length - 1)) (by omega) (by omega)
        exact ⟨t2, t3⟩
      | false => exact ⟨rfl, rfl⟩
    unfold ge5
    rw [q2, r2.1, r2.2]
    exact text_cut 512 val (by omega) (by omega)
  | true =>
    have hk : k = true := by
      cases k with
      | true => rfl
      | false => exact absurd (h5 rfl).2 (by simp)
    subst hk
    have e : recL d t true key true val = UInt8.ofNat (flagI true true).toNat :: (putU (zz d).toNat ++ (putU (zz t).toNat ++ textL key)) := by unfold recL; simp
    have hB2 := key1 (textL key) (tl key) B (by rw [← hB, e])
    obtain ⟨q0, q1, q2, q3, q4, q5, q6⟩ := g_head d t h1 h2 true true _ B hB2
    unfold ge5 ge4
    rw [q2, q1, q5, q6]
    exact text_cut 64 key (by omega) (by omega)

theorem recV_inj {d t : Int} {k : Bool} {key : List UInt8} {dd : Bool} {val : List UInt8} {d' t' : Int} {k' : Bool} {key' : List UInt8} {dd' : Bool} {val' : List UInt8} (h : recV d t k key dd val = recV d' t' k' key' dd' val') :
    sameB d t k key dd val d' t' k' key' dd' val' = true := by
  unfold recV at h
  simp only [AV.agg.injEq, List.cons.injEq, AV.w.injEq, AV.str.injEq, Value.int.injEq, Value.bool.injEq, true_and, and_true] at h
  obtain ⟨rfl, rfl, rfl, rfl, rfl, rfl⟩ := h
  unfold sameB; simp
theorem sameB_eq {d t : Int} {k : Bool} {key : List UInt8} {dd : Bool} {val : List UInt8} {d' t' : Int} {k' : Bool} {key' : List UInt8} {dd' : Bool} {val' : List UInt8} (h : sameB d t k key dd val d' t' k' key' dd' val' = true) :
    d = d' ∧ t = t' ∧ k = k' ∧ key = key' ∧ dd = dd' ∧ val = val' := by
  unfold sameB at h; simpa using h

/-- No one's bytes are the beginning of another one's. -/
theorem rec_prefix {d t : Int} {k : Bool} {key : List UInt8} {dd : Bool} {val : List UInt8} {d' t' : Int} {k' : Bool} {key' : List UInt8} {dd' : Bool} {val' : List UInt8} (h : rchk d t k key dd val = 0) (h' : rchk d' t' k' key' dd' val' = 0)
    (z : List UInt8) (e : recL d' t' k' key' dd' val' = recL d t k key dd val ++ z) : sameB d t k key dd val d' t' k' key' dd' val' = true := by
  have h1 := (get_put d t k key dd val z h).2.1
  have h2 := (get_put d' t' k' key' dd' val' [] h').2.1
  rw [List.append_nil, e, h1] at h2
  exact recV_inj h2
end Go.Proofs.Ythmkhlmohjcbgaa
