/- Plain facts: the real convert against the document's Widen and Narrow; compose against FromInt. -/
import Derived.Test.YtkgejncolchobaaShapeNum
namespace Go.Proofs.Ytkgejncolchobaa.nn

theorem widen_num {k x : Nat} (hk : kOk k) (hx : x < lim k) : cvO k 64 x = true ∧ cvV k 64 x = wdV k x := by
  have h2 : fr k x < hdn k := fr_lt (w := k) (x := x)
  have h1 := ex_lt (w := k) (x := x)
  have h3 : ex k x ≤ onz k := by unfold onz; omega
  have hf := hk.facts
  by_cases hn : k = 64
  · subst hn
    have hx' : x < 18446744073709551616 := hx
    rw [wd_64 hx']
    have hp := parts_jv hx'
    by_cases hi : ex 64 x = onz 64
    · have hz : Sm (fr 64 x) 0 (fr 64 x) 0 := Sm.refl _ _
      have hs := hz.shift (by omega)
      rw [show (0 : Int) - 0 = (fb 64 : Int) - (fb 64 : Int) by omega] at hs
      have e1 : cvO 64 64 x = true := by unfold cvO; rw [if_pos hi]; exact hs.1
      refine ⟨e1, ?_⟩
      unfold cvV
      rw [if_pos hi, e1, if_pos rfl, kv_jv, hs.2, ← hi]
      exact hp
    · unfold cvO cvV
      rw [if_neg hi, if_neg hi]
      rcases Nat.eq_zero_or_pos (aM 64 (ex 64 x) (fr 64 x)) with h0 | h0
      · obtain ⟨z1, z2⟩ := aM_zero hk h0
        rw [h0]
        refine ⟨(compose_none (neg := false)).1, ?_⟩
        rw [compose_none.2, kv_jv]
        rw [z1, z2] at hp
        exact hp
      · have hy := compose_yes hk h0 (by omega) h2 (Sm.refl _ _)
        refine ⟨hy.1, ?_⟩
        rw [hy.2, kv_jv]
        exact hp
  · have hw := hk.wd hn
    have hF := hw.f
    have hwd : wdV k x = jv (sg k x) (wX (bia k) (onz k + 1) (fb k) (ex k x) (fr k x)) (wM (onz k + 1) (fb k) (ex k x) (fr k x)) := by
      rcases hk with rfl | rfl | rfl
      · exact wd_16 x
      · exact wd_32 x
      · exact absurd rfl hn
    rw [hwd]
    by_cases hi : ex k x = onz k
    · have hl : fr k x * 2 ^ (52 - fb k) < 4503599627370496 := by
        rw [← b52, show 52 = fb k + (52 - fb k) by omega, Nat.pow_add, show fb k + (52 - fb k) - fb k = 52 - fb k by omega]
        exact Nat.mul_lt_mul_of_pos_right h2 (Nat.two_pow_pos _)
      have hz : Sm (fr k x) ((fb 64 : Int) - (fb k : Int)) (fr k x * 2 ^ (52 - fb k)) 0 := ⟨52 - fb k, 0, by rw [show fb 64 = 52 from rfl]; omega, by rw [Nat.pow_zero, Nat.mul_one]⟩
      have hs := hz.shift (by omega)
      rw [Int.sub_zero] at hs
      have e1 : cvO k 64 x = true := by unfold cvO; rw [if_pos hi]; exact hs.1
      refine ⟨e1, ?_⟩
      unfold cvV
      rw [if_pos hi, e1, if_pos rfl, kv_jv, hs.2]
      unfold wX wM
      rw [if_pos (by omega), if_pos (by omega)]
      rfl
    · obtain ⟨s1, s2, s3⟩ := wide_same hk hn (show ex k x < onz k by omega) h2
      unfold cvO cvV
      rw [if_neg hi, if_neg hi]
      rcases Nat.eq_zero_or_pos (aM k (ex k x) (fr k x)) with h0 | h0
      · obtain ⟨z1, z2⟩ := aM_zero hk h0
        rw [h0]
        refine ⟨(compose_none (neg := false)).1, ?_⟩
        rw [compose_none.2, kv_jv, z1, z2]
        unfold wX wM
        rw [if_neg (by omega), if_neg (by omega), if_neg (by omega), if_neg (by omega), if_neg (by omega)]
      · have hy := compose_yes k64 h0 s2 s3 s1
        refine ⟨hy.1, ?_⟩
        rw [hy.2, kv_jv]
theorem narrow_fin {j X' M' : Nat} (hj : kOk j) (hn : j ≠ 64) (hX : X' < 2047) (hM : M' < 4503599627370496) (S : Bool) :
    cmO j (aM 64 X' M') (aE 64 X') = nwO (xb j) (fb j) X' M' ∧ cmV j S (aM 64 X' M') (aE 64 X') = nwA (xb j) (fb j) S X' M' := by
  have hw := hj.wd hn
  have hbt := hj.bt
  rcases Nat.eq_zero_or_pos (aM 64 X' M') with h0 | h0
  · obtain ⟨rfl, rfl⟩ := aM_zero k64 h0
    rw [h0]
    have e1 : nwO (xb j) (fb j) 0 0 = true := by unfold nwO; dsimp only; rw [if_pos rfl]; rfl
    rw [e1, (compose_none (neg := false)).1, compose_none.2]
    refine ⟨rfl, ?_⟩
    unfold nwA nwV kv
    dsimp only
    rw [e1, if_pos rfl, if_pos rfl, Nat.zero_mul]
  · cases hO : nwO (xb j) (fb j) X' M' with
    | true =>
      obtain ⟨X, M, a1, a2, a3, a4, a5, _⟩ := hw.forth (by omega) hM hO
      have hX1 : X < onz j := by
        rcases Nat.lt_or_ge X (onz j) with h | h
        · exact h
        · have : X = onz j + 1 - 1 := by omega
          unfold wX at a4
          rw [if_pos this] at a4
          omega
      obtain ⟨s1, _, _⟩ := wide_same hj hn hX1 a2
      rw [a4, a5] at s1
      have hy := compose_yes hj h0 hX1 a2 s1.symm
      exact ⟨hy.1, by rw [hy.2, a3]⟩
    | false =>
      have hc : cmO j (aM 64 X' M') (aE 64 X') = false := by
        cases h : cmO j (aM 64 X' M') (aE 64 X') with
        | false => rfl
        | true =>
          obtain ⟨X, M, a1, a2, a3⟩ := compose_has hj h0 h
          obtain ⟨s1, s2, s3⟩ := wide_same hj hn a1 a2
          obtain ⟨w1, w2⟩ := one_way hX hM s2 s3 (a3.trans s1) h0
          have hb := (hw.back (X := X) (M := M) (by omega) a2 false).1
          rw [← w1, ← w2, hO] at hb
          exact absurd hb (by decide)
      refine ⟨hc, ?_⟩
      unfold cmV nwA
      rw [hc, hO]
      rfl
theorem narrow_num {j x : Nat} (hj : kOk j) (hx : x < 18446744073709551616) : cvO 64 j x = nrO (j : Int) x ∧ cvV 64 j x = nrV (j : Int) x := by
  by_cases hn : j = 64
  · subst hn
    have h := widen_num k64 (show x < lim 64 from hx)
    rw [wd_64 hx] at h
    exact h
  · have hok : wOk (j : Int) := by
      rcases hj with rfl | rfl | rfl
      · exact .inl rfl
      · exact .inr (.inl rfl)
      · exact .inr (.inr rfl)
    have hr := nr_ok (x := x) hok (by omega)
    rw [Int.toNat_natCast] at hr
    rw [hr.1, hr.2]
    have h1 := ex_lt (w := 64) (x := x)
    have h2 := fr_lt (w := 64) (x := x)
    rw [show 2 ^ xb 64 = 2048 from rfl] at h1
    rw [show 2 ^ fb 64 = 4503599627370496 from rfl] at h2
    by_cases hi : ex 64 x = onz 64
    · have hi' : ex 64 x = 2047 := hi
      have hF := (hj.wd hn).f
      obtain ⟨d, hd⟩ : ∃ d : Nat, 52 - fb j = d := ⟨_, rfl⟩
      have hneg : (fb j : Int) - (fb 64 : Int) = -(d : Int) := by rw [show fb 64 = 52 from rfl]; omega
      have e0 : sOk (fr 64 x) ((fb j : Int) - (fb 64 : Int)) = shOk (fr 64 x) d := by
        rw [hneg]; unfold sOk shOk
        rw [if_pos (by omega), show (-(-(d : Int))).toNat = d by omega]
      have e2 : nwO (xb j) (fb j) (ex 64 x) (fr 64 x) = shOk (fr 64 x) d := by
        unfold nwO; dsimp only
        rw [if_neg (by omega), if_pos hi', hd]
      have e1 : cvO 64 j x = shOk (fr 64 x) d := by unfold cvO; rw [if_pos hi, e0]
      refine ⟨e1.trans e2.symm, ?_⟩
      unfold cvV nwA
      rw [if_pos hi, e1, e2]
      cases hO : shOk (fr 64 x) d with
      | false => rfl
      | true =>
        rw [if_pos rfl, if_pos rfl]
        have e3 : sV (fr 64 x) ((fb j : Int) - (fb 64 : Int)) = shV (fr 64 x) d := by
          rw [hneg]; unfold sV shV
          rw [if_pos (by omega), show (-(-(d : Int))).toNat = d by omega, if_pos (of_decide_eq_true hO)]
        rw [e3]
        unfold kv nwV
        dsimp only
        rw [if_neg (show ¬ ex 64 x = 0 by omega), if_pos hi', hd, Nat.add_assoc]
        rfl
    · have hi' : ex 64 x ≠ 2047 := hi
      unfold cvO cvV
      rw [if_neg hi, if_neg hi]
      exact narrow_fin hj hn (by omega) h2 _
theorem fromInt_num {v : Nat} (neg : Bool) (hv : 0 < v) (hb : v < 18446744073709551616) : cmO 64 v 0 = fiO v ∧ cmV 64 neg v 0 = fiV neg v := by
  have hv0 : v ≠ 0 := by omega
  have hL : v.log2 < 64 := (Nat.log2_lt hv0).2 (by rw [p64]; exact hb)
  cases hO : fiO v with
  | true =>
    obtain ⟨q, _, _, _, _, _, a6, a7, a8, _⟩ := fi_xa (neg := neg) hv0 hO (by rw [p64]; omega)
    rw [b52] at a7
    rw [p53] at a8
    have hs : Sm v 0 (aM 64 (1023 + v.log2) (q - 4503599627370496)) (aE 64 (1023 + v.log2)) := by
      rw [show aM 64 (1023 + v.log2) (q - 4503599627370496) = _ from if_neg (by omega), show aE 64 (1023 + v.log2) = _ from if_neg (by omega), show hdn 64 = 4503599627370496 by decide, Nat.sub_add_cancel a7]
      exact ⟨52, v.log2, by rw [show bia 64 = 1023 from rfl, show fb 64 = 52 from rfl]; omega, a6.symm⟩
    have hy := compose_yes k64 hv (show 1023 + v.log2 < onz 64 by rw [show onz 64 = 2047 by decide]; omega) (show q - 4503599627370496 < hdn 64 by rw [show hdn 64 = 4503599627370496 by decide]; omega) hs
    refine ⟨hy.1, ?_⟩
    have hq : v * 2 ^ 52 / 2 ^ v.log2 = q := by rw [← a6, Nat.mul_div_cancel _ (Nat.two_pow_pos _)]
    rw [hy.2, kv_jv, fi_some hv0 hO, hq, b52]
  | false =>
    have hc : cmO 64 v 0 = false := by
      cases h : cmO 64 v 0 with
      | false => rfl
      | true =>
        obtain ⟨X, M, a1, a2, a, b, a3, a4⟩ := compose_has k64 hv h
        have hd : hdn 64 = 2 ^ 52 := by decide
        rw [hd] at a2
        by_cases hX : X = 0
        · subst hX
          rw [show aM 64 0 M = M from if_pos rfl] at a4
          rw [show aE 64 0 = -1074 from rfl] at a3
          obtain ⟨c, hc, rfl⟩ : ∃ c, 52 ≤ c ∧ a = c + b := ⟨1074, by omega, by omega⟩
          rw [Nat.pow_add, ← Nat.mul_assoc] at a4
          have a5 := Nat.eq_of_mul_eq_mul_right (Nat.two_pow_pos b) a4
          have a6 : 1 * 2 ^ c ≤ v * 2 ^ c := Nat.mul_le_mul_right _ hv
          have a7 : (2 : Nat) ^ 52 ≤ 2 ^ c := Nat.pow_le_pow_right (by decide) hc
          rw [Nat.one_mul] at a6
          rw [a5] at a6
          exact absurd a2 (Nat.not_lt.2 (Nat.le_trans a7 a6))
        · rw [show aM 64 X M = M + hdn 64 from if_neg hX, hd] at a4
          rw [show aE 64 X = (X : Int) - (bia 64 : Int) - (fb 64 : Int) from if_neg hX] at a3
          by_cases hab : a ≤ b
          · obtain ⟨t, rfl⟩ : ∃ t, b = t + a := ⟨b - a, by omega⟩
            rw [Nat.pow_add, ← Nat.mul_assoc] at a4
            have a5 := Nat.eq_of_mul_eq_mul_right (Nat.two_pow_pos a) a4
            have := (fi_up a5 (Nat.le_add_left _ _) (by rw [p53]; rw [b52] at a2 ⊢; omega)).1
            rw [hO] at this
            exact absurd this (by decide)
          · obtain ⟨t, rfl⟩ : ∃ t, a = t + b := ⟨a - b, by omega⟩
            rw [Nat.pow_add, ← Nat.mul_assoc] at a4
            have a5 := Nat.eq_of_mul_eq_mul_right (Nat.two_pow_pos b) a4
            have := (fi_down a5.symm (Nat.le_add_left _ _) (by rw [p53]; rw [b52] at a2 ⊢; omega)).1
            rw [hO] at this
            exact absurd this (by decide)
    refine ⟨hc, ?_⟩
    unfold cmV
    rw [hc, fi_none hv0 hO]
    rfl
end Go.Proofs.Ytkgejncolchobaa.nn
