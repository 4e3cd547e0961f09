/- Plain facts: what compose and convert answer is what the document's Widen, Narrow and FromInt answer. -/
import Derived.Test.YtkgejncolchobaaShape9
import Derived.Test.YtkgejncolchobaaFbNum2
namespace Go.Proofs.Ytkgejncolchobaa.nn

/-- m times 2^e is m' times 2^e' -/
def Sm (m : Nat) (e : Int) (m' : Nat) (e' : Int) : Prop := ∃ a b : Nat, e - (a : Int) = e' - (b : Int) ∧ m * 2 ^ a = m' * 2 ^ b
section
variable {m m' m'' : Nat} {e e' e'' : Int}
theorem Sm.refl (m : Nat) (e : Int) : Sm m e m e := ⟨0, 0, rfl, rfl⟩
theorem Sm.symm (h : Sm m e m' e') : Sm m' e' m e := by
  obtain ⟨a, b, h1, h2⟩ := h
  exact ⟨b, a, h1.symm, h2.symm⟩
theorem Sm.trans (h : Sm m e m' e') (h' : Sm m' e' m'' e'') : Sm m e m'' e'' := by
  obtain ⟨a, b, h1, h2⟩ := h
  obtain ⟨c, d, h3, h4⟩ := h'
  refine ⟨a + c, d + b, by omega, ?_⟩
  rw [Nat.pow_add, Nat.pow_add, ← Nat.mul_assoc, h2, ← Nat.mul_assoc, ← h4, Nat.mul_right_comm]
theorem log2_mul {m a : Nat} (h : 0 < m) : (m * 2 ^ a).log2 = m.log2 + a := by
  have hp := Nat.two_pow_pos a
  have h1 : 2 ^ a ≤ m * 2 ^ a := Nat.le_mul_of_pos_left _ h
  have h2 := log2_div h1
  rw [Nat.mul_div_cancel _ hp] at h2
  have h3 : a ≤ (m * 2 ^ a).log2 := (Nat.le_log2 (by omega)).2 h1
  omega
theorem Sm.pos (h : Sm m e m' e') (h0 : 0 < m) : 0 < m' := by
  obtain ⟨a, b, _, h2⟩ := h
  rcases Nat.eq_zero_or_pos m' with h1 | h1
  · rw [h1, Nat.zero_mul] at h2
    have := Nat.mul_pos h0 (Nat.two_pow_pos a)
    omega
  · exact h1
theorem Sm.log (h : Sm m e m' e') (h0 : 0 < m) : (m.log2 : Int) + e = (m'.log2 : Int) + e' := by
  have hp := h.pos h0
  obtain ⟨a, b, h1, h2⟩ := h
  have l1 := log2_mul (a := a) h0
  have l2 := log2_mul (a := b) hp
  rw [h2, l2] at l1
  omega
/-- m shifted to another unit -/
theorem Sm.shift (h : Sm m e m' e') (hm : m' < 18446744073709551616) : sOk m (e - e') = true ∧ sV m (e - e') = m' := by
  obtain ⟨a, b, h1, h2⟩ := h
  unfold sOk sV
  by_cases hn : e - e' < 0
  · rw [if_pos hn, if_pos hn]
    obtain ⟨d, hd⟩ : ∃ d : Nat, (-(e - e')).toNat = d := ⟨_, rfl⟩
    rw [hd]
    obtain rfl : b = d + a := by omega
    rw [Nat.pow_add, ← Nat.mul_assoc] at h2
    have h3 := Nat.eq_of_mul_eq_mul_right (Nat.two_pow_pos a) h2
    rw [h3]
    exact ⟨decide_eq_true (Nat.mul_mod_left _ _), Nat.mul_div_cancel _ (Nat.two_pow_pos d)⟩
  · rw [if_neg hn, if_neg hn]
    obtain ⟨d, hd⟩ : ∃ d : Nat, (e - e').toNat = d := ⟨_, rfl⟩
    rw [hd]
    obtain rfl : a = d + b := by omega
    rw [Nat.pow_add, ← Nat.mul_assoc] at h2
    have h3 := Nat.eq_of_mul_eq_mul_right (Nat.two_pow_pos b) h2
    rw [h3]
    exact ⟨decide_eq_true hm, Nat.mod_eq_of_lt hm⟩
theorem Sm.of_shift {n : Int} (hO : sOk m n = true) : Sm m e (sV m n) (e - n) := by
  unfold sOk at hO
  unfold sV
  by_cases hn : n < 0
  · rw [if_pos hn] at hO ⊢
    refine ⟨0, (-n).toNat, by omega, ?_⟩
    rw [Nat.pow_zero, Nat.mul_one, Nat.div_mul_cancel (Nat.dvd_of_mod_eq_zero (of_decide_eq_true hO))]
  · rw [if_neg hn] at hO ⊢
    refine ⟨n.toNat, 0, by omega, ?_⟩
    rw [Nat.mod_eq_of_lt (of_decide_eq_true hO), Nat.pow_zero, Nat.mul_one]
end
section
variable {k m X M : Nat} {e : Int}
theorem log2_eq {m F : Nat} (h1 : 2 ^ F ≤ m) (h2 : m < 2 ^ (F + 1)) : m.log2 = F := by
  have hp := Nat.two_pow_pos F
  have h3 : F ≤ m.log2 := (Nat.le_log2 (by omega)).2 h1
  have h4 : m.log2 < F + 1 := (Nat.log2_lt (by omega)).2 h2
  omega
/-- what a shape has is found -/
theorem compose_yes (hk : kOk k) (h0 : 0 < m) (hX : X < onz k) (hM : M < hdn k) (h : Sm m e (aM k X M) (aE k X)) : cmO k m e = true ∧ ∀ neg, cmV k neg m e = kv (xb k) (fb k) neg X M := by
  have hf := hk.facts
  have hbt := hk.bt
  have hH : hdn k = 2 ^ fb k := rfl
  have hH2 : 2 ^ (fb k + 1) = 2 * hdn k := by rw [hH, Nat.pow_succ, Nat.mul_comm]
  have hlog := h.log h0
  have hpos := h.pos h0
  have hlt := aM_lt (X := X) hk hM
  have hsh := h.shift (by omega)
  have hu : unt k m e = aE k X ∧ (m.log2 : Int) + e ≤ (bia k : Int) ∧ (0 < X → ((m.log2 : Int) + e + (bia k : Int)).toNat = X) := by
    unfold unt
    rw [hlog]
    by_cases h1 : X = 0
    · subst h1
      have e1 : aM k 0 M = M := if_pos rfl
      have e2 : aE k 0 = 1 - (bia k : Int) - (fb k : Int) := if_pos rfl
      rw [e1] at hpos
      rw [e1, e2]
      have h2 : M.log2 < fb k := (Nat.log2_lt (by omega)).2 hM
      omega
    · have e1 : aM k X M = M + hdn k := if_neg h1
      have e2 : aE k X = (X : Int) - (bia k : Int) - (fb k : Int) := if_neg h1
      rw [e1, e2, log2_eq (F := fb k) (by omega) (by omega)]
      omega
  obtain ⟨u1, u2, u3⟩ := hu
  have hO : cmO k m e = true := by
    unfold cmO
    rw [if_neg (by omega), u1, hsh.1, decide_eq_true u2]
    rfl
  have hU : cmU k m e = aM k X M := by unfold cmU; rw [u1, hsh.2]
  refine ⟨hO, fun neg => ?_⟩
  unfold cmV
  rw [hO, if_pos rfl, if_neg (by omega), hU]
  by_cases h1 : X = 0
  · subst h1
    rw [show aM k 0 M = M from if_pos rfl, if_pos hM]
  · rw [show aM k X M = M + hdn k from if_neg h1, if_neg (by omega), u3 (by omega), Nat.add_sub_cancel]
/-- what is found, a shape has -/
theorem compose_has (hk : kOk k) (h0 : 0 < m) (hO : cmO k m e = true) : ∃ X M, X < onz k ∧ M < hdn k ∧ Sm m e (aM k X M) (aE k X) := by
  have hbt := hk.bt
  have hH : hdn k = 2 ^ fb k := rfl
  have hH2 : 2 ^ (fb k + 1) = 2 * hdn k := by rw [hH, Nat.pow_succ, Nat.mul_comm]
  unfold cmO at hO
  rw [if_neg (by omega), Bool.and_eq_true] at hO
  obtain ⟨h1, h2⟩ := hO
  have h1 := of_decide_eq_true h1
  have h3 := Sm.of_shift (m := m) (e := e) h2
  rw [show sV m (e - unt k m e) = cmU k m e from rfl, show e - (e - unt k m e) = unt k m e by omega] at h3
  have hl := cmU_lt (k := k) (e := e) h0
  by_cases c : 1 - (bia k : Int) ≤ (m.log2 : Int) + e
  · have h4 := cmU_high h0 c h2
    refine ⟨((m.log2 : Int) + e + (bia k : Int)).toNat, cmU k m e - hdn k, by omega, by omega, ?_⟩
    have e1 : ((m.log2 : Int) + e + (bia k : Int)).toNat ≠ 0 := by omega
    rw [show aM k ((m.log2 : Int) + e + (bia k : Int)).toNat (cmU k m e - hdn k) = cmU k m e - hdn k + hdn k from if_neg e1, show aE k ((m.log2 : Int) + e + (bia k : Int)).toNat = _ from if_neg e1, Nat.sub_add_cancel (by omega)]
    rw [show ((((m.log2 : Int) + e + (bia k : Int)).toNat : Nat) : Int) - (bia k : Int) - (fb k : Int) = unt k m e by unfold unt; omega]
    exact h3
  · have h4 := cmU_low h0 (show (m.log2 : Int) + e < 1 - (bia k : Int) by omega)
    refine ⟨0, cmU k m e, by omega, h4, ?_⟩
    rw [show aM k 0 (cmU k m e) = cmU k m e from if_pos rfl, show aE k 0 = _ from if_pos rfl, show 1 - (bia k : Int) - (fb k : Int) = unt k m e by unfold unt; omega]
    exact h3
end
theorem kv_jv (S : Bool) (X M : Nat) : kv (xb 64) (fb 64) S X M = jv S X M := by
  unfold kv jv
  rw [show xb 64 = 11 from rfl, show fb 64 = 52 from rfl, show 11 + 52 = 63 from rfl, show (2 : Nat) ^ 63 = 9223372036854775808 by decide, b52]
theorem k64 : kOk 64 := .inr (.inr rfl)
/-- the width's parts of a shape -/
theorem kOk.wd {k : Nat} (h : kOk k) (hn : k ≠ 64) : Wd (xb k) (fb k) (bia k) (onz k + 1) := by
  rcases h with rfl | rfl | rfl
  · exact wd16
  · exact wd32
  · exact absurd rfl hn
/-- the wider parts are the same number -/
theorem wide_same {k X M : Nat} (hk : kOk k) (hn : k ≠ 64) (hX : X < onz k) (hM : M < hdn k) :
    Sm (aM k X M) (aE k X) (aM 64 (wX (bia k) (onz k + 1) (fb k) X M) (wM (onz k + 1) (fb k) X M)) (aE 64 (wX (bia k) (onz k + 1) (fb k) X M)) ∧ wX (bia k) (onz k + 1) (fb k) X M < 2047 ∧ wM (onz k + 1) (fb k) X M < 4503599627370496 := by
  have hw := hk.wd hn
  have hF := hw.f
  have hB := hw.b
  have hbt := hk.bt
  have hH : hdn k = 2 ^ fb k := rfl
  have e64 : hdn 64 = 4503599627370496 := by decide
  have c1 : X ≠ onz k + 1 - 1 := by omega
  by_cases c2 : 0 < X
  · have e1 : wX (bia k) (onz k + 1) (fb k) X M = X + 1023 - bia k := by unfold wX; rw [if_neg c1, if_pos c2]
    have e2 : wM (onz k + 1) (fb k) X M = M * 2 ^ (52 - fb k) := if_pos (.inr c2)
    have hwd := hw.wide (X := X) (M := M) (by omega) hM
    refine ⟨?_, by omega, hwd.2⟩
    rw [e1, e2, show aM k X M = M + hdn k from if_neg (by omega), show aE k X = _ from if_neg (by omega), show aM 64 (X + 1023 - bia k) (M * 2 ^ (52 - fb k)) = _ from if_neg (by omega), show aE 64 (X + 1023 - bia k) = _ from if_neg (by omega)]
    refine ⟨52 - fb k, 0, by rw [show bia 64 = 1023 from rfl, show fb 64 = 52 from rfl]; omega, ?_⟩
    rw [Nat.pow_zero, Nat.mul_one, Nat.add_mul, hH, ← Nat.pow_add, show fb k + (52 - fb k) = 52 by omega]
    rfl
  · obtain rfl : X = 0 := by omega
    by_cases c3 : 0 < M
    · obtain ⟨s1, s2, _⟩ := hw.small hM c3
      obtain ⟨n1, n2⟩ := nrm_hi s1 s2
      have n3 := nrm_pos s1 s2
      have n4 := hw.nrm_le hM c3
      have e1 : wX (bia k) (onz k + 1) (fb k) 0 M = 1024 - bia k - nrm (M * 2 ^ (52 - fb k)) := by unfold wX; rw [if_neg c1, if_neg c2, if_pos c3]
      have e2 : wM (onz k + 1) (fb k) 0 M = M * 2 ^ (52 - fb k) * 2 ^ nrm (M * 2 ^ (52 - fb k)) - 4503599627370496 := by unfold wM; rw [if_neg (by omega), if_pos c3]
      rw [e1, e2]
      obtain ⟨t, ht⟩ : ∃ t, nrm (M * 2 ^ (52 - fb k)) = t := ⟨_, rfl⟩
      rw [ht] at n1 n2 n3 n4 ⊢
      refine ⟨?_, by omega, by omega⟩
      rw [show aM k 0 M = M from if_pos rfl, show aE k 0 = _ from if_pos rfl, show aM 64 (1024 - bia k - t) (M * 2 ^ (52 - fb k) * 2 ^ t - 4503599627370496) = _ from if_neg (by omega), show aE 64 (1024 - bia k - t) = _ from if_neg (by omega), e64]
      refine ⟨52 - fb k + t, 0, by rw [show bia 64 = 1023 from rfl, show fb 64 = 52 from rfl]; omega, ?_⟩
      rw [Nat.pow_zero, Nat.mul_one, Nat.sub_add_cancel n2, Nat.pow_add, ← Nat.mul_assoc]
    · obtain rfl : M = 0 := by omega
      have e1 : wX (bia k) (onz k + 1) (fb k) 0 0 = 0 := by unfold wX; rw [if_neg c1, if_neg c2, if_neg c2]
      have e2 : wM (onz k + 1) (fb k) 0 0 = 0 := by unfold wM; rw [if_neg (by omega), if_neg c2]
      rw [e1, e2]
      refine ⟨?_, by omega, by omega⟩
      rw [show aM k 0 0 = 0 from if_pos rfl, show aE k 0 = _ from if_pos rfl, show aM 64 0 0 = 0 from if_pos rfl, show aE 64 0 = -1074 from rfl]
      exact ⟨1075 - bia k - fb k, 0, by omega, by rw [Nat.zero_mul, Nat.zero_mul]⟩
/-- compose of nothing -/
theorem compose_none {k : Nat} {neg : Bool} {e : Int} : cmO k 0 e = true ∧ cmV k neg 0 e = kv (xb k) (fb k) neg 0 0 := by
  have e1 : cmO k 0 e = true := if_pos rfl
  exact ⟨e1, by unfold cmV; rw [e1, if_pos rfl, if_pos rfl]⟩
theorem aM_zero {k X M : Nat} (hk : kOk k) (h : aM k X M = 0) : X = 0 ∧ M = 0 := by
  have := hk.facts
  unfold aM at h
  split at h
  · exact ⟨by assumption, h⟩
  · omega
theorem one_way {X M X' M' : Nat} (h1 : X < 2047) (h2 : M < 4503599627370496) (h3 : X' < 2047) (h4 : M' < 4503599627370496) (h : Sm (aM 64 X M) (aE 64 X) (aM 64 X' M') (aE 64 X')) (h0 : 0 < aM 64 X M) : X = X' ∧ M = M' := by
  have a := (compose_yes k64 h0 h1 h2 (Sm.refl _ _)).2 false
  have b := (compose_yes k64 h0 h3 h4 h).2 false
  rw [a, kv_jv, kv_jv] at b
  have p1 := jv_parts (S := false) (X := X) (M := M) (by omega) h2
  have p2 := jv_parts (S := false) (X := X') (M := M') (by omega) h4
  rw [b] at p1
  exact ⟨p1.2.1.symm.trans p2.2.1, p1.2.2.1.symm.trans p2.2.2.1⟩
end Go.Proofs.Ytkgejncolchobaa.nn
