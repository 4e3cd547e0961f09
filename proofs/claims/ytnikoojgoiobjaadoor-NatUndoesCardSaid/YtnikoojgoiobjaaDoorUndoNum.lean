/- What the calls of NatUndoes answer where the numbers have at most 1000 limbs. -/
import Derived.Test.YtnikoojgoiobjaaDoorSub
import Derived.Test.YtnikoojgoiobjaaDoorFromBytes
import Derived.Test.YtnikoojgoiobjaaDoorDigits
namespace Go.Proofs.YtnikoojgoiobjaaDoor.nn
open Go.RowKit

section
variable {n m : Nat} {f g : Nat → Nat}
theorem Num.below {w w' : World} {A : Option Addr} {c R : Nat} (h : Num w A n c f R) (hb : Below w.heap.size w w') : Num w' A n c f R :=
  ⟨h.le, h.cap, h.rd.below hb, h.lt, h.trm, h.val⟩
theorem val_pw (lf : Lt (2 ^ 32) f n) (hn : n ≤ 1000) : sm (2 ^ 32) f n < pw 1000 := Nat.lt_of_lt_of_le (sm_lt lf) (pw_mono hn)
theorem pw_add (a b : Nat) : pw a * pw b = pw (a + b) := (Nat.pow_add _ _ _).symm
theorem pw_two {a : Nat} : pw a + pw a ≤ pw (a + 1) := by
  have h : pw (a + 1) = pw a * 2 ^ 32 := Nat.pow_succ _ _
  have h2 : pw a * 2 ≤ pw a * 2 ^ 32 := Nat.mul_le_mul_left _ (by decide)
  omega
theorem pw_big {a : Nat} (h : a < 4096) : pw a < big := by
  have h1 := pw_two (a := a)
  have h2 : 0 < pw a := Nat.pow_pos (Nat.two_pow_pos 32)
  have h3 : pw (a + 1) ≤ big := pw_mono h
  omega
theorem two_pw {k j : Nat} (h : k ≤ 32 * j) : 2 ^ k ≤ pw j := by
  unfold pw
  rw [← Nat.pow_mul 2 32 j]
  exact Nat.pow_le_pow_right (by decide) h
theorem not_long (lf : Lt (2 ^ 32) f n) (h : sm (2 ^ 32) f n < big) : ¬ 4096 < tr f n := fun h2 => by have := (long_iff lf).1 h2; omega
theorem add_val (lf : Lt (2 ^ 32) f n) (lg' : Lt (2 ^ 32) g m) (hn : n ≤ 1000) (hm : m ≤ 1000) :
    addR n f 1 (fun _ => m) (fun _ => g) = sm (2 ^ 32) f n + sm (2 ^ 32) g m ∧ addE n f 1 (fun _ => m) (fun _ => g) = 0 ∧ sm (2 ^ 32) f n + sm (2 ^ 32) g m < big := by
  have h1 := val_pw lf hn
  have h2 := val_pw lg' hm
  have h3 : pw 1000 + pw 1000 ≤ pw 1001 := pw_two
  have h4 := pw_big (a := 1001) (by decide)
  have hb : sm (2 ^ 32) f n + sm (2 ^ 32) g m < big := by omega
  have e1 := tr_le f n
  have e2 := tr_le g m
  have e3 : lg (fun _ => m) (fun _ => g) 1 = false := by simp only [lg, Bool.false_or]; exact decide_eq_false (by omega)
  have e4 : tot (fun _ => m) (fun _ => g) 1 = sm (2 ^ 32) g m := by simp [tot]
  have e5 : ¬ (4096 < tr f n ∨ lg (fun _ => m) (fun _ => g) 1 = true) := by rw [e3]; rintro (h | h); omega; cases h
  unfold addR addE fitR fitE
  rw [if_neg e5, if_neg e5, e4, if_pos hb, if_pos hb]
  exact ⟨rfl, rfl, hb⟩
theorem sub_val (lf : Lt (2 ^ 32) f n) (h1 : sm (2 ^ 32) f n < big) (hm : m ≤ 1000) (V : Nat) (h : sm (2 ^ 32) f n = V + sm (2 ^ 32) g m) : subR n m f g = V ∧ subE n m f g = 0 := by
  have e1 := not_long lf h1
  have e2 := tr_le g m
  have e3 : tl2 n m f g = false := by unfold tl2; rw [decide_eq_false e1, decide_eq_false (by omega)]; rfl
  unfold subR subE
  rw [e3]
  simp only [Bool.false_eq_true, if_false]
  have h2 : ¬ sm (2 ^ 32) f n < sm (2 ^ 32) g m := by omega
  rw [if_neg h2, if_neg h2]
  exact ⟨by omega, rfl⟩
theorem bl_bound (lf : Lt (2 ^ 32) f n) (hn : n ≤ 1000) : bl (sm (2 ^ 32) f n) ≤ 32000 := by
  refine Nat.le_trans (bl_le (k := 32 * n) ?_) (by omega)
  rw [Nat.pow_mul 2 32 n]
  exact sm_lt lf
theorem shl_val (lf : Lt (2 ^ 32) f n) (hn : n ≤ 1000) {k : Nat} (hk : k < 5000) : shlR n f (k : Int) = sm (2 ^ 32) f n * 2 ^ k ∧ shlE n f (k : Int) = 0 := by
  have e1 := tr_le f n
  have e2 := bl_bound lf hn
  unfold shlR shlE
  by_cases h0 : sm (2 ^ 32) f n = 0
  · rw [if_pos (.inr (.inr (.inl h0))), if_neg (by omega), if_neg (by omega), if_pos h0, h0, Nat.zero_mul]
    exact ⟨rfl, rfl⟩
  · rw [if_neg (by omega), if_neg (by omega), if_neg (by omega), if_neg h0, if_neg (by omega), Int.toNat_natCast]
    exact ⟨rfl, rfl⟩
theorem shl_big (lf : Lt (2 ^ 32) f n) (hn : n ≤ 1000) {k : Nat} (hk : k < 5000) : sm (2 ^ 32) f n * 2 ^ k < big := by
  have h1 := val_pw lf hn
  have h2 : 2 ^ k ≤ pw 157 := two_pw (by omega)
  have h3 : sm (2 ^ 32) f n * 2 ^ k < pw 1000 * pw 157 := Nat.lt_of_lt_of_le (Nat.mul_lt_mul_of_pos_right h1 (Nat.two_pow_pos k)) (Nat.mul_le_mul_left _ h2)
  rw [pw_add] at h3
  exact Nat.lt_trans h3 (pw_big (by decide))
theorem shr_val (lf : Lt (2 ^ 32) f n) (V k : Nat) (h : sm (2 ^ 32) f n = V * 2 ^ k) (hb : V * 2 ^ k < big) : shrR n f (k : Int) = V ∧ shrE n f (k : Int) = 0 := by
  have e1 := not_long lf (by rw [h]; exact hb)
  unfold shrR shrE
  rw [if_neg (by omega), if_neg e1, if_neg (by omega), h, Int.toNat_natCast, Nat.mul_div_cancel _ (Nat.two_pow_pos k)]
  exact ⟨rfl, rfl⟩
end

theorem nd_bl {V K : Nat} (h : bl V ≤ K) : Lib.nDigits V ≤ K + 1 :=
  nd_le (K + 1) V (by omega) (Nat.lt_of_lt_of_le (bl_lt V) (Nat.le_trans (Nat.pow_le_pow_right (by decide) h) (Nat.le_trans (Nat.pow_le_pow_left (by decide : 2 ≤ 10) K) (Nat.pow_le_pow_right (by decide) (Nat.le_succ K)))))

/-- the bytes of N, read back -/
theorem be_of {N m : Nat} {O : Nat → Nat} (hN : N < 256 ^ m) (hO : ∀ i, i < m → O i = N / 256 ^ (m - 1 - i) % 256) : ∀ i, i ≤ m → be O i = N / 256 ^ (m - i) := by
  intro i
  induction i with
  | zero => intro _; rw [Nat.sub_zero, Nat.div_eq_of_lt hN]; rfl
  | succ i ih =>
    intro hi
    rw [be, ih (by omega), hO i (by omega)]
    have e : m - i = (m - 1 - i) + 1 := by omega
    have e2 : m - (i + 1) = m - 1 - i := by omega
    rw [e, e2, Nat.pow_succ, ← Nat.div_div_eq_div_mul]
    generalize N / 256 ^ (m - 1 - i) = X
    omega
theorem bytes_back {N : Nat} {O : Nat → Nat} (hN : bl N ≤ 32000) (hO : ∀ i, i < (bl N + 7) / 8 → O i = N / 256 ^ ((bl N + 7) / 8 - 1 - i) % 256) :
    Lead O ((bl N + 7) / 8) 0 ∧ fbR O ((bl N + 7) / 8) 0 = N ∧ fbE ((bl N + 7) / 8) 0 = 0 := by
  have hlt : N < 256 ^ ((bl N + 7) / 8) := by
    refine Nat.lt_of_lt_of_le (bl_lt N) ?_
    rw [show (256 : Nat) = 2 ^ 8 from rfl, ← Nat.pow_mul]
    exact Nat.pow_le_pow_right (by decide) (by omega)
  have hb := be_of hlt hO _ (Nat.le_refl _)
  rw [Nat.sub_self, Nat.pow_zero, Nat.div_one] at hb
  refine ⟨⟨Nat.zero_le _, fun i hi => absurd hi (by omega), ?_⟩, ?_, ?_⟩
  · by_cases h0 : N = 0
    · subst h0; left; rw [bl_zero]
    · right
      obtain ⟨b1, b2⟩ := bl_ge h0
      have hm : 0 < (bl N + 7) / 8 := by omega
      rw [hO 0 hm, Nat.sub_zero]
      have h3 : 256 ^ ((bl N + 7) / 8 - 1) ≤ N := by
        refine Nat.le_trans ?_ b1
        rw [show (256 : Nat) = 2 ^ 8 from rfl, ← Nat.pow_mul]
        exact Nat.pow_le_pow_right (by decide) (by omega)
      have h4 : N / 256 ^ ((bl N + 7) / 8 - 1) < 256 := by
        rw [Nat.div_lt_iff_lt_mul (Nat.pow_pos (by decide)), Nat.mul_comm, ← Nat.pow_succ, show ((bl N + 7) / 8 - 1).succ = (bl N + 7) / 8 by omega]
        exact hlt
      have h5 := Nat.div_pos h3 (Nat.pow_pos (n := (bl N + 7) / 8 - 1) (by decide : 0 < 256))
      rw [Nat.mod_eq_of_lt h4]
      omega
  · unfold fbR; rw [if_neg (by omega)]; exact hb
  · unfold fbE; rw [if_neg (by omega)]

/-- the digits of V, read back -/
theorem bt_list (l : List UInt8) (i : Nat) (h : i < l.length) : bt ⟨l.toArray⟩ i = lf_ l i := by
  rw [bt_at (show i < (⟨l.toArray⟩ : ByteArray).size from by simpa [ByteArray.size] using h)]
  unfold lf_
  rw [List.getD_eq_getElem?_getD, List.getElem?_eq_getElem h]
  rfl
theorem digits_back (V : Nat) (h : (⟨(Lib.decDigits V).toArray⟩ : ByteArray).size ≤ 4096) : fdR (bt ⟨(Lib.decDigits V).toArray⟩) (⟨(Lib.decDigits V).toArray⟩ : ByteArray).size = V ∧ fdE (bt ⟨(Lib.decDigits V).toArray⟩) (⟨(Lib.decDigits V).toArray⟩ : ByteArray).size = 0 := by
  obtain ⟨h1, h2⟩ := dec_read V
  have hs : (⟨(Lib.decDigits V).toArray⟩ : ByteArray).size = (Lib.decDigits V).length := rfl
  have hp : 0 < (Lib.decDigits V).length := by rw [Lib.decDigits_length]; exact Lib.nDigits_pos V
  rw [hs] at h ⊢
  have hc : (dgs (bt ⟨(Lib.decDigits V).toArray⟩) (Lib.decDigits V).length && decide (0 < (Lib.decDigits V).length)) = true := by
    rw [dgs_congr (fun i hi => bt_list _ i hi), h1, decide_eq_true hp]
    rfl
  have h4 : ¬ 4096 < (Lib.decDigits V).length := by omega
  unfold fdR fdE
  rw [if_neg h4, if_neg h4, if_pos hc, if_pos hc, dv_congr (fun i hi => bt_list _ i hi), h2]
  exact ⟨rfl, rfl⟩
end Go.Proofs.YtnikoojgoiobjaaDoor.nn
