/- A code point's bytes, and the code point of some bytes: there and back. -/
import Derived.Test.YtakbahhoiggmhaaEncode
namespace Go.Proofs.Ytakbahhoiggmhaa.nn
open Go.RowKit

section
variable {f g : Nat → Nat} {n i j k : Nat}
theorem al_bytes (hk : nd (f 0) = k) (h0 : k ≠ 0) (h : ∀ j, 1 ≤ j → j < k → my (f 0) j (f j) = true) : al f t0 k = true := by
  have key : ∀ p, 1 ≤ p → p ≤ k → aw f (-1) (0 + p) = true ∧ In f 0 p k := by
    intro p
    induction p with
    | zero => intro hp; omega
    | succ p ih =>
      intro _ hpk
      by_cases hp : p = 0
      · subst hp
        have := first_yes (f := f) (N := -1) (i := 0) rfl rfl (by rw [hk]; exact h0) (.inl (by omega))
        rw [hk] at this
        exact this
      · obtain ⟨h1, h2⟩ := ih (by omega) (by omega)
        exact next_yes h1 h2 (by omega) (by omega) (by rw [Nat.zero_add]; exact h p (by omega) (by omega))
  have := aw_al (key k (by omega) (Nat.le_refl _)).1
  rwa [Nat.zero_add] at this
theorem bytes_al (hk : nd (f 0) = k) (h : al f t0 k = true) : ∀ j, 1 ≤ j → j < k → my (f 0) j (f j) = true := by
  have key : ∀ p, 1 ≤ p → p ≤ k → In f 0 p k ∧ ∀ j, 1 ≤ j → j < p → my (f 0) j (f j) = true := by
    intro p
    induction p with
    | zero => intro hp; omega
    | succ p ih =>
      intro _ hpk
      by_cases hp : p = 0
      · subst hp
        have := first_yes (f := f) (N := -1) (i := 0) rfl rfl (by omega) (.inl (by omega))
        rw [hk] at this
        exact ⟨this.2, fun j h1 h2 => by omega⟩
      · obtain ⟨h1, h2⟩ := ih (by omega) (by omega)
        have hap : al f t0 (0 + p) = true := al_mono h (by omega)
        have hm : my (f 0) p (f (0 + p)) = true := by
          cases hmy : my (f 0) p (f (0 + p)) with
          | true => rfl
          | false =>
            have := next_no hap h1 (by omega) hmy
            rw [al_mono h (by omega)] at this
            cases this
        have hw : aw f (-1) (0 + p) = true := by rw [aw_neg (by omega)]; exact hap
        refine ⟨(next_yes hw h1 (by omega) (by omega) hm).2, fun j h3 h4 => ?_⟩
        by_cases e : j = p
        · subst e; rw [Nat.zero_add] at hm; exact hm
        · exact h2 j h3 (by omega)
  intro j h1 h2
  exact (key k (by omega) (Nat.le_refl _)).2 j h1 h2
end

theorem bt1 (x : Nat) : bt ⟨#[UInt8.ofNat x]⟩ 0 = x % 256 := by
  rw [bt_at (show 0 < (⟨#[UInt8.ofNat x]⟩ : ByteArray).size from Nat.zero_lt_one)]
  exact UInt8.toNat_ofNat' ..
theorem bt2 (x y : Nat) : bt ⟨#[UInt8.ofNat x, UInt8.ofNat y]⟩ 0 = x % 256 ∧ bt ⟨#[UInt8.ofNat x, UInt8.ofNat y]⟩ 1 = y % 256 := by
  refine ⟨?_, ?_⟩
  · rw [bt_at (show 0 < (⟨#[UInt8.ofNat x, UInt8.ofNat y]⟩ : ByteArray).size from (by decide : 0 < 2))]
    exact UInt8.toNat_ofNat' ..
  · rw [bt_at (show 1 < (⟨#[UInt8.ofNat x, UInt8.ofNat y]⟩ : ByteArray).size from (by decide : 1 < 2))]
    exact UInt8.toNat_ofNat' ..
theorem bt3 (x y z : Nat) : bt ⟨#[UInt8.ofNat x, UInt8.ofNat y, UInt8.ofNat z]⟩ 0 = x % 256 ∧ bt ⟨#[UInt8.ofNat x, UInt8.ofNat y, UInt8.ofNat z]⟩ 1 = y % 256 ∧ bt ⟨#[UInt8.ofNat x, UInt8.ofNat y, UInt8.ofNat z]⟩ 2 = z % 256 := by
  refine ⟨?_, ?_, ?_⟩
  · rw [bt_at (show 0 < (⟨#[UInt8.ofNat x, UInt8.ofNat y, UInt8.ofNat z]⟩ : ByteArray).size from (by decide : 0 < 3))]
    exact UInt8.toNat_ofNat' ..
  · rw [bt_at (show 1 < (⟨#[UInt8.ofNat x, UInt8.ofNat y, UInt8.ofNat z]⟩ : ByteArray).size from (by decide : 1 < 3))]
    exact UInt8.toNat_ofNat' ..
  · rw [bt_at (show 2 < (⟨#[UInt8.ofNat x, UInt8.ofNat y, UInt8.ofNat z]⟩ : ByteArray).size from (by decide : 2 < 3))]
    exact UInt8.toNat_ofNat' ..
theorem bt4 (x y z u : Nat) : bt ⟨#[UInt8.ofNat x, UInt8.ofNat y, UInt8.ofNat z, UInt8.ofNat u]⟩ 0 = x % 256 ∧ bt ⟨#[UInt8.ofNat x, UInt8.ofNat y, UInt8.ofNat z, UInt8.ofNat u]⟩ 1 = y % 256 ∧
    bt ⟨#[UInt8.ofNat x, UInt8.ofNat y, UInt8.ofNat z, UInt8.ofNat u]⟩ 2 = z % 256 ∧ bt ⟨#[UInt8.ofNat x, UInt8.ofNat y, UInt8.ofNat z, UInt8.ofNat u]⟩ 3 = u % 256 := by
  refine ⟨?_, ?_, ?_, ?_⟩
  · rw [bt_at (show 0 < (⟨#[UInt8.ofNat x, UInt8.ofNat y, UInt8.ofNat z, UInt8.ofNat u]⟩ : ByteArray).size from (by decide : 0 < 4))]
    exact UInt8.toNat_ofNat' ..
  · rw [bt_at (show 1 < (⟨#[UInt8.ofNat x, UInt8.ofNat y, UInt8.ofNat z, UInt8.ofNat u]⟩ : ByteArray).size from (by decide : 1 < 4))]
    exact UInt8.toNat_ofNat' ..
  · rw [bt_at (show 2 < (⟨#[UInt8.ofNat x, UInt8.ofNat y, UInt8.ofNat z, UInt8.ofNat u]⟩ : ByteArray).size from (by decide : 2 < 4))]
    exact UInt8.toNat_ofNat' ..
  · rw [bt_at (show 3 < (⟨#[UInt8.ofNat x, UInt8.ofNat y, UInt8.ofNat z, UInt8.ofNat u]⟩ : ByteArray).size from (by decide : 3 < 4))]
    exact UInt8.toNat_ofNat' ..

/-- the bytes of a code point, one by one -/
def EncB (E : Nat → Nat) (m C : Nat) : Prop :=
  (C < 128 ∧ m = 1 ∧ E 0 = C) ∨ (128 ≤ C ∧ C < 2048 ∧ m = 2 ∧ E 0 = 192 + C / 64 ∧ E 1 = 128 + C % 64) ∨
  (2048 ≤ C ∧ C < 65536 ∧ m = 3 ∧ E 0 = 224 + C / 4096 ∧ E 1 = 128 + C / 64 % 64 ∧ E 2 = 128 + C % 64) ∨
  (65536 ≤ C ∧ C ≤ 1114111 ∧ m = 4 ∧ E 0 = 240 + C / 262144 ∧ E 1 = 128 + C / 4096 % 64 ∧ E 2 = 128 + C / 64 % 64 ∧ E 3 = 128 + C % 64)
theorem enc_bytes {C : Nat} (h : isPt (C : Int)) : EncB (bt (Utf8.encode (C : Int))) (Utf8.encode (C : Int)).size C := by
  have hv := valid_nat h
  unfold isPt at h
  unfold Utf8.encode EncB
  simp only [hv, if_true, Int.toNat_natCast]
  by_cases l1 : C < 128
  · rw [if_pos l1]
    exact .inl ⟨l1, rfl, by rw [bt1]; omega⟩
  · rw [if_neg l1]
    by_cases l2 : C < 2048
    · rw [if_pos l2]
      have := bt2 (192 + C / 64) (128 + C % 64)
      exact .inr (.inl ⟨by omega, l2, rfl, by rw [this.1]; omega, by rw [this.2]; omega⟩)
    · rw [if_neg l2]
      by_cases l3 : C < 65536
      · rw [if_pos l3]
        have := bt3 (224 + C / 4096) (128 + C / 64 % 64) (128 + C % 64)
        exact .inr (.inr (.inl ⟨by omega, l3, rfl, by rw [this.1]; omega, by rw [this.2.1]; omega, by rw [this.2.2]; omega⟩))
      · rw [if_neg l3]
        have := bt4 (240 + C / 262144) (128 + C / 4096 % 64) (128 + C / 64 % 64) (128 + C % 64)
        exact .inr (.inr (.inr ⟨by omega, by omega, rfl, by rw [this.1]; omega, by rw [this.2.1]; omega, by rw [this.2.2.1]; omega, by rw [this.2.2.2]; omega⟩))

theorem my_of {x j y : Nat} (h : lt_ x j ≤ y ∧ y ≤ mt_ x j) : my x j y = true := decide_eq_true h
theorem my_to {x j y : Nat} (h : my x j y = true) : lt_ x j ≤ y ∧ y ≤ mt_ x j := of_decide_eq_true h
theorem lt_far {x j : Nat} (h : j ≠ 1) : lt_ x j = 128 ∧ mt_ x j = 191 := by unfold lt_ mt_; rw [if_neg h, if_neg h]; exact ⟨rfl, rfl⟩

/-- THERE: its bytes are one code point, itself, whatever stands behind -/
theorem enc_point {f E : Nat → Nat} {m n C : Nat} (h : EncB E m C) (hs : ¬ (55296 ≤ C ∧ C ≤ 57343)) (hf : ∀ i, i < m → f i = E i) (hn : m ≤ n) : ptK f n = m ∧ ptV f n = C := by
  have c0 := nd_cases (f 0)
  have c1 := lt_cases (f 0)
  have c2 := mt_cases (f 0)
  have p0 : ∀ k, pv f k 0 = hdv f k := fun _ => rfl
  have p1 : ∀ k, pv f k 1 = pv f k 0 * 64 + f 1 % 64 := fun _ => rfl
  have p2 : ∀ k, pv f k 2 = pv f k 1 * 64 + f 2 % 64 := fun _ => rfl
  have p3 : ∀ k, pv f k 3 = pv f k 2 * 64 + f 3 % 64 := fun _ => rfl
  rcases h with ⟨h1, rfl, e0⟩ | ⟨h1, h2, rfl, e0, e1⟩ | ⟨h1, h2, rfl, e0, e1, e2⟩ | ⟨h1, h2, rfl, e0, e1, e2, e3⟩
  · have g0 := hf 0 (by omega)
    have hk : nd (f 0) = 1 := by omega
    have := pok_yes (f := f) (n := n) (by omega) hk (by omega) hn (al_bytes hk (by omega) (fun j h3 h4 => by omega))
    refine ⟨this.1, this.2.trans ?_⟩
    show hdv f 1 = C
    unfold hdv
    rw [if_pos rfl]
    omega
  · have g0 := hf 0 (by omega)
    have g1 := hf 1 (by omega)
    have hk : nd (f 0) = 2 := by omega
    have := pok_yes (f := f) (n := n) (by omega) hk (by omega) hn (al_bytes hk (by omega) (fun j h3 h4 => by
      obtain rfl : j = 1 := by omega
      exact my_of (by omega)))
    refine ⟨this.1, this.2.trans ?_⟩
    rw [p1, p0]
    unfold hdv
    rw [if_neg (by decide), show (2 : Nat) ^ (7 - 2) = 32 from rfl]
    omega
  · have g0 := hf 0 (by omega)
    have g1 := hf 1 (by omega)
    have g2 := hf 2 (by omega)
    have hk : nd (f 0) = 3 := by omega
    have := pok_yes (f := f) (n := n) (by omega) hk (by omega) hn (al_bytes hk (by omega) (fun j h3 h4 => by
      by_cases e : j = 1
      · subst e; exact my_of (by omega)
      · obtain rfl : j = 2 := by omega
        have := lt_far (x := f 0) e
        exact my_of (by omega)))
    refine ⟨this.1, this.2.trans ?_⟩
    rw [p2, p1, p0]
    unfold hdv
    rw [if_neg (by decide), show (2 : Nat) ^ (7 - 3) = 16 from rfl]
    omega
  · have g0 := hf 0 (by omega)
    have g1 := hf 1 (by omega)
    have g2 := hf 2 (by omega)
    have g3 := hf 3 (by omega)
    have hk : nd (f 0) = 4 := by omega
    have := pok_yes (f := f) (n := n) (by omega) hk (by omega) hn (al_bytes hk (by omega) (fun j h3 h4 => by
      by_cases e : j = 1
      · subst e; exact my_of (by omega)
      · have := lt_far (x := f 0) e
        by_cases e2 : j = 2
        · subst e2; exact my_of (by omega)
        · obtain rfl : j = 3 := by omega
          exact my_of (by omega)))
    refine ⟨this.1, this.2.trans ?_⟩
    rw [p3, p2, p1, p0]
    unfold hdv
    rw [if_neg (by decide), show (2 : Nat) ^ (7 - 4) = 8 from rfl]
    omega

/-- BACK: a code point at the beginning has just these bytes -/
theorem point_enc {f : Nat → Nat} {n : Nat} (h : pok f n = true) : isPt (ptV f n : Int) ∧ ptK f n ≤ n ∧ 0 < ptK f n ∧ (EncB f (ptK f n) (ptV f n)) := by
  have hp := h
  unfold pok at h
  rw [Bool.and_eq_true] at h
  have h1 := of_decide_eq_true h.1
  have hk : ptK f n = nd (f 0) := by unfold ptK; rw [if_pos hp]
  have hv : ptV f n = pv f (nd (f 0)) (nd (f 0) - 1) := by unfold ptV; rw [if_pos hp]
  have hb := bytes_al rfl h.2
  have c0 := nd_cases (f 0)
  have c1 := lt_cases (f 0)
  have c2 := mt_cases (f 0)
  have p0 : ∀ k, pv f k 0 = hdv f k := fun _ => rfl
  have p1 : ∀ k, pv f k 1 = pv f k 0 * 64 + f 1 % 64 := fun _ => rfl
  have p2 : ∀ k, pv f k 2 = pv f k 1 * 64 + f 2 % 64 := fun _ => rfl
  have p3 : ∀ k, pv f k 3 = pv f k 2 * 64 + f 3 % 64 := fun _ => rfl
  have key : ptV f n < 1114112 ∧ ¬ (55296 ≤ ptV f n ∧ ptV f n ≤ 57343) ∧ EncB f (ptK f n) (ptV f n) := by
    rw [hv, hk]
    generalize hkk : nd (f 0) = k at h1 hb c0 ⊢
    rcases (show k = 1 ∨ k = 2 ∨ k = 3 ∨ k = 4 by omega) with rfl | rfl | rfl | rfl
    · have e : pv f 1 (1 - 1) = f 0 := by show hdv f 1 = f 0; unfold hdv; rw [if_pos rfl]
      rw [e]
      exact ⟨by omega, by omega, .inl ⟨by omega, rfl, rfl⟩⟩
    · have b1 := my_to (hb 1 (by omega) (by omega))
      have e : pv f 2 (2 - 1) = f 0 % 32 * 64 + f 1 % 64 := by show pv f 2 1 = _; rw [p1, p0]; unfold hdv; rw [if_neg (by decide)]
      rw [e]
      exact ⟨by omega, by omega, .inr (.inl ⟨by omega, by omega, rfl, by omega, by omega⟩)⟩
    · have b1 := my_to (hb 1 (by omega) (by omega))
      have b2 := my_to (hb 2 (by omega) (by omega))
      have d2 := lt_far (x := f 0) (j := 2) (by decide)
      have e : pv f 3 (3 - 1) = (f 0 % 16 * 64 + f 1 % 64) * 64 + f 2 % 64 := by show pv f 3 2 = _; rw [p2, p1, p0]; unfold hdv; rw [if_neg (by decide)]
      rw [e]
      exact ⟨by omega, by omega, .inr (.inr (.inl ⟨by omega, by omega, rfl, by omega, by omega, by omega⟩))⟩
    · have b1 := my_to (hb 1 (by omega) (by omega))
      have b2 := my_to (hb 2 (by omega) (by omega))
      have b3 := my_to (hb 3 (by omega) (by omega))
      have d2 := lt_far (x := f 0) (j := 2) (by decide)
      have d3 := lt_far (x := f 0) (j := 3) (by decide)
      have e : pv f 4 (4 - 1) = ((f 0 % 8 * 64 + f 1 % 64) * 64 + f 2 % 64) * 64 + f 3 % 64 := by show pv f 4 3 = _; rw [p3, p2, p1, p0]; unfold hdv; rw [if_neg (by decide)]
      rw [e]
      exact ⟨by omega, by omega, .inr (.inr (.inr ⟨by omega, by omega, rfl, by omega, by omega, by omega, by omega⟩))⟩
  refine ⟨?_, by omega, by omega, key.2.2⟩
  unfold isPt
  omega

theorem ba_ext {a b : ByteArray} (h : a.size = b.size) (e : ∀ i, i < a.size → bt a i = bt b i) : a = b := by
  apply ByteArray.ext_getElem h
  intro i h1 h2
  have := e i h1
  rw [bt_at h1, bt_at h2] at this
  exact UInt8.toNat_inj.1 this
theorem encB_fun {E F : Nat → Nat} {m m' C : Nat} (h : EncB E m C) (h' : EncB F m' C) : m = m' ∧ ∀ i, i < m → E i = F i := by
  unfold EncB at h h'
  have hm : m = m' := by omega
  refine ⟨hm, fun i hi => ?_⟩
  match i with
  | 0 => omega
  | 1 => omega
  | 2 => omega
  | 3 => omega
  | i + 4 => omega
/-- back, as texts -/
theorem back_str {s : ByteArray} (h : pok (bt s) s.size = true) : encF (ptV (bt s) s.size : Int) = s.extract 0 (ptK (bt s) s.size) := by
  obtain ⟨h1, h2, h3, h4⟩ := point_enc h
  rw [encF_yes h1]
  have hb := enc_bytes h1
  obtain ⟨e1, e2⟩ := encB_fun hb h4
  apply ba_ext
  · rw [ByteArray.size_extract]; omega
  · intro i hi
    have h5 : i < s.size := by omega
    have h6 : i < (s.extract 0 (ptK (bt s) s.size)).size := by rw [ByteArray.size_extract]; omega
    rw [e2 i hi, bt_at h5, bt_at h6, ByteArray.getElem_extract]
    simp
theorem bt_append_left {a b : ByteArray} {i : Nat} (h : i < a.size) : bt (a ++ b) i = bt a i := by
  have h2 : i < (a ++ b).size := by rw [ByteArray.size_append]; omega
  rw [bt_at h, bt_at h2, ByteArray.getElem_append_left h]
theorem bt_append_right {a b : ByteArray} {i : Nat} (h : i < b.size) : bt (a ++ b) (a.size + i) = bt b i := by
  have h2 : a.size + i < (a ++ b).size := by rw [ByteArray.size_append]; omega
  rw [bt_at h, bt_at h2, ByteArray.getElem_append_right (by omega)]
  simp
/-- there, as texts -/
theorem there_str {c : Int} (h : isPt c) (s : ByteArray) : ptK (bt (encF c ++ s)) (encF c ++ s).size = (encF c).size ∧ (ptV (bt (encF c ++ s)) (encF c ++ s).size : Int) = c ∧ 0 < (encF c).size := by
  rw [encF_yes h]
  obtain ⟨C, rfl⟩ := Int.eq_ofNat_of_zero_le h.1
  have hb := enc_bytes h
  have := enc_point hb (by unfold isPt at h; omega) (fun i hi => bt_append_left (b := s) hi) (n := (Utf8.encode (C : Int) ++ s).size) (by rw [ByteArray.size_append]; omega)
  exact ⟨this.1, by rw [this.2], by unfold EncB at hb; omega⟩
end Go.Proofs.Ytakbahhoiggmhaa.nn
