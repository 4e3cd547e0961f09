/- Joined texts, what is wanted of them: FdBackA, FdBackB. -/
import Derived.Test.YtljbnnpmnoejeaaGreatDoorJb
import Derived.Test.YtljbnnpmnoejeaaGreatDoorJc
import Derived.Test.YtljbnnpmnoejeaaGreatDoorJe
import Derived.Test.YtljbnnpmnoejeaaGreatDoorJa
import Derived.Test.YtljbnnpmnoejeaaGreatDoorJd
import Derived.Test.YtljbnnpmnoejeaaGreatDoorJk
import Derived.Test.YtljbnnpmnoejeaaGreatDoorJf
import Derived.Test.YtljbnnpmnoejeaaGreatDoorJh
namespace Go.Proofs.YtljbnnpmnoejeaaGreatDoor.nn
open Go.RowKit

theorem rn_is {s : ByteArray} {a k : Nat} (h1 : a + k ≤ s.size) (hd : ∀ i, i < k → 48 ≤ bt s (a + i) ∧ bt s (a + i) ≤ 57) (he : a + k = s.size ∨ bt s (a + k) < 48 ∨ 57 < bt s (a + k)) : rn s a = k := by
  obtain ⟨c1, c2, c3⟩ := dc_facts (fun i => bt s (a + i)) (s.size - a)
  unfold rn
  obtain ⟨r, hr⟩ : ∃ r, dc (fun i => bt s (a + i)) (s.size - a) = r := ⟨_, rfl⟩
  rw [hr] at c1 c2 c3 ⊢
  rcases Nat.lt_trichotomy r k with g | g | g
  · exfalso
    rcases c3 with c3 | c3
    · omega
    · have := hd r g
      rw [show dg (bt s (a + r)) = true from decide_eq_true this] at c3
      cases c3
  · exact g
  · exfalso
    have := dgs_at c2 g
    have h5 : 48 ≤ bt s (a + k) ∧ bt s (a + k) ≤ 57 := this
    omega
theorem at_here {s : ByteArray} {a c : Nat} (h1 : a < s.size) (h2 : bt s a = c) : at_ s a c = true := decide_eq_true ⟨h1, h2⟩
theorem at_none {s : ByteArray} {a c : Nat} (h : s.size ≤ a ∨ bt s a ≠ c) : at_ s a c = false := decide_eq_false fun g => by rcases h with h | h; (omega); (exact h g.2)
/-- digits, a point and digits -/
theorem form_plain {T : ByteArray} {a w f : Nat} (ha : a = 0 ∨ (a = 1 ∧ bt T 0 = 45)) (hs : T.size = a + w + 1 + f) (hw : 0 < w) (hf : 0 < f) (dW : ∀ i, i < w → 48 ≤ bt T (a + i) ∧ bt T (a + i) ≤ 57) (hp : bt T (a + w) = 46)
    (dF : ∀ i, i < f → 48 ≤ bt T (a + w + 1 + i) ∧ bt T (a + w + 1 + i) ≤ 57) :
    cOk T = true ∧ cW T = cutT T a (a + w) ∧ cF T = cutT T (a + w + 1) T.size ∧ cX T = ⟨#[]⟩ ∧ cN T = false ∧ scNeg T = decide (a = 1) := by
  have eA : at_ T 0 45 = decide (a = 1) := by
    rcases ha with rfl | ⟨rfl, h⟩
    · exact at_none (.inr (by have := dW 0 hw; rw [Nat.add_zero] at this; omega))
    · exact at_here (by omega) h
  have hA : cA T = a := by unfold cA; rw [eA]; rcases ha with rfl | ⟨rfl, h⟩ <;> rfl
  have r1 : rn T a = w := rn_is (by omega) dW (.inr (.inl (by omega)))
  have hB : cB T = a + w := by unfold cB; rw [hA, r1]
  have hD : cDot T = true := by unfold cDot; rw [hB]; exact at_here (by omega) hp
  have r2 : rn T (a + w + 1) = f := rn_is (by omega) dF (.inl (by omega))
  have hC : cC T = T.size := by unfold cC; rw [if_pos hD, hB, r2]; omega
  have hE : cE T = false := by unfold cE; rw [hC, at_none (.inl (Nat.le_refl _)), at_none (.inl (Nat.le_refl _))]; rfl
  have hDd : cD T = T.size := by unfold cD; rw [hE, if_neg (by decide), hC]
  refine ⟨?_, ?_, ?_, ?_, ?_, eA⟩
  · unfold cOk
    rw [hA, r1, hD, hB, r2, hE, hDd]
    simp [hw, hf]
  · unfold cW; rw [hA, hB]
  · unfold cF; rw [if_pos hD, hB, hC]
  · unfold cX; rw [hE]; rfl
  · unfold cN; rw [hE]; rfl
/-- a digit, a point and digits or not, e, - or not, and digits -/
theorem form_exp {T : ByteArray} {a f x : Nat} {dot ng : Bool} (ha : a = 0 ∨ (a = 1 ∧ bt T 0 = 45)) {C S : Nat} (hC0 : C = if dot then a + 2 + f else a + 1) (hS0 : S = if ng then C + 2 else C + 1) (hs : T.size = S + x) (hx : 0 < x) (hf : dot = true → 0 < f)
    (dW : 48 ≤ bt T a ∧ bt T a ≤ 57) (hp : dot = true → bt T (a + 1) = 46) (dF : dot = true → ∀ i, i < f → 48 ≤ bt T (a + 2 + i) ∧ bt T (a + 2 + i) ≤ 57) (he : bt T C = 101) (hn : ng = true → bt T (C + 1) = 45)
    (dX : ∀ i, i < x → 48 ≤ bt T (S + i) ∧ bt T (S + i) ≤ 57) :
    cOk T = true ∧ cW T = cutT T a (a + 1) ∧ cF T = (if dot then cutT T (a + 2) (a + 2 + f) else ⟨#[]⟩) ∧ cX T = cutT T S T.size ∧ cN T = ng ∧ scNeg T = decide (a = 1) := by
  have hCS : C < T.size ∧ C + 1 ≤ S ∧ a + 1 ≤ C := by
    cases dot <;> cases ng <;> simp at hC0 hS0 <;> omega
  have eA : at_ T 0 45 = decide (a = 1) := by
    rcases ha with rfl | ⟨rfl, h⟩
    · exact at_none (.inr (by omega))
    · exact at_here (by omega) h
  have hA : cA T = a := by unfold cA; rw [eA]; rcases ha with rfl | ⟨rfl, h⟩ <;> rfl
  have r1 : rn T a = 1 := by
    refine rn_is (by omega) (fun i hi => by obtain rfl : i = 0 := (by omega); exact dW) (.inr ?_)
    cases dot with
    | true => have := hp rfl; omega
    | false => rw [if_neg (by decide)] at hC0; rw [← hC0, he]; omega
  have hB : cB T = a + 1 := by unfold cB; rw [hA, r1]
  have hD : cDot T = dot := by
    unfold cDot
    rw [hB]
    cases dot with
    | true => exact at_here (by omega) (hp rfl)
    | false => rw [if_neg (by decide)] at hC0; exact at_none (.inr (by rw [← hC0, he]; decide))
  have r2 : dot = true → rn T (a + 1 + 1) = f := fun h => by
    rw [if_pos h] at hC0
    exact rn_is (by omega) (dF h) (.inr (.inr (by rw [show a + 1 + 1 + f = C by omega, he]; decide)))
  have hC : cC T = C := by
    unfold cC
    rw [hD, hB]
    cases dot with
    | true => rw [if_pos rfl, r2 rfl]; rw [if_pos rfl] at hC0; omega
    | false => rw [if_neg (by decide)]; rw [if_neg (by decide)] at hC0; omega
  have hE : cE T = true := by unfold cE; rw [hC, at_here hCS.1 he]; rfl
  have hx0 := dX 0 hx
  rw [Nat.add_zero] at hx0
  have hS : cS T = S ∧ sgB T (C + 1) = ng := by
    unfold cS sgA sgB
    rw [hC]
    cases ng with
    | true =>
      have h45 := hn rfl
      rw [if_pos rfl] at hS0
      rw [at_none (.inr (by rw [h45]; decide)), at_here (by omega) h45, if_neg (by decide), if_pos rfl, if_neg (by decide)]
      exact ⟨by omega, rfl⟩
    | false =>
      rw [if_neg (by decide)] at hS0
      rw [at_none (.inr (by rw [← hS0]; omega)), at_none (.inr (by rw [← hS0]; omega)), if_neg (by decide), if_neg (by decide), if_neg (by decide)]
      exact ⟨by omega, rfl⟩
  have r3 : rn T S = x := rn_is (by omega) dX (.inl (by omega))
  have hDd : cD T = T.size := by unfold cD; rw [if_pos hE, hS.1, r3]; omega
  refine ⟨?_, ?_, ?_, ?_, ?_, eA⟩
  · unfold cOk
    rw [hA, r1, hD, hB, hE, hS.1, r3, hDd]
    cases dot with
    | true => rw [r2 rfl]; simp [hf rfl, hx]
    | false => simp [hx]
  · unfold cW; rw [hA, hB]
  · unfold cF
    rw [hD, hB, hC]
    cases dot with
    | true =>
      rw [if_pos rfl] at hC0
      rw [if_pos rfl, if_pos rfl, hC0]
    | false => rw [if_neg (by decide), if_neg (by decide)]
  · unfold cX; rw [if_pos hE, hS.1, hDd]
  · unfold cN; rw [if_pos hE, hC, hS.2]
end Go.Proofs.YtljbnnpmnoejeaaGreatDoor.nn
namespace Go.Proofs.YtljbnnpmnoejeaaGreatDoor.nn
open Go.RowKit

/-- more digits 0, less of an exponent -/
theorem rn_shift {s s' : ByteArray} {z z' : Int} {b k : Nat} (hv : dv (bt s') s'.size = dv (bt s) s.size * 10 ^ k) (hz : z' = z - (k : Int)) (h : RN s z b) : RN s' z' b := by
  refine near_same (rY_pos z) (rY_pos z') ?_ h
  unfold rX rY
  rw [hv]
  subst hz
  generalize dv (bt s) s.size = V
  obtain ⟨T, hT⟩ : ∃ T, 2 ^ e74 = T := ⟨_, rfl⟩
  rw [hT]
  have e : 10 ^ z.toNat * 10 ^ (-(z - (k : Int))).toNat = 10 ^ k * 10 ^ (z - (k : Int)).toNat * 10 ^ (-z).toNat := by
    rw [← Nat.pow_add, ← Nat.pow_add, ← Nat.pow_add]
    refine congrArg (10 ^ ·) ?_
    omega
  rw [show V * 10 ^ z.toNat * T * 10 ^ (-(z - (k : Int))).toNat = V * T * (10 ^ z.toNat * 10 ^ (-(z - (k : Int))).toNat) by simp only [Nat.mul_assoc, Nat.mul_left_comm, Nat.mul_comm], e]
  simp only [Nat.mul_assoc, Nat.mul_left_comm, Nat.mul_comm]
/-- the sign ahead -/
def sgT (g : Bool) : ByteArray := if g then ⟨#[45]⟩ else ⟨#[]⟩
def sgN (g : Bool) : Nat := if g then 1 else 0
theorem sgT_size (g : Bool) : (sgT g).size = sgN g := by cases g <;> rfl
theorem sg_bt {g : Bool} {L : ByteArray} {i : Nat} (h : i < L.size) : bt (sgT g ++ L) (sgN g + i) = bt L i := by rw [← sgT_size]; exact fbt_app_right h
theorem sg_at {g : Bool} {L : ByteArray} : sgN g = 0 ∨ (sgN g = 1 ∧ bt (sgT g ++ L) 0 = 45) := by
  cases g with
  | false => exact .inl rfl
  | true =>
    refine .inr ⟨rfl, ?_⟩
    rw [fbt_app_left (by decide)]
    rfl
theorem sg_size {g : Bool} {L : ByteArray} : (sgT g ++ L).size = sgN g + L.size := by rw [ByteArray.size_append, sgT_size]
/-- the digits of a text without an exponent -/
theorem scD_plain {g : Bool} {L X : ByteArray} {w f : Nat} (hL : L.size = w + 1 + f) (hw : 0 < w) (hf : 0 < f) (hX : X.size = w + f) (h1 : ∀ i, i < w → bt X i = bt L i) (h2 : ∀ j, j < f → bt X (w + j) = bt L (w + 1 + j)) (hp : bt L w = 46) (hd : dgs (bt X) X.size = true) :
    cOk (sgT g ++ L) = true ∧ scD (sgT g ++ L) = X ∧ (cW (sgT g ++ L)).size = w ∧ (cF (sgT g ++ L)).size = f ∧ cX (sgT g ++ L) = ⟨#[]⟩ ∧ cN (sgT g ++ L) = false ∧ scNeg (sgT g ++ L) = g := by
  have hs : (sgT g ++ L).size = sgN g + w + 1 + f := by rw [sg_size, hL]; omega
  obtain ⟨a1, a2, a3, a4, a5, a6⟩ := form_plain (T := sgT g ++ L) (a := sgN g) (w := w) (f := f) sg_at hs hw hf
    (fun i hi => by rw [sg_bt (by omega), ← h1 i hi]; exact dgs_at hd (by omega)) (by rw [sg_bt (by omega)]; exact hp)
    (fun j hj => by rw [show sgN g + w + 1 + j = sgN g + (w + 1 + j) by omega, sg_bt (by omega), ← h2 j hj]; exact dgs_at hd (by omega))
  have s1 : (cutT (sgT g ++ L) (sgN g) (sgN g + w)).size = w := by rw [cutT_size (by omega)]; omega
  have s2 : (cutT (sgT g ++ L) (sgN g + w + 1) (sgT g ++ L).size).size = f := by rw [cutT_size (Nat.le_refl _)]; omega
  refine ⟨a1, ?_, by rw [a2, s1], by rw [a3, s2], a4, a5, ?_⟩
  · unfold scD
    rw [a2, a3]
    refine fba_ext (by rw [ByteArray.size_append, s1, s2, hX]) fun i hi => ?_
    rw [ByteArray.size_append, s1, s2] at hi
    rcases Nat.lt_or_ge i w with c | c
    · rw [fbt_app_left (by omega), bt_cutT (by omega) (by omega), sg_bt (by omega), h1 i c]
    · obtain ⟨j, rfl⟩ : ∃ j, i = w + j := ⟨i - w, by omega⟩
      have := fbt_app_right (a := cutT (sgT g ++ L) (sgN g) (sgN g + w)) (b := cutT (sgT g ++ L) (sgN g + w + 1) (sgT g ++ L).size) (i := j) (by omega)
      rw [s1] at this
      rw [this, bt_cutT (Nat.le_refl _) (by omega), show sgN g + w + 1 + j = sgN g + (w + 1 + j) by omega, sg_bt (by omega), h2 j (by omega)]
  · rw [a6]; cases g <;> rfl
/-- a text without an exponent says what its digits say -/
theorem sc_plain {g : Bool} {L X D : ByteArray} {w f k b : Nat} {E : Int} (hL : L.size = w + 1 + f) (hw : 0 < w) (hf : 0 < f) (hX : X.size = w + f) (h1 : ∀ i, i < w → bt X i = bt L i) (h2 : ∀ j, j < f → bt X (w + j) = bt L (w + 1 + j)) (hp : bt L w = 46) (hd : dgs (bt X) X.size = true)
    (h8 : w + f ≤ 800) (hv : dv (bt X) X.size = dv (bt D) D.size * 10 ^ k) (hV : dv (bt D) D.size ≠ 0) (hz : -(f : Int) = E - (k : Int)) (hb : RN D E b) : ScIs (sgT g ++ L) (roV g b) (roE b) := by
  obtain ⟨a1, a2, a3, a4, a5, a6, a7⟩ := scD_plain (g := g) hL hw hf hX h1 h2 hp hd
  have ez : scZ (sgT g ++ L) = -(f : Int) := by
    unfold scZ plZ
    rw [a5, a6, a4, if_neg (by decide)]
    show ((dv (bt ⟨#[]⟩) 0 : Nat) : Int) - (f : Int) = _
    simp [dv]
  refine .inr (.inr (.inr (.inr ⟨a1, ?_, ?_, by rw [ez]; omega, by rw [ez]; omega, b, ?_, by rw [a7], rfl⟩)))
  · unfold scLong
    rw [a3, a4, a5]
    have : ByteArray.size ⟨#[]⟩ = 0 := rfl
    omega
  · unfold scN
    rw [a2, hv]
    exact Nat.mul_ne_zero hV (Nat.ne_of_gt (Nat.pow_pos (by decide)))
  · rw [a2, ez]
    exact rn_shift hv hz hb
end Go.Proofs.YtljbnnpmnoejeaaGreatDoor.nn
