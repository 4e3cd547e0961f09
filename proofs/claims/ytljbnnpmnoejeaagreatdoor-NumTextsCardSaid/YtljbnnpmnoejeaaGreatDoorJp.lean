/- Joined texts, what is wanted of them: FdBackC, FdBackD, FdecFewestW, FdecBackW, Ftxt, Ftxt2, NnT. -/
import Derived.Deep.DeepCutAuto
import Derived.Test.YtljbnnpmnoejeaaGreatDoorJb
import Derived.Test.YtljbnnpmnoejeaaGreatDoorJc
import Derived.Test.YtljbnnpmnoejeaaGreatDoorJe
import Derived.Test.YtljbnnpmnoejeaaGreatDoorJh
import Derived.Test.YtljbnnpmnoejeaaGreatDoorJa
import Derived.Test.YtljbnnpmnoejeaaGreatDoorJd
import Derived.Test.YtljbnnpmnoejeaaGreatDoorJk
import Derived.Test.YtljbnnpmnoejeaaGreatDoorJf
import Derived.Test.YtljbnnpmnoejeaaGreatDoorJn
import Derived.Test.YtljbnnpmnoejeaaGreatDoorJi
import Derived.Test.YtljbnnpmnoejeaaGreatDoorJg
import Derived.Test.YtljbnnpmnoejeaaGreatDoorJl
import Derived.Test.YtljbnnpmnoejeaaGreatDoorJm
import Derived.Test.YtljbnnpmnoejeaaGreatDoorJo
namespace Go.Proofs.YtljbnnpmnoejeaaGreatDoor.nn
open Go.RowKit

theorem zk_ahead {D : ByteArray} (q : Nat) (hd : dgs (bt D) D.size = true) : dgs (bt (zk q ++ D)) (zk q ++ D).size = true ∧ dv (bt (zk q ++ D)) (zk q ++ D).size = dv (bt D) D.size := by
  obtain ⟨z1, z2⟩ := zk_num q
  obtain ⟨a1, a2⟩ := app_num (a := zk q) (b := D) (by rw [zk_size]; exact z1) hd
  refine ⟨a1, ?_⟩
  rw [a2, zk_size, z2, Nat.zero_mul, Nat.zero_add]
theorem sc_low {g : Bool} {D : ByteArray} {b q : Nat} {E : Int} (h0 : 0 < D.size) (hs : D.size ≤ 500) (hd : dgs (bt D) D.size = true) (hV : dv (bt D) D.size ≠ 0) (hq : q ≤ 200) (hz : E = -(q : Int) - (D.size : Int)) (hb : RN D E b) :
    ScIs (sgT g ++ (⟨#[48, 46]⟩ ++ zk q ++ D)) (roV g b) (roE b) := by
  rw [ByteArray.append_assoc]
  obtain ⟨a1, a2⟩ := zk_ahead q hd
  obtain ⟨b1, b2⟩ := zk_ahead 1 a1
  have s1 : ByteArray.size ⟨#[48, 46]⟩ = 2 := rfl
  have s2 : (zk q ++ D).size = q + D.size := by rw [ByteArray.size_append, zk_size]
  have s3 := zk_size 1
  refine sc_plain (X := zk 1 ++ (zk q ++ D)) (w := 1) (f := q + D.size) (k := 0) (D := D) (E := E) ?_ (by decide) (by omega) ?_ (fun i hi => ?_) (fun j hj => ?_) ?_ b1 (by omega) (by rw [b2, a2, Nat.pow_zero, Nat.mul_one]) hV (by omega) hb
  · rw [ByteArray.size_append, s1, s2]
  · rw [ByteArray.size_append, s3, s2]
  · obtain rfl : i = 0 := by omega
    rw [fbt_app_left (by rw [s3]; decide), fbt_app_left (by rw [s1]; decide)]
    rfl
  · have e1 := fbt_app_right (a := zk 1) (b := zk q ++ D) (i := j) (by omega)
    have e2 := fbt_app_right (a := ⟨#[48, 46]⟩) (b := zk q ++ D) (i := j) (by omega)
    rw [s3] at e1
    rw [s1] at e2
    rw [e1, show 1 + 1 + j = 2 + j by omega, e2]
  · rw [fbt_app_left (by rw [s1]; decide)]
    rfl
theorem sc_high {g : Bool} {D : ByteArray} {b q : Nat} {E : Int} (h0 : 0 < D.size) (hs : D.size ≤ 500) (hd : dgs (bt D) D.size = true) (hV : dv (bt D) D.size ≠ 0) (hq : q ≤ 200) (hz : E = (q : Int)) (hb : RN D E b) :
    ScIs (sgT g ++ (D ++ zk q ++ ⟨#[46, 48]⟩)) (roV g b) (roE b) := by
  obtain ⟨b1, b2⟩ := dv_zk hd (q + 1)
  have s1 : ByteArray.size ⟨#[46, 48]⟩ = 2 := rfl
  have s2 : (D ++ zk q).size = D.size + q := by rw [ByteArray.size_append, zk_size]
  have s3 := zk_size (q + 1)
  have r1 := fbt_app_right (a := D ++ zk q) (b := ⟨#[46, 48]⟩) (i := 0) (by rw [s1]; decide)
  have r2 := fbt_app_right (a := D ++ zk q) (b := ⟨#[46, 48]⟩) (i := 1) (by rw [s1]; decide)
  rw [s2] at r1 r2
  refine sc_plain (X := D ++ zk (q + 1)) (w := D.size + q) (f := 1) (k := q + 1) (D := D) (E := E) ?_ (by omega) (by decide) ?_ (fun i hi => ?_) (fun j hj => ?_) ?_ b1 (by omega) b2 hV (by omega) hb
  · rw [ByteArray.size_append, s1, s2]
  · rw [ByteArray.size_append, s3]; omega
  · rw [fbt_app_left (a := D ++ zk q) (by omega)]
    rcases Nat.lt_or_ge i D.size with c | c
    · rw [fbt_app_left c, fbt_app_left c]
    · obtain ⟨j, rfl⟩ : ∃ j, i = D.size + j := ⟨i - D.size, by omega⟩
      rw [fbt_app_right (by rw [s3]; omega), fbt_app_right (by rw [zk_size]; omega), zk_at (by omega), zk_at (by omega)]
  · obtain rfl : j = 0 := by omega
    have e := fbt_app_right (a := D) (b := zk (q + 1)) (i := q) (by omega)
    rw [zk_at (by omega)] at e
    show bt (D ++ zk (q + 1)) (D.size + q) = bt (D ++ zk q ++ ⟨#[46, 48]⟩) (D.size + q + 1)
    rw [e, r2]
    rfl
  · rw [Nat.add_zero] at r1
    rw [r1]
    rfl
theorem sc_mid {g : Bool} {D : ByteArray} {b q : Nat} {E : Int} (h0 : 0 < q) (h1 : q < D.size) (hs : D.size ≤ 500) (hd : dgs (bt D) D.size = true) (hV : dv (bt D) D.size ≠ 0) (hz : E = (q : Int) - (D.size : Int)) (hb : RN D E b) :
    ScIs (sgT g ++ (cutT D 0 q ++ ⟨#[46]⟩ ++ cutT D q D.size)) (roV g b) (roE b) := by
  have s1 : ByteArray.size ⟨#[46]⟩ = 1 := rfl
  have s2 : (cutT D 0 q).size = q := by rw [cutT_size (by omega)]; omega
  have s3 : (cutT D q D.size).size = D.size - q := by rw [cutT_size (by omega)]
  have s4 : (cutT D 0 q ++ ⟨#[46]⟩).size = q + 1 := by rw [ByteArray.size_append, s1, s2]
  refine sc_plain (X := D) (w := q) (f := D.size - q) (k := 0) (D := D) (E := E) ?_ h0 (by omega) (by omega) (fun i hi => ?_) (fun j hj => ?_) ?_ hd (by omega) (by rw [Nat.pow_zero, Nat.mul_one]) hV (by omega) hb
  · rw [ByteArray.size_append, s4, s3]
  · rw [fbt_app_left (by omega), fbt_app_left (by omega), bt_cutT (by omega) (by omega), Nat.zero_add]
  · have e := fbt_app_right (a := cutT D 0 q ++ ⟨#[46]⟩) (b := cutT D q D.size) (i := j) (by omega)
    rw [s4] at e
    rw [e, bt_cutT (Nat.le_refl _) (by omega)]
  · have e := fbt_app_right (a := cutT D 0 q) (b := ⟨#[46]⟩) (i := 0) (by rw [s1]; decide)
    rw [s2, Nat.add_zero] at e
    rw [fbt_app_left (by omega), e]
    rfl
end Go.Proofs.YtljbnnpmnoejeaaGreatDoor.nn
namespace Go.Proofs.YtljbnnpmnoejeaaGreatDoor.nn
open Go.RowKit

/-- digits as a text -/
def xdT (N : Nat) : ByteArray := ⟨(Lib.decDigits N).toArray⟩
theorem xd_num (N : Nat) : dgs (bt (xdT N)) (xdT N).size = true ∧ dv (bt (xdT N)) (xdT N).size = N ∧ 0 < (xdT N).size := by
  obtain ⟨r1, r2⟩ := dec_read N
  have hz : (xdT N).size = (Lib.decDigits N).length := List.size_toArray
  have hb : ∀ i, i < (Lib.decDigits N).length → bt (xdT N) i = lf_ (Lib.decDigits N) i := fun i hi => bt_lf _ i hi
  rw [hz, dgs_congr hb, dv_congr hb]
  exact ⟨r1, r2, by rw [Lib.decDigits_length]; exact Lib.nDigits_pos N⟩
/-- what stands behind the first digit -/
def ptT (D : ByteArray) : ByteArray := if 1 < D.size then ⟨#[46]⟩ ++ cutT D 1 D.size else ⟨#[]⟩
theorem wx_form (D : ByteArray) (z : Int) : (⟨(wxL D z).toArray⟩ : ByteArray) = cutT D 0 1 ++ ptT D ++ ⟨#[101]⟩ ++ (sgT (decide (z < 0)) ++ xdT z.natAbs) := by
  have hi : Lib.itoa z = (sgT (decide (z < 0)) ++ xdT z.natAbs).data.toList := by
    unfold Lib.itoa xdT sgT
    by_cases c : z < 0
    · rw [if_pos c, decide_eq_true c, if_pos rfl]
      simp
    · rw [if_neg c, decide_eq_false c, if_neg (by decide), show z.natAbs = z.toNat by omega]
      simp
  unfold wxL ptT
  rw [hi]
  split
  · refine ByteArray.ext ?_
    simp
  · refine ByteArray.ext ?_
    simp
theorem sc_exp {g : Bool} {D : ByteArray} {b : Nat} {E z : Int} (h0 : 0 < D.size) (hs : D.size ≤ 500) (hd : dgs (bt D) D.size = true) (hV : dv (bt D) D.size ≠ 0) (hz : z = E + (D.size : Int) - 1) (hz2 : -1000 ≤ z ∧ z ≤ 1000) (hb : RN D E b) :
    ScIs (sgT g ++ ⟨(wxL D z).toArray⟩) (roV g b) (roE b) := by
  rw [wx_form]
  obtain ⟨x1, x2, x3⟩ := xd_num z.natAbs
  have x4 : (xdT z.natAbs).size ≤ 4 := by
    show (Lib.decDigits z.natAbs).toArray.size ≤ 4
    rw [List.size_toArray, Lib.decDigits_length]
    exact nd_le 4 _ (by decide) (by have : (10 : Nat) ^ 4 = 10000 := by decide
                                    omega)
  obtain ⟨X, hX⟩ : ∃ X, xdT z.natAbs = X := ⟨_, rfl⟩
  rw [hX] at x1 x2 x3 x4 ⊢
  obtain ⟨ng, hng⟩ : ∃ n, decide (z < 0) = n := ⟨_, rfl⟩
  rw [hng]
  have s1 : (cutT D 0 1).size = 1 := by rw [cutT_size (by omega)]
  have s2 : (ptT D).size = if 1 < D.size then 1 + (D.size - 1) else 0 := by
    unfold ptT
    split
    · rw [ByteArray.size_append, cutT_size (Nat.le_refl _)]; rfl
    · rfl
  obtain ⟨P, hP⟩ : ∃ P, ptT D = P := ⟨_, rfl⟩
  have e101 : ByteArray.size ⟨#[101]⟩ = 1 := rfl
  have sM : (sgT ng ++ X).size = sgN ng + X.size := sg_size
  have s3 : (cutT D 0 1 ++ P).size = 1 + P.size := by rw [ByteArray.size_append, s1]
  have s4 : (cutT D 0 1 ++ P ++ ⟨#[101]⟩).size = 1 + P.size + 1 := by rw [ByteArray.size_append, s3]; rfl
  obtain ⟨L, hL⟩ : ∃ L, cutT D 0 1 ++ P ++ ⟨#[101]⟩ ++ (sgT ng ++ X) = L := ⟨_, rfl⟩
  have sL : L.size = 1 + P.size + 1 + (sgN ng + X.size) := by rw [← hL, ByteArray.size_append, s4, sM]
  have b0 : bt L 0 = bt D 0 := by
    rw [← hL, fbt_app_left (by omega), fbt_app_left (by omega), fbt_app_left (by omega)]
    exact bt_cutT (s := D) (a := 0) (b := 1) (i := 0) (by omega) (by omega)
  have bP : ∀ i, i < P.size → bt L (1 + i) = bt P i := fun i hi => by
    have e := fbt_app_right (a := cutT D 0 1) (b := P) (i := i) hi
    rw [s1] at e
    rw [← hL, fbt_app_left (by omega), fbt_app_left (by omega), e]
  have bC : bt L (1 + P.size) = 101 := by
    have e := fbt_app_right (a := cutT D 0 1 ++ P) (b := ⟨#[101]⟩) (i := 0) (by rw [e101]; decide)
    rw [s3, Nat.add_zero] at e
    rw [← hL, fbt_app_left (by omega), e]
    rfl
  have bM : ∀ i, i < sgN ng + X.size → bt L (1 + P.size + 1 + i) = bt (sgT ng ++ X) i := fun i hi => by
    have e := fbt_app_right (a := cutT D 0 1 ++ P ++ ⟨#[101]⟩) (b := sgT ng ++ X) (i := i) (by omega)
    rw [s4] at e
    rw [← hL, e]
  rw [hP, hL]
  rw [hP] at s2
  have hd0 := dgs_at hd h0
  have hPd : 1 < D.size → P = ⟨#[46]⟩ ++ cutT D 1 D.size := fun c => by rw [← hP]; unfold ptT; rw [if_pos c]
  have s46 : ByteArray.size ⟨#[46]⟩ = 1 := rfl
  have p0 : 1 < D.size → bt P 0 = 46 := fun c => by rw [hPd c, fbt_app_left (by rw [s46]; decide)]; rfl
  have p1 : 1 < D.size → ∀ i, i < D.size - 1 → bt P (1 + i) = bt D (1 + i) := fun c i hi => by
    have e := fbt_app_right (a := ⟨#[46]⟩) (b := cutT D 1 D.size) (i := i) (by rw [cutT_size (Nat.le_refl _)]; omega)
    rw [s46] at e
    rw [hPd c, e, bt_cutT (Nat.le_refl _) (by omega)]
  have sT : (sgT g ++ L).size = sgN g + L.size := sg_size
  have hsn : ∀ c : Bool, sgN c = if c then 1 else 0 := fun _ => rfl
  obtain ⟨a1, a2, a3, a4, a5, a6⟩ := form_exp (T := sgT g ++ L) (a := sgN g) (f := D.size - 1) (x := X.size) (dot := decide (1 < D.size)) (ng := ng) (C := sgN g + 1 + P.size) (S := sgN g + 1 + P.size + 1 + sgN ng) sg_at
    (by rw [s2]; by_cases c : 1 < D.size
        · rw [if_pos c, decide_eq_true c, if_pos rfl]; omega
        · rw [if_neg c, decide_eq_false c, if_neg (by decide)])
    (by cases ng <;> rfl) (by rw [sT, sL]; omega) x3 (fun c => by have := of_decide_eq_true c; omega)
    (by have e := sg_bt (g := g) (L := L) (i := 0) (by omega)
        rw [Nat.add_zero] at e
        rw [e, b0]
        exact hd0)
    (fun c => by
      have c := of_decide_eq_true c
      rw [if_pos c] at s2
      have e := bP 0 (by omega)
      rw [sg_bt (by omega)]
      exact e.trans (p0 c))
    (fun c i hi => by
      have c := of_decide_eq_true c
      rw [if_pos c] at s2
      have e := bP (1 + i) (by omega)
      rw [p1 c i hi] at e
      rw [show sgN g + 2 + i = sgN g + (1 + (1 + i)) by omega, sg_bt (by omega), e]
      exact dgs_at hd (by omega))
    (by rw [Nat.add_assoc, sg_bt (by omega)]; exact bC)
    (fun c => by
      subst c
      have e := bM 0 (by rw [hsn]; simp; omega)
      rw [show sgN g + 1 + P.size + 1 = sgN g + (1 + P.size + 1 + 0) by omega, sg_bt (by rw [hsn] at sL; simp at sL; omega), e, fbt_app_left (by decide)]
      rfl)
    (fun i hi => by
      have e := bM (sgN ng + i) (by omega)
      rw [sg_bt hi] at e
      rw [show sgN g + 1 + P.size + 1 + sgN ng + i = sgN g + (1 + P.size + 1 + (sgN ng + i)) by omega, sg_bt (by omega), e]
      exact dgs_at x1 hi)
  have hC0 : sgN g + 1 + P.size = if 1 < D.size then sgN g + 2 + (D.size - 1) else sgN g + 1 := by
    rw [s2]
    split <;> omega
  have w1 : (cutT (sgT g ++ L) (sgN g) (sgN g + 1)).size = 1 := by rw [cutT_size (by omega)]; omega
  have eF : (cF (sgT g ++ L)).size = D.size - 1 ∧ ∀ i, i < D.size - 1 → bt (cF (sgT g ++ L)) i = bt D (1 + i) := by
    rw [a3]
    by_cases c : 1 < D.size
    · rw [decide_eq_true c, if_pos rfl]
      rw [if_pos c] at s2
      refine ⟨by rw [cutT_size (by omega)]; omega, fun i hi => ?_⟩
      have e := bP (1 + i) (by omega)
      rw [p1 c i hi] at e
      rw [bt_cutT (by omega) (by omega), show sgN g + 2 + i = sgN g + (1 + (1 + i)) by omega, sg_bt (by omega), e]
    · rw [decide_eq_false c, if_neg (by decide)]
      exact ⟨by show 0 = _; omega, fun i hi => by omega⟩
  have eX : cX (sgT g ++ L) = X := by
    rw [a4]
    refine fba_ext (by rw [cutT_size (Nat.le_refl _)]; omega) fun i hi => ?_
    rw [cutT_size (Nat.le_refl _)] at hi
    have e := bM (sgN ng + i) (by omega)
    rw [sg_bt (by omega)] at e
    rw [bt_cutT (Nat.le_refl _) (by omega), show sgN g + 1 + P.size + 1 + sgN ng + i = sgN g + (1 + P.size + 1 + (sgN ng + i)) by omega, sg_bt (by omega), e]
  have eD : scD (sgT g ++ L) = D := by
    unfold scD
    rw [a2]
    refine fba_ext (by rw [ByteArray.size_append, w1, eF.1]; omega) fun i hi => ?_
    rw [ByteArray.size_append, w1, eF.1] at hi
    rcases (by omega : i = 0 ∨ 1 ≤ i) with rfl | c
    · have e := sg_bt (g := g) (L := L) (i := 0) (by omega)
      rw [fbt_app_left (by omega), bt_cutT (by omega) (by omega), e, b0]
    · obtain ⟨j, rfl⟩ : ∃ j, i = 1 + j := ⟨i - 1, by omega⟩
      have e := fbt_app_right (a := cutT (sgT g ++ L) (sgN g) (sgN g + 1)) (b := cF (sgT g ++ L)) (i := j) (by omega)
      rw [w1] at e
      rw [e, eF.2 j (by omega)]
  have eZ : scZ (sgT g ++ L) = E := by
    unfold scZ plZ
    rw [eX, eF.1, a5, x2]
    cases ng with
    | true =>
      have := of_decide_eq_true hng
      rw [if_pos rfl]
      omega
    | false =>
      have := of_decide_eq_false hng
      rw [if_neg (by decide)]
      omega
  have hWs : (cW (sgT g ++ L)).size = 1 := by rw [a2, w1]
  refine .inr (.inr (.inr (.inr ⟨a1, ?_, ?_, by rw [eZ]; omega, by rw [eZ]; omega, b, by rw [eD, eZ]; exact hb, ?_, rfl⟩)))
  · unfold scLong
    rw [hWs, eF.1, eX]
    omega
  · unfold scN
    rw [eD]
    exact hV
  · rw [a6]
    cases g <;> rfl
end Go.Proofs.YtljbnnpmnoejeaaGreatDoor.nn
namespace Go.Proofs.YtljbnnpmnoejeaaGreatDoor.nn
open Go.RowKit

theorem sh_size (m : Nat) (e : Int) : (shD m e).size = (shL m e).length := List.size_toArray
theorem roV_lt {neg : Bool} {b : Nat} (h : b < inf) : roV neg b = sB neg + b ∧ roE b = 0 := by unfold roV roE; rw [if_pos h, if_pos h]; exact ⟨rfl, rfl⟩
end Go.Proofs.YtljbnnpmnoejeaaGreatDoor.nn
namespace Go.Proofs.YtljbnnpmnoejeaaGreatDoor.nn
open Go.RowKit

theorem xa_sign {x : Nat} (hx : x < 18446744073709551616) (hO : xaO x = true) : (if xaS x = true then (⟨#[45]⟩ : ByteArray) else ⟨#[]⟩) = sgT (decide (9223372036854775808 ≤ x)) := by
  have hO := of_decide_eq_true hO
  have e : xaS x = decide (9223372036854775808 ≤ x) := by
    unfold xaS
    rw [if_neg hO]
    unfold sg
    rw [show xb 64 + fb 64 = 63 from rfl, show (2 : Nat) ^ 63 = 9223372036854775808 by decide]
    by_cases c : 9223372036854775808 ≤ x
    · rw [decide_eq_true c, decide_eq_true (by omega)]
    · rw [decide_eq_false c, decide_eq_false (by omega)]
  rw [e]
  rfl
theorem x_parts {x b : Nat} (_hx : x < 18446744073709551616) (hb : b = x % 9223372036854775808) : sB (decide (9223372036854775808 ≤ x)) + b = x := by
  unfold sB
  by_cases c : 9223372036854775808 ≤ x
  · rw [decide_eq_true c, if_pos rfl]; omega
  · rw [decide_eq_false c, if_neg (by decide)]; omega
theorem sc_zero (g : Bool) : ScIs (sgT g ++ (⟨#[48]⟩ ++ zk 0 ++ ⟨#[46, 48]⟩)) (sB g) 0 := by
  have hL : (⟨#[48]⟩ ++ zk 0 ++ ⟨#[46, 48]⟩ : ByteArray) = ⟨#[48, 46, 48]⟩ := rfl
  rw [hL]
  obtain ⟨a1, a2, a3, a4, a5, a6, a7⟩ := scD_plain (g := g) (L := ⟨#[48, 46, 48]⟩) (X := ⟨#[48, 48]⟩) (w := 1) (f := 1) rfl (by decide) (by decide) rfl
    (fun i hi => by obtain rfl : i = 0 := (by omega); rfl) (fun i hi => by obtain rfl : i = 0 := (by omega); rfl) rfl (by decide)
  refine .inr (.inr (.inl ⟨a1, ?_, .inl ?_, by rw [a7], rfl⟩))
  · unfold scLong
    rw [a3, a4, a5]
    have : ByteArray.size ⟨#[]⟩ = 0 := rfl
    omega
  · unfold scN
    rw [a2]
    decide
theorem lo_forms {g : Bool} {D : ByteArray} {b : Nat} {E : Int} (h0 : 0 < D.size) (hs : D.size ≤ 500) (hd : dgs (bt D) D.size = true) (hV : dv (bt D) D.size ≠ 0) (hE : -600 ≤ E ∧ E ≤ 400) (hb : RN D E b) :
    ScIs (sgT g ++ loT D (D.size + E)) (roV g b) (roE b) := by
  unfold loT
  by_cases c1 : (D.size : Int) + E < -5 ∨ 21 < (D.size : Int) + E
  · rw [if_pos c1]
    exact sc_exp h0 hs hd hV (by omega) (by omega) hb
  · rw [if_neg c1]
    by_cases c2 : (D.size : Int) + E ≤ 0
    · rw [if_pos c2]
      exact sc_low h0 hs hd hV (by omega) (by omega) hb
    · rw [if_neg c2]
      by_cases c3 : (D.size : Int) ≤ (D.size : Int) + E
      · rw [if_pos c3]
        exact sc_high h0 hs hd hV (by omega) (by omega) hb
      · rw [if_neg c3]
        exact sc_mid (by omega) (by omega) hs hd hV (by omega) hb
end Go.Proofs.YtljbnnpmnoejeaaGreatDoor.nn
namespace Go.Proofs.YtljbnnpmnoejeaaGreatDoor.nn
open Go.RowKit

def ftD (x : Nat) : ByteArray := if xaM x = 0 then ⟨#[48]⟩ else shD (xaM x) (xaE x)
def ftE (x : Nat) : Int := if xaM x = 0 then 0 else shE (xaM x) (xaE x)
def ftT (x : Nat) : ByteArray := if xaO x = true then sgT (decide (9223372036854775808 ≤ x)) ++ loT (ftD x) ((ftD x).size + ftE x) else ⟨#[]⟩
def ftR (x : Nat) : Nat := if xaO x = true then 0 else 1
/-- digits and exponent of a finite float -/
structure Ft (x : Nat) (D : ByteArray) (E : Int) : Prop where
  pos : 0 < D.size
  len : D.size ≤ 17
  dg : dgs (bt D) D.size = true
  head : bt D 0 ≠ 48 ∨ (D = ⟨#[48]⟩ ∧ E = 0)
  ex : -600 ≤ E ∧ E ≤ 400
  sc : ScIs (sgT (decide (9223372036854775808 ≤ x)) ++ loT D (D.size + E)) x 0
theorem ft_ok {x : Nat} (hx : x < 18446744073709551616) (hO : xaO x = true) : Ft x (ftD x) (ftE x) := by
  by_cases hm : xaM x = 0
  · have e1 : ftD x = ⟨#[48]⟩ := if_pos hm
    have e2 : ftE x = 0 := if_pos hm
    rw [e1, e2]
    have hb : 0 = x % 9223372036854775808 := by
      have hO := of_decide_eq_true hO
      have e1 : ex 64 x = x / 4503599627370496 % 2048 := rfl
      have e2 : fr 64 x = x % 4503599627370496 := rfl
      have hh : hid52 = 4503599627370496 := rfl
      unfold xaM at hm
      rw [if_neg hO] at hm
      split at hm <;> omega
    have hxp := x_parts hx hb
    have hlo : loT ⟨#[48]⟩ ((ByteArray.size ⟨#[48]⟩ : Int) + 0) = ⟨#[48]⟩ ++ zk 0 ++ ⟨#[46, 48]⟩ := by
      unfold loT
      rw [if_neg (by decide), if_neg (by decide), if_pos (by decide)]
      rfl
    refine ⟨by decide, by decide, by decide, .inr ⟨rfl, rfl⟩, by decide, ?_⟩
    have h := sc_zero (decide (9223372036854775808 ≤ x))
    rw [hlo]
    rw [Nat.add_zero] at hxp
    rwa [hxp] at h
  · have e1 : ftD x = shD (xaM x) (xaE x) := if_neg hm
    have e2 : ftE x = shE (xaM x) (xaE x) := if_neg hm
    rw [e1, e2]
    obtain ⟨hF, hb, hi⟩ := xa_fe x hx hO hm
    have hxp := x_parts hx hb
    generalize xaM x = m at *
    generalize xaE x = e at *
    obtain ⟨j, b1, b2, b3, b4, b5, b6⟩ := hF.found
    obtain ⟨a1, a2, a3, a4, a5⟩ := hF.span
    have hN0 := fe_pos hF
    obtain ⟨t, V, d1, d2, d3, d4, d5, d6, d7, d8⟩ := sh_digits hN0 (shL m e) rfl
    have hsz := sh_size m e
    have h17 := fe_17 hF d1 d2 d3
    have hpb := fe_place hF
    have hE : shE m e = spP m e + (t : Int) := by unfold shE; rw [d1]; omega
    have ht : t ≤ 20 := by
      have h20 : (Lib.decDigits (shN m e)).length ≤ 20 := by rw [Lib.decDigits_length]; have := Lib.numDigits_eq (shN m e) hN0 (by omega); split at this <;> omega
      omega
    rw [← hsz] at d4 d5 d6 h17
    have hRN : RN (shD m e) (shE m e) (bm m e) := (hF.near (shD m e) t (shE m e) hE).2 (by rw [show dv (bt (shD m e)) (shD m e).size = V from d6, ← d2]; exact ⟨b3, b4⟩)
    have hV0 : dv (bt (shD m e)) (shD m e).size ≠ 0 := by rw [show dv (bt (shD m e)) (shD m e).size = V from d6]; omega
    obtain ⟨r1, r2⟩ := roV_lt (neg := decide (9223372036854775808 ≤ x)) hi
    have hsc := lo_forms (g := decide (9223372036854775808 ≤ x)) d4 (by omega) d5 hV0 (by rw [hE]; omega) hRN
    rw [r1, r2, hxp] at hsc
    exact ⟨d4, h17, d5, .inl d7, by rw [hE]; omega, hsc⟩
theorem ft_sg {x : Nat} (hx : x < 18446744073709551616) (hO : xaO x = true) : (if xaS x = true then (⟨#[45]⟩ : ByteArray) else ⟨#[]⟩) = sgT (decide (9223372036854775808 ≤ x)) := xa_sign hx hO
/-- a form that is right, but for zeros ahead, is a number -/
theorem nm_of_ok {s : ByteArray} (h : cOk s = true) (hz : bt s (cA s) = 48 → rn s (cA s) = 1) : NmIs s s.size 0 := by
  unfold cOk at h
  simp only [Bool.and_eq_true, decide_eq_true_eq, Bool.or_eq_true, Bool.not_eq_true'] at h
  obtain ⟨⟨⟨h1, h2⟩, h3⟩, h4⟩ := h
  obtain ⟨q, hB, hq⟩ := Beh.first at_neg (by cases at_ s 0 45 <;> simp) h1
  have e1 : cA s + (if bt s (cA s) = 48 then 1 else rn s (cA s)) = cB s := by
    unfold cB
    by_cases e : bt s (cA s) = 48
    · rw [if_pos e, hz e]
    · rw [if_neg e]
  rw [e1] at hB
  have hC : ∃ q', Beh s (cC s) q' ∧ ((q' = 2 ∨ q' = 3) → at_ s (cC s) 46 = false) := by
    unfold cC
    cases hd : cDot s with
    | true =>
      rw [if_pos rfl]
      have h4 := Beh.point hB hq hd
      have h5 : 0 < rn s (cB s + 1) := by
        rcases h2 with h2 | h2
        · rw [hd] at h2; cases h2
        · exact h2
      exact ⟨5, Beh.frac h4 h5, fun g => by omega⟩
    | false =>
      rw [if_neg (by decide)]
      exact ⟨q, hB, fun _ => hd⟩
  obtain ⟨q', hC, hp⟩ := hC
  cases hE : cE s with
  | false =>
    have := hC.fine hE hp
    have e2 : cD s = cC s := by unfold cD; rw [hE, if_neg (by decide)]
    rwa [← e2, h4] at this
  | true =>
    have h6 := hC.exp hE
    have h5 : 0 < rn s (cS s) := by
      rcases h3 with h3 | h3
      · rw [hE] at h3; cases h3
      · exact h3
    have e2 : cD s = cS s + rn s (cS s) := by unfold cD; rw [hE, if_pos rfl]
    have hS : ∃ q2, At s (cS s) q2 ∧ (q2 = 6 ∨ q2 = 7) := by
      unfold cS sgA
      by_cases g1 : at_ s (cC s + 1) 43 = true
      · rw [if_pos g1]
        exact ⟨7, h6.signed (by rw [g1]; rfl), .inr rfl⟩
      · rw [if_neg g1]
        by_cases g2 : at_ s (cC s + 1) 45 = true
        · rw [if_pos g2]
          exact ⟨7, h6.signed (by rw [g2, Bool.or_true]), .inr rfl⟩
        · rw [if_neg g2]
          exact ⟨6, h6, .inl rfl⟩
    obtain ⟨q2, hS, hq2⟩ := hS
    have := hS.last hq2 h5
    rwa [← e2, h4] at this
theorem sc_ok {s : ByteArray} {V : Nat} (h : ScIs s V 0) : cOk s = true := by
  rcases h with ⟨_, _, h⟩ | ⟨h, _⟩ | ⟨h, _⟩ | ⟨h, _⟩ | ⟨h, _⟩
  · cases h
  · exact h
  · exact h
  · exact h
  · exact h
theorem dig_lt {D : ByteArray} (hd : dgs (bt D) D.size = true) (h0 : 0 < D.size) : 48 ≤ bt D 0 ∧ bt D 0 ≤ 57 := dgs_at hd h0
/-- how a float is written: a point or an e behind the first digits; a 0 ahead stands alone -/
theorem lo_form {D : ByteArray} {E : Int} (h0 : 0 < D.size) (hd : dgs (bt D) D.size = true) (hh : bt D 0 ≠ 48 ∨ (D = ⟨#[48]⟩ ∧ E = 0)) :
    ∃ i, i < (loT D (D.size + E)).size ∧ wb (bt (loT D (D.size + E)) i) = true ∧ (bt (loT D (D.size + E)) 0 = 48 → i = 1) ∧ 48 ≤ bt (loT D (D.size + E)) 0 ∧ bt (loT D (D.size + E)) 0 ≤ 57 := by
  have h9 := dig_lt hd h0
  obtain ⟨p, hp⟩ : ∃ p, (D.size : Int) + E = p := ⟨_, rfl⟩
  rw [hp]
  unfold loT
  by_cases c1 : p < -5 ∨ 21 < p
  · rw [if_pos c1, wx_form]
    have s1 : (cutT D 0 1).size = 1 := by rw [cutT_size (by omega)]
    have b0 : bt (cutT D 0 1) 0 = bt D 0 := by have := bt_cutT (s := D) (a := 0) (b := 1) (i := 0) (by omega) (by omega); rwa [Nat.zero_add] at this
    rw [ByteArray.append_assoc, ByteArray.append_assoc]
    have a0 : bt (cutT D 0 1 ++ (ptT D ++ (⟨#[101]⟩ ++ (sgT (decide (p - 1 < 0)) ++ xdT (p - 1).natAbs)))) 0 = bt D 0 := by rw [fbt_app_left (by omega), b0]
    have a1 : ∀ R : ByteArray, wb (bt (cutT D 0 1 ++ (ptT D ++ (⟨#[101]⟩ ++ R))) 1) = true ∧ 1 < (cutT D 0 1 ++ (ptT D ++ (⟨#[101]⟩ ++ R))).size := fun R => by
      have e : bt (cutT D 0 1 ++ (ptT D ++ (⟨#[101]⟩ ++ R))) 1 = bt (ptT D ++ (⟨#[101]⟩ ++ R)) 0 := by
        have := fbt_app_right (a := cutT D 0 1) (b := ptT D ++ (⟨#[101]⟩ ++ R)) (i := 0) (by rw [ByteArray.size_append, ByteArray.size_append]; have : ByteArray.size ⟨#[101]⟩ = 1 := rfl; omega)
        rwa [s1] at this
      refine ⟨?_, by rw [ByteArray.size_append, ByteArray.size_append, ByteArray.size_append]; have : ByteArray.size ⟨#[101]⟩ = 1 := rfl; omega⟩
      rw [e]
      unfold ptT
      split
      · rw [fbt_app_left (by rw [ByteArray.size_append]; have : ByteArray.size ⟨#[46]⟩ = 1 := rfl; omega), fbt_app_left (by decide)]
        rfl
      · rw [empty_app, fbt_app_left (by decide)]
        rfl
    rw [a0]
    exact ⟨1, (a1 _).2, (a1 _).1, fun _ => rfl, h9.1, h9.2⟩
  · rw [if_neg c1]
    by_cases c2 : p ≤ 0
    · rw [if_pos c2, ByteArray.append_assoc]
      have z2 : ByteArray.size ⟨#[48, 46]⟩ = 2 := rfl
      have a0 : bt (⟨#[48, 46]⟩ ++ (zk (-p).toNat ++ D)) 0 = 48 := by rw [fbt_app_left (by omega)]; rfl
      have a1 : bt (⟨#[48, 46]⟩ ++ (zk (-p).toNat ++ D)) 1 = 46 := by rw [fbt_app_left (by omega)]; rfl
      rw [a0]
      exact ⟨1, by rw [ByteArray.size_append]; omega, by rw [a1]; rfl, fun _ => rfl, by omega, by omega⟩
    · rw [if_neg c2]
      by_cases c3 : (D.size : Int) ≤ p
      · rw [if_pos c3]
        have z2 : ByteArray.size ⟨#[46, 48]⟩ = 2 := rfl
        have z1 : (D ++ zk (p - D.size).toNat).size = p.toNat := by rw [ByteArray.size_append, zk_size]; omega
        have a0 : bt (D ++ zk (p - D.size).toNat ++ ⟨#[46, 48]⟩) 0 = bt D 0 := by rw [fbt_app_left (by omega), fbt_app_left (by omega)]
        have a1 : bt (D ++ zk (p - D.size).toNat ++ ⟨#[46, 48]⟩) p.toNat = 46 := by
          have := fbt_app_right (a := D ++ zk (p - D.size).toNat) (b := ⟨#[46, 48]⟩) (i := 0) (by decide)
          rw [z1, Nat.add_zero] at this
          rw [this]
          rfl
        rw [a0]
        refine ⟨p.toNat, by rw [ByteArray.size_append, z1]; omega, by rw [a1]; rfl, fun g => ?_, h9.1, h9.2⟩
        rcases hh with hh | ⟨rfl, rfl⟩
        · exact absurd g hh
        · have : ByteArray.size ⟨#[48]⟩ = 1 := rfl
          omega
      · rw [if_neg c3, ByteArray.append_assoc]
        have z1 : (cutT D 0 p.toNat).size = p.toNat := by rw [cutT_size (by omega)]; omega
        have z3 : ByteArray.size ⟨#[46]⟩ = 1 := rfl
        have a0 : bt (cutT D 0 p.toNat ++ (⟨#[46]⟩ ++ cutT D p.toNat D.size)) 0 = bt D 0 := by
          rw [fbt_app_left (by omega)]
          have := bt_cutT (s := D) (a := 0) (b := p.toNat) (i := 0) (by omega) (by omega)
          rwa [Nat.zero_add] at this
        have a1 : bt (cutT D 0 p.toNat ++ (⟨#[46]⟩ ++ cutT D p.toNat D.size)) p.toNat = 46 := by
          have := fbt_app_right (a := cutT D 0 p.toNat) (b := ⟨#[46]⟩ ++ cutT D p.toNat D.size) (i := 0) (by rw [ByteArray.size_append]; omega)
          rw [z1, Nat.add_zero] at this
          rw [this, fbt_app_left (by decide)]
          rfl
        rw [a0]
        refine ⟨p.toNat, by rw [ByteArray.size_append, ByteArray.size_append, z1]; omega, by rw [a1]; rfl, fun g => ?_, h9.1, h9.2⟩
        rcases hh with hh | ⟨rfl, rfl⟩
        · exact absurd g hh
        · have : ByteArray.size ⟨#[48]⟩ = 1 := rfl
          omega
/-- a finite float's text is a number with a point or an e; read, it is the float -/
theorem ft_form {x : Nat} (hx : x < 18446744073709551616) (hO : xaO x = true) : NmIs (ftT x) (ftT x).size 0 ∧ wh (ftT x) = false ∧ ScIs (ftT x) x 0 ∧ (ftT x).size ≤ 200001 := by
  obtain ⟨h0, hl, hd, hh, he, hs⟩ := ft_ok hx hO
  have e : ftT x = sgT (decide (9223372036854775808 ≤ x)) ++ loT (ftD x) ((ftD x).size + ftE x) := if_pos hO
  rw [e]
  obtain ⟨i, i1, i2, i3, i4, i5⟩ := lo_form h0 hd hh
  have hlz := loT_size (ftD x) ((ftD x).size + ftE x) h0 (by omega) (by omega)
  obtain ⟨L, hL⟩ : ∃ L, loT (ftD x) ((ftD x).size + ftE x) = L := ⟨_, rfl⟩
  rw [hL] at i1 i2 i3 i4 i5 hs hlz ⊢
  obtain ⟨g, hg⟩ : ∃ g, decide (9223372036854775808 ≤ x) = g := ⟨_, rfl⟩
  rw [hg] at hs ⊢
  obtain ⟨hA, h45⟩ := sg_cA (g := g) (L := L) (by omega) (by omega)
  have hz : (sgT g ++ L).size = sgN g + L.size := by rw [ByteArray.size_append, sgT_size]
  have hg1 : sgN g ≤ 1 := by unfold sgN; split <;> omega
  refine ⟨nm_of_ok (sc_ok hs) fun h48 => ?_, wls_no (i := sgN g + i) (by omega) (by rw [sg_bt i1]; exact i2), hs, by omega⟩
  rw [hA] at h48 ⊢
  have b0 : bt (sgT g ++ L) (sgN g) = bt L 0 := by
    have := sg_bt (g := g) (L := L) (i := 0) (by omega)
    rwa [Nat.add_zero] at this
  rw [b0] at h48
  obtain rfl := i3 h48
  refine rn_is (by omega) (fun j hj => ?_) (.inr ?_)
  · obtain rfl : j = 0 := by omega
    rw [Nat.add_zero, b0]
    exact ⟨i4, i5⟩
  · rw [sg_bt i1]
    unfold wb at i2
    simp only [Bool.or_eq_true, decide_eq_true_eq] at i2
    omega
end Go.Proofs.YtljbnnpmnoejeaaGreatDoor.nn
namespace Go.Proofs.YtljbnnpmnoejeaaGreatDoor.nn
open Go.RowKit

theorem rft_any (x : Nat) (w : World) (hx : x < 18446744073709551616) : Calls Tryz.prog 26 #[.int .u64 (x : Int)] w (TxAns (ftT x) (ftR x) w) := by
  cases hO : xaO x with
  | false =>
    have e1 : ftT x = ⟨#[]⟩ := if_neg (by rw [hO]; decide)
    have e2 : ftR x = 1 := if_neg (by rw [hO]; decide)
    rw [e1, e2]
    exact rtext_no x w ⟨#[]⟩ 0 (Lib.hid fun W => rshortest_no x W hx hO)
  | true =>
    obtain ⟨h0, hl, hd, hh, he, hs⟩ := ft_ok hx hO
    have e1 : ftT x = sgT (decide (9223372036854775808 ≤ x)) ++ loT (ftD x) ((ftD x).size + ftE x) := if_pos hO
    have e2 : ftR x = 0 := if_pos hO
    rw [e1, e2]
    refine rtext_yes x w hx (ftD x) (ftE x) h0 (by omega) (by omega) (Lib.hid fun W => ?_)
    by_cases hm : xaM x = 0
    · have d1 : ftD x = ⟨#[48]⟩ := if_pos hm
      have d2 : ftE x = 0 := if_pos hm
      rw [d1, d2]
      exact rshortest_zero x W hx hO hm
    · have d1 : ftD x = shD (xaM x) (xaE x) := if_neg hm
      have d2 : ftE x = shE (xaM x) (xaE x) := if_neg hm
      rw [d1, d2]
      obtain ⟨hF, hb, hi⟩ := xa_fe x hx hO hm
      exact rshortest_yes x W hx hO hF hb hi
theorem ft_any (x : Nat) (w : World) (hx : x < 18446744073709551616) (hP : Pow10 w) : Calls Tryz.prog 45 #[.int .u64 (x : Int)] w (TxAns (ftT x) (ftR x) w) := by
  have hPat := hP.at_
  cases hO : xaO x with
  | false =>
    have e1 : ftT x = ⟨#[]⟩ := if_neg (by rw [hO]; decide)
    have e2 : ftR x = 1 := if_neg (by rw [hO]; decide)
    rw [e1, e2]
    exact text_no x w ⟨#[]⟩ 0 (Lib.hid fun W _ => shortest_no x W hx hO)
  | true =>
    obtain ⟨h0, hl, hd, hh, he, hs⟩ := ft_ok hx hO
    have e1 : ftT x = sgT (decide (9223372036854775808 ≤ x)) ++ loT (ftD x) ((ftD x).size + ftE x) := if_pos hO
    have e2 : ftR x = 0 := if_pos hO
    rw [e1, e2, ← ft_sg hx hO]
    refine text_yes x w hx (ftD x) (ftE x) h0 (by omega) (by omega) hP (Lib.hid fun W hW => ?_)
    by_cases hm : xaM x = 0
    · have d1 : ftD x = ⟨#[48]⟩ := if_pos hm
      have d2 : ftE x = 0 := if_pos hm
      rw [d1, d2]
      exact shortest_zero x W hx hO hm
    · have d1 : ftD x = shD (xaM x) (xaE x) := if_neg hm
      have d2 : ftE x = shE (xaM x) (xaE x) := if_neg hm
      rw [d1, d2]
      obtain ⟨hF, hb, hi⟩ := xa_fe x hx hO hm
      exact shortest_yes x W hx hO hF (hP.below hW hPat)
end Go.Proofs.YtljbnnpmnoejeaaGreatDoor.nn
namespace Go.Proofs.YtljbnnpmnoejeaaGreatDoor.nn
open Go.RowKit

/-- a great number's bytes -/
def bgOk (s : ByteArray) : Bool := decide (8 < s.size ∧ s.size ≤ 512 ∧ bt s 0 ≠ 0)
/-- is it a whole number -/
def sayW (t : VT) : Bool := (decide (t.k = 4) && decide (t.s.size = 0)) || (decide (t.k = 5) && decide (t.n = 0) && bgOk t.s)
/-- is it a float of 64 bits -/
def sayF (t : VT) : Bool := decide (t.k = 8) && decide (t.s.size = 0) && !t.g
/-- what Text answers -/
def txT (t : VT) : ByteArray := if t.l.length ≠ 0 then ⟨#[]⟩ else if sayW t = true then decT t.g (amt t) else if (sayF t && xaO t.n) = true then ftT t.n else ⟨#[]⟩
def txE (t : VT) : Nat := if t.l.length ≠ 0 then 10 else if sayW t = true then 0 else if (sayF t && xaO t.n) = true then 0 else 10
theorem tx_no {t : VT} (h : t.l.length ≠ 0 ∨ (sayW t = false ∧ (sayF t && xaO t.n) = false)) : txT t = ⟨#[]⟩ ∧ txE t = 10 := by
  unfold txT txE
  rcases h with h | ⟨h1, h2⟩
  · rw [if_pos h, if_pos h]; exact ⟨rfl, rfl⟩
  · by_cases h : t.l.length ≠ 0
    · rw [if_pos h, if_pos h]; exact ⟨rfl, rfl⟩
    · rw [if_neg h, if_neg h, h1, h2]; exact ⟨rfl, rfl⟩
theorem tx_whole {t : VT} (h : t.l.length = 0) (hw : sayW t = true) : txT t = decT t.g (amt t) ∧ txE t = 0 := by
  have hl : ¬ t.l.length ≠ 0 := fun g => g h
  unfold txT txE
  rw [if_neg hl, if_neg hl, hw, if_pos rfl, if_pos rfl]
  exact ⟨rfl, rfl⟩
theorem sayW_ne {t : VT} (h4 : t.k ≠ 4) (h5 : t.k ≠ 5) : sayW t = false := by
  unfold sayW
  rw [decide_eq_false h4, decide_eq_false h5]
  rfl
theorem sayF_ne {t : VT} (h8 : t.k ≠ 8) : sayF t = false := by
  unfold sayF
  rw [decide_eq_false h8]
  rfl
/-- what Text says of a value -/
def TvAns (t : VT) (w : World) (e : Ending) (w' : World) : Prop := e = .returned (.tuple #[.string (txT t), .int .i64 (txE t : Int)]) ∧ Below w.heap.size w w'
theorem ne_i {c k : Int} (h : c ≠ k) : (c == k) = false := by rw [beq_eq_false_iff_ne]; exact h

set_option maxRecDepth 100000 in
set_option maxHeartbeats 4000000 in
theorem ntext_list (t : VT) (A : Option Addr) (m c : Nat) (w : World) (hm : t.l.length = m) (h0 : m ≠ 0) :
    Calls Tryz.prog 12 #[vv t (.slice A m c)] w (TvAns t w) := by
  have HB0 := Lib.hid (Box.new w t (.slice A m c) 25)
  obtain ⟨e1, e2⟩ := tx_no (t := t) (.inl (by omega))
  have hne : ((m : Int) != 0) = true := by simp; omega
  have hne2 : ((m : Int) == 0) = false := ne_i (by omega)
  unfold TvAns
  rw [e1, e2]
  unfold vv
  clear e1 e2 hm h0
  go_enter Tryz.func12, Tryz.ntmps12
  go_wp2_with fail
  exact bodyPost_ret (by simp [results, Tryz.results12, go_sem]) rfl ⟨rfl, HB0.out.b⟩
set_option maxRecDepth 100000 in
set_option maxHeartbeats 4000000 in
theorem ntext_four (t : VT) (A : Option Addr) (c : Nat) (w : World) (hm : t.l.length = 0) (hk : t.k = 4) (hn : t.n < 18446744073709551616) :
    Calls Tryz.prog 12 #[vv t (.slice A 0 c)] w (TvAns t w) := by
  have HB0 := Lib.hid (Box.new w t (.slice A 0 c) 25)
  by_cases hs : t.s.size = 0
  · have hw : sayW t = true := by unfold sayW; rw [decide_eq_true hk, decide_eq_true hs]; rfl
    obtain ⟨e1, e2⟩ := tx_whole hm hw
    have HE := Lib.hid (And.intro e1 e2)
    have HD := Lib.hid (fun W => ndigits_four t (.slice A 0 c) W hk hs hn)
    rw [← e1] at HD
    have hS : t.s = ⟨#[]⟩ := nil_of hs
    obtain ⟨T, hT⟩ : ∃ T, txT t = T := ⟨_, rfl⟩
    rw [hT] at HD HE
    unfold TvAns
    rw [hT, HE.out.2]
    unfold vv at HD ⊢
    rw [hk, hS] at HD HB0 ⊢
    clear e1 e2 hw hs hS hk hm hT hn
    go_enter Tryz.func12, Tryz.ntmps12
    go_wp2_with fail
    refine (HD.out _).mono ?_
    rintro e w2 ⟨rfl, hb⟩
    have B2 := Lib.hid (HB0.out.on hb)
    clear hb
    go_wp2_with fail
    exact bodyPost_ret (by simp [results, Tryz.results12, go_sem]) rfl ⟨rfl, B2.out.b⟩
  · have hw : sayW t = false := by
      unfold sayW
      rw [decide_eq_false hs, decide_eq_false (show ¬ t.k = 5 by omega)]
      simp
    obtain ⟨e1, e2⟩ := tx_no (t := t) (.inr ⟨hw, by rw [sayF_ne (by omega)]; rfl⟩)
    have hne := not_nil_text (s := t.s) (by omega)
    unfold TvAns
    rw [e1, e2]
    unfold vv
    rw [hk] at HB0 ⊢
    clear e1 e2 hw hs hk hm hn
    go_enter Tryz.func12, Tryz.ntmps12
    go_wp2_with fail
    exact bodyPost_ret (by simp [results, Tryz.results12, go_sem]) rfl ⟨rfl, HB0.out.b⟩
set_option maxRecDepth 100000 in
set_option maxHeartbeats 8000000 in
theorem ntext_five (t : VT) (A : Option Addr) (c : Nat) (w : World) (hm : t.l.length = 0) (hk : t.k = 5) (hsz : t.s.size ≤ 140737488351232) :
    Calls Tryz.prog 12 #[vv t (.slice A 0 c)] w (TvAns t w) := by
  have HB0 := Lib.hid (Box.new w t (.slice A 0 c) 25)
  by_cases hok : t.n = 0 ∧ bgOk t.s = true
  · have hw : sayW t = true := by unfold sayW; rw [decide_eq_true hk, decide_eq_true hok.1, hok.2]; simp
    obtain ⟨e1, e2⟩ := tx_whole hm hw
    have HE := Lib.hid (And.intro e1 e2)
    obtain ⟨s1, s2, s3⟩ := of_decide_eq_true hok.2
    have HD := Lib.hid (fun W => ndigits_five t (.slice A 0 c) W hk s2)
    rw [← e1] at HD
    obtain ⟨S, hS⟩ : ∃ S, t.s = S := ⟨_, rfl⟩
    have hn0 := hok.1
    obtain ⟨T, hT⟩ : ∃ T, txT t = T := ⟨_, rfl⟩
    rw [hT] at HD HE
    unfold TvAns
    rw [hT, HE.out.2]
    unfold vv at HD ⊢
    rw [hk, hS, hn0] at HD HB0 ⊢
    rw [hS] at s1 s2 s3
    obtain ⟨y, hyy, hy, hy256⟩ := byte_of (s := S) (a := 0) (by omega)
    rw [hy] at s3
    have hy0 : ((y : Int) == 0) = false := ne_i (by omega)
    have hy1 : ((y : Int) != 0) = true := by simp; omega
    clear e1 e2 hw hok hS hk hm hT hn0 hy s3
    go_enter Tryz.func12, Tryz.ntmps12
    go_wp2_with fail
    refine (HD.out _).mono ?_
    rintro e w2 ⟨rfl, hb⟩
    have B2 := Lib.hid (HB0.out.on hb)
    clear hb
    go_wp2_with fail
    exact bodyPost_ret (by simp [results, Tryz.results12, go_sem]) rfl ⟨rfl, B2.out.b⟩
  · have hw : sayW t = false := by
      cases h : sayW t with
      | false => rfl
      | true =>
        exfalso
        apply hok
        unfold sayW at h
        rw [decide_eq_false (show ¬ t.k = 4 by omega), Bool.false_and, Bool.false_or] at h
        simp only [Bool.and_eq_true, decide_eq_true_eq] at h
        exact ⟨h.1.2, h.2⟩
    obtain ⟨e1, e2⟩ := tx_no (t := t) (.inr ⟨hw, by rw [sayF_ne (by omega)]; rfl⟩)
    obtain ⟨S, hS⟩ : ∃ S, t.s = S := ⟨_, rfl⟩
    obtain ⟨N, hN⟩ : ∃ S, t.n = S := ⟨_, rfl⟩
    unfold TvAns
    rw [e1, e2]
    unfold vv
    rw [hk, hS, hN] at HB0 ⊢
    rw [hS] at hsz hok
    rw [hN] at hok
    clear e1 e2 hw hk hm hS hN
    by_cases h1 : N = 0
    · subst h1
      by_cases h2 : 8 < S.size
      · by_cases h3 : S.size ≤ 512
        · obtain ⟨y, hyy, hy, hy256⟩ := byte_of (s := S) (a := 0) (by omega)
          have hy0 : y = 0 := by
            rcases Nat.eq_zero_or_pos y with g | g
            · exact g
            · exact absurd ⟨rfl, decide_eq_true ⟨h2, h3, by omega⟩⟩ hok
          subst hy0
          clear hok hy
          go_enter Tryz.func12, Tryz.ntmps12
          go_wp2_with fail
          exact bodyPost_ret (by simp [results, Tryz.results12, go_sem]) rfl ⟨rfl, HB0.out.b⟩
        · clear hok
          go_enter Tryz.func12, Tryz.ntmps12
          go_wp2_with fail
          exact bodyPost_ret (by simp [results, Tryz.results12, go_sem]) rfl ⟨rfl, HB0.out.b⟩
      · clear hok
        go_enter Tryz.func12, Tryz.ntmps12
        go_wp2_with fail
        exact bodyPost_ret (by simp [results, Tryz.results12, go_sem]) rfl ⟨rfl, HB0.out.b⟩
    · have h1' : ((N : Int) == 0) = false := ne_i (by omega)
      clear hok h1
      go_enter Tryz.func12, Tryz.ntmps12
      go_wp2_with fail
      exact bodyPost_ret (by simp [results, Tryz.results12, go_sem]) rfl ⟨rfl, HB0.out.b⟩
set_option maxRecDepth 100000 in
set_option maxHeartbeats 8000000 in
theorem ntext_more (t : VT) (A : Option Addr) (c : Nat) (w : World) (hm : t.l.length = 0) (h4 : t.k ≠ 4) (h5 : t.k ≠ 5) (hn : t.n < 18446744073709551616) :
    Calls Tryz.prog 12 #[vv t (.slice A 0 c)] w (TvAns t w) := by
  have HB0 := Lib.hid (Box.new w t (.slice A 0 c) 25)
  have hw := sayW_ne h4 h5
  have k4 := ne_i h4
  have k5 := ne_i h5
  by_cases h8 : t.k = 8
  · by_cases hf : t.s.size = 0 ∧ t.g = false
    · have hsf : sayF t = true := by unfold sayF; rw [decide_eq_true h8, decide_eq_true hf.1, hf.2]; rfl
      have HT := Lib.hid (fun W => rft_any t.n W hn)
      have hS : t.s = ⟨#[]⟩ := nil_of hf.1
      have hg := hf.2
      have HE : Hid ((ftR t.n = 0 → txT t = ftT t.n ∧ txE t = 0) ∧ (ftR t.n ≠ 0 → txT t = ⟨#[]⟩ ∧ txE t = 10)) := Lib.hid (by
        have hl : ¬ t.l.length ≠ 0 := fun g => g hm
        have hww : ¬ sayW t = true := by rw [hw]; decide
        cases hO : xaO t.n with
        | true =>
          have hc : (sayF t && xaO t.n) = true := by rw [hsf, hO]; rfl
          have hr : ftR t.n = 0 := if_pos hO
          refine ⟨fun _ => ?_, fun h => absurd hr h⟩
          unfold txT txE
          rw [if_neg hl, if_neg hl, if_neg hww, if_neg hww, if_pos hc, if_pos hc]
          exact ⟨rfl, rfl⟩
        | false =>
          have hr : ftR t.n = 1 := if_neg (by rw [hO]; decide)
          refine ⟨fun h => by omega, fun _ => ?_⟩
          exact tx_no (.inr ⟨hw, by rw [hO, Bool.and_false]⟩))
      have hR : ftR t.n = 0 ∨ ftR t.n = 1 := by unfold ftR; split <;> simp
      unfold TvAns
      unfold TxAns at HT
      obtain ⟨R, hRR⟩ : ∃ R, ftR t.n = R := ⟨_, rfl⟩
      rw [hRR] at HT HE hR
      obtain ⟨N, hN⟩ : ∃ R, t.n = R := ⟨_, rfl⟩
      unfold vv
      rw [h8, hS, hg, hN] at HB0 ⊢
      rw [hN] at HT HE
      clear h4 h5 k4 k5 h8 hf hsf hS hg hN hRR hw hm hn
      rcases hR with rfl | rfl
      · obtain ⟨e1, e2⟩ := HE.out.1 rfl
        rw [e1, e2]
        clear e1 e2 HE
        go_enter Tryz.func12, Tryz.ntmps12
        go_wp2_with fail
        refine (HT.out _).mono ?_
        rintro e w2 ⟨rfl, hb⟩
        have B2 := Lib.hid (HB0.out.on hb)
        clear hb
        go_wp2_with fail
        exact bodyPost_ret (by simp [results, Tryz.results12, go_sem]) rfl ⟨rfl, B2.out.b⟩
      · obtain ⟨e1, e2⟩ := HE.out.2 (by decide)
        rw [e1, e2]
        clear e1 e2 HE
        go_enter Tryz.func12, Tryz.ntmps12
        go_wp2_with fail
        refine (HT.out _).mono ?_
        rintro e w2 ⟨rfl, hb⟩
        have B2 := Lib.hid (HB0.out.on hb)
        clear hb
        go_wp2_with fail
        exact bodyPost_ret (by simp [results, Tryz.results12, go_sem]) rfl ⟨rfl, B2.out.b⟩
    · have hsf : sayF t = false := by
        cases h : sayF t with
        | false => rfl
        | true =>
          exfalso
          apply hf
          unfold sayF at h
          simp only [Bool.and_eq_true, decide_eq_true_eq, Bool.not_eq_true'] at h
          exact ⟨h.1.2, h.2⟩
      obtain ⟨e1, e2⟩ := tx_no (t := t) (.inr ⟨hw, by rw [hsf]; rfl⟩)
      unfold TvAns
      rw [e1, e2]
      obtain ⟨S, hS⟩ : ∃ S, t.s = S := ⟨_, rfl⟩
      obtain ⟨G, hG⟩ : ∃ S, t.g = S := ⟨_, rfl⟩
      unfold vv
      rw [h8, hS, hG] at HB0 ⊢
      rw [hS, hG] at hf
      clear h4 h5 k4 k5 h8 hsf hS hG hw hm hn e1 e2
      by_cases hs : S.size = 0
      · have hG : G = true := by cases G with
          | true => rfl
          | false => exact absurd ⟨hs, rfl⟩ hf
        obtain rfl := nil_of hs
        subst hG
        clear hs hf
        go_enter Tryz.func12, Tryz.ntmps12
        go_wp2_with fail
        exact bodyPost_ret (by simp [results, Tryz.results12, go_sem]) rfl ⟨rfl, HB0.out.b⟩
      · have hne := not_nil_text (s := S) (by omega)
        clear hs hf
        go_enter Tryz.func12, Tryz.ntmps12
        go_wp2_with fail
        exact bodyPost_ret (by simp [results, Tryz.results12, go_sem]) rfl ⟨rfl, HB0.out.b⟩
  · obtain ⟨e1, e2⟩ := tx_no (t := t) (.inr ⟨hw, by rw [sayF_ne h8]; rfl⟩)
    have k8 := ne_i h8
    unfold TvAns
    rw [e1, e2]
    unfold vv
    obtain ⟨K, hK⟩ : ∃ S, t.k = S := ⟨_, rfl⟩
    rw [hK] at HB0 k4 k5 k8 ⊢
    clear h4 h5 h8 hw hm hn e1 e2 hK
    go_enter Tryz.func12, Tryz.ntmps12
    go_wp2_with fail
    exact bodyPost_ret (by simp [results, Tryz.results12, go_sem]) rfl ⟨rfl, HB0.out.b⟩
/-- the document's Text, of any value -/
theorem ntext_any (t : VT) (A : Option Addr) (c : Nat) (w : World) (hn : t.n < 18446744073709551616) (hsz : t.s.size ≤ 140737488351232) :
    Calls Tryz.prog 12 #[vv t (.slice A t.l.length c)] w (TvAns t w) := by
  by_cases h0 : t.l.length = 0
  · rw [h0]
    by_cases h4 : t.k = 4
    · exact ntext_four t A c w h0 h4 hn
    · by_cases h5 : t.k = 5
      · exact ntext_five t A c w h0 h5 hsz
      · exact ntext_more t A c w h0 h4 h5 hn
  · exact ntext_list t A t.l.length c w rfl h0
end Go.Proofs.YtljbnnpmnoejeaaGreatDoor.nn
