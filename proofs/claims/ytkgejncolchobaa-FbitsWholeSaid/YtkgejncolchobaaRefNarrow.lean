/- The walk of the document's Narrow, of widths 16 and 32. -/
import Derived.Test.YtkgejncolchobaaRefWiden2
namespace Go.Proofs.Ytkgejncolchobaa.nn
open Go.RowKit

/-- what is narrowed: a sign's bits, what the parts of width 64 are, the width's parts: the bits, or none -/
def nwO (E F : Nat) (X M : Nat) : Bool :=
  let y : Int := (X : Int) - 1023 + (2 ^ (E - 1) - 1 : Nat)
  if X = 0 then decide (M = 0) else if X = 2047 then shOk M (52 - F) else if y ≥ (2 ^ E - 1 : Nat) ∨ y < -(F : Int) then false else if 1 ≤ y then shOk M (52 - F) else shOk (M + 4503599627370496) (53 - F - y).toNat
def nwV (E F : Nat) (X M : Nat) : Nat :=
  let y : Int := (X : Int) - 1023 + (2 ^ (E - 1) - 1 : Nat)
  if X = 0 then 0 else if X = 2047 then (2 ^ E - 1) * 2 ^ F + shV M (52 - F) else if 1 ≤ y then y.toNat * 2 ^ F + shV M (52 - F) else shV (M + 4503599627370496) (53 - F - y).toNat
/-- the answer: the bits and whether there are any -/
def nwA (E F : Nat) (S : Bool) (X M : Nat) : Nat := if nwO E F X M then (if S then 2 ^ (E + F) else 0) + nwV E F X M else 0
theorem shV_lt {m n b : Nat} (h : m < b * 2 ^ n) : shV m n < b := by
  unfold shV
  split
  · exact Nat.div_lt_of_lt_mul (by rw [Nat.mul_comm]; exact h)
  · rcases Nat.eq_zero_or_pos b with rfl | hb
    · omega
    · exact hb
theorem shV_no {m n : Nat} (h : shOk m n = false) : shV m n = 0 := by
  unfold shOk at h
  unfold shV
  rw [if_neg (of_decide_eq_false h)]

set_option maxRecDepth 100000 in
set_option maxHeartbeats 4000000 in
theorem narrow_16 (x : Nat) (w : World) (X M : Nat) (S : Bool) (hX : X ≤ 2047) (hM : M < 4503599627370496) (_ : x < 18446744073709551616)
    (HP : Hid (∀ w, Calls Try.prog 13 #[.int .i64 64, .int .u64 (x : Int)] w fun e W' => e = .returned (.tuple #[.bool S, .int .i64 (X : Int), .int .u64 (M : Int), .int .i64 0]) ∧ Below w.heap.size w W'))
    (HW : Hid (∀ w, Calls Try.prog 29 #[.int .i64 16] w fun e w' => e = .returned (.tuple #[.int .i64 5, .int .i64 10]) ∧ w = w')) :
    Calls Try.prog 18 #[.int .i64 16, .int .u64 (x : Int)] w fun e W' => e = .returned (.tuple #[.int .u64 (nwA 5 10 S X M : Int), .bool (nwO 5 10 X M), .int .i64 0]) ∧ Below w.heap.size w W' := by
  obtain ⟨A, hA⟩ : ∃ A, nwA 5 10 S X M = A := ⟨_, rfl⟩
  obtain ⟨O, hO⟩ : ∃ O, nwO 5 10 X M = O := ⟨_, rfl⟩
  have hA2 := hA
  unfold nwA at hA2
  rw [hO] at hA2
  rw [hA, hO]
  clear hA
  have hO2 := hO
  unfold nwO at hO2
  unfold nwV at hA2
  rw [show (2 ^ (5 - 1) - 1 : Nat) = 15 from rfl, show (2 ^ 5 - 1 : Nat) = 31 from rfl, show 52 - 10 = 42 from rfl] at hO2
  rw [show (2 ^ (5 - 1) - 1 : Nat) = 15 from rfl, show (2 ^ 5 - 1 : Nat) = 31 from rfl, show 52 - 10 = 42 from rfl, show (2 ^ (5 + 10) : Nat) = 32768 from rfl, show (2 ^ 10 : Nat) = 1024 from rfl] at hA2
  dsimp only at hO2 hA2
  clear hO
  by_cases c0 : X = 0
  · rw [if_pos c0] at hO2 hA2
    subst c0
    by_cases m0 : M = 0
    · rw [decide_eq_true m0] at hO2
      subst m0 hO2
      rw [if_pos rfl] at hA2
      cases S
      · have HA : Hid (A = 0 ∧ True) := Lib.hid ⟨by rw [← hA2]; rfl, trivial⟩
        clear hA2
        go_enter Try.func18, Try.ntmps18
        go_wp2_with fail
        refine (HW.out _).mono ?_
        rintro e w1 ⟨rfl, rfl⟩
        go_wp2_with fail
        refine (HP.out _).mono ?_
        rintro e w2 ⟨rfl, hb⟩
        have HB := Lib.hid hb
        clear hb
        go_wp2_with fail
        exact bodyPost_ret (v := .tuple #[.int .u64 0, .bool true, .int .i64 0]) (by simp [results, Try.results18, go_sem]) rfl ⟨by rw [HA.out.1]; rfl, HB.out⟩
      · have HA : Hid (A = 32768 ∧ True) := Lib.hid ⟨by rw [← hA2]; rfl, trivial⟩
        clear hA2
        go_enter Try.func18, Try.ntmps18
        go_wp2_with fail
        refine (HW.out _).mono ?_
        rintro e w1 ⟨rfl, rfl⟩
        go_wp2_with fail
        refine (HP.out _).mono ?_
        rintro e w2 ⟨rfl, hb⟩
        have HB := Lib.hid hb
        clear hb
        go_wp2_with fail
        exact bodyPost_ret (v := .tuple #[.int .u64 32768, .bool true, .int .i64 0]) (by simp [results, Try.results18, go_sem]) rfl ⟨by rw [HA.out.1]; rfl, HB.out⟩
    · rw [decide_eq_false m0] at hO2
      subst hO2
      rw [if_neg (by decide)] at hA2
      have q1 : ((M : Int) == 0) = false := by simp; omega
      subst hA2
      clear m0
      cases S
      · go_enter Try.func18, Try.ntmps18
        go_wp2_with fail
        refine (HW.out _).mono ?_
        rintro e w1 ⟨rfl, rfl⟩
        go_wp2_with fail
        refine (HP.out _).mono ?_
        rintro e w2 ⟨rfl, hb⟩
        have HB := Lib.hid hb
        clear hb
        go_wp2_with fail
        exact bodyPost_ret (v := .tuple #[.int .u64 0, .bool false, .int .i64 0]) (by simp [results, Try.results18, go_sem]) rfl ⟨rfl, HB.out⟩
      · go_enter Try.func18, Try.ntmps18
        go_wp2_with fail
        refine (HW.out _).mono ?_
        rintro e w1 ⟨rfl, rfl⟩
        go_wp2_with fail
        refine (HP.out _).mono ?_
        rintro e w2 ⟨rfl, hb⟩
        have HB := Lib.hid hb
        clear hb
        go_wp2_with fail
        exact bodyPost_ret (v := .tuple #[.int .u64 0, .bool false, .int .i64 0]) (by simp [results, Try.results18, go_sem]) rfl ⟨rfl, HB.out⟩
  · rw [if_neg c0] at hO2 hA2
    have q0 := ne_int (c := (X : Int)) (k := 0) (by omega)
    by_cases c1 : X = 2047
    · rw [if_pos c1] at hO2 hA2
      subst c1
      have hvl := shV_lt (m := M) (n := 42) (b := 1024) (by omega)
      have HSH := Lib.hid (fun w => rshift_any M 42 w (by omega) (by omega))
      obtain ⟨V, hV⟩ : ∃ V, shV M 42 = V := ⟨_, rfl⟩
      rw [hV] at hA2 hvl HSH
      rw [hO2] at HSH
      clear hV hO2 c0
      cases O
      · rw [if_neg (by decide)] at hA2
        subst hA2
        cases S
        · go_enter Try.func18, Try.ntmps18
          go_wp2_with fail
          refine (HW.out _).mono ?_
          rintro e w1 ⟨rfl, rfl⟩
          go_wp2_with fail
          refine (HP.out _).mono ?_
          rintro e w2 ⟨rfl, hb⟩
          have HB := Lib.hid hb
          clear hb
          go_wp2_with fail
          refine (HSH.out _).mono ?_
          rintro e w3 ⟨rfl, rfl⟩
          go_wp2_with fail
          exact bodyPost_ret (v := .tuple #[.int .u64 0, .bool false, .int .i64 0]) (by simp [results, Try.results18, go_sem]) rfl ⟨rfl, HB.out⟩
        · go_enter Try.func18, Try.ntmps18
          go_wp2_with fail
          refine (HW.out _).mono ?_
          rintro e w1 ⟨rfl, rfl⟩
          go_wp2_with fail
          refine (HP.out _).mono ?_
          rintro e w2 ⟨rfl, hb⟩
          have HB := Lib.hid hb
          clear hb
          go_wp2_with fail
          refine (HSH.out _).mono ?_
          rintro e w3 ⟨rfl, rfl⟩
          go_wp2_with fail
          exact bodyPost_ret (v := .tuple #[.int .u64 0, .bool false, .int .i64 0]) (by simp [results, Try.results18, go_sem]) rfl ⟨rfl, HB.out⟩
      · rw [if_pos rfl] at hA2
        cases S
        · have t1 : bits .or .u64 0 31744 = 31744 := by decide
          have t2 : bits .or .u64 31744 (V : Int) = 31744 + (V : Int) := by
            have h := u64_join 31744 V 10 (by decide) (by omega) (by omega)
            exact h.trans (by omega)
          have HA : Hid ((A : Int) = 31744 + (V : Int)) := Lib.hid (by rw [← hA2]; simp <;> omega)
          clear hA2
          go_enter Try.func18, Try.ntmps18
          go_wp2_with fail
          refine (HW.out _).mono ?_
          rintro e w1 ⟨rfl, rfl⟩
          go_wp2_with fail
          refine (HP.out _).mono ?_
          rintro e w2 ⟨rfl, hb⟩
          have HB := Lib.hid hb
          clear hb
          go_wp2_with fail
          refine (HSH.out _).mono ?_
          rintro e w3 ⟨rfl, rfl⟩
          go_wp2_with fail
          exact bodyPost_ret (v := .tuple #[.int .u64 (31744 + (V : Int)), .bool true, .int .i64 0]) (by simp [results, Try.results18, go_sem]) rfl ⟨by rw [HA.out], HB.out⟩
        · have t1 : bits .or .u64 32768 31744 = 64512 := by decide
          have t2 : bits .or .u64 64512 (V : Int) = 64512 + (V : Int) := by
            have h := u64_join 64512 V 10 (by decide) (by omega) (by omega)
            exact h.trans (by omega)
          have HA : Hid ((A : Int) = 64512 + (V : Int)) := Lib.hid (by rw [← hA2]; simp <;> omega)
          clear hA2
          go_enter Try.func18, Try.ntmps18
          go_wp2_with fail
          refine (HW.out _).mono ?_
          rintro e w1 ⟨rfl, rfl⟩
          go_wp2_with fail
          refine (HP.out _).mono ?_
          rintro e w2 ⟨rfl, hb⟩
          have HB := Lib.hid hb
          clear hb
          go_wp2_with fail
          refine (HSH.out _).mono ?_
          rintro e w3 ⟨rfl, rfl⟩
          go_wp2_with fail
          exact bodyPost_ret (v := .tuple #[.int .u64 (64512 + (V : Int)), .bool true, .int .i64 0]) (by simp [results, Try.results18, go_sem]) rfl ⟨by rw [HA.out], HB.out⟩
    · rw [if_neg c1] at hO2 hA2
      have q1 := ne_int (c := (X : Int)) (k := 2047) (by omega)
      obtain ⟨y, hy⟩ : ∃ y : Int, (X : Int) - 1023 + 15 = y := ⟨_, rfl⟩
      rw [show (X : Int) - 1023 + ((15 : Nat) : Int) = y from hy] at hO2 hA2
      by_cases c2 : y ≥ (((31 : Nat)) : Int) ∨ y < -(((10 : Nat)) : Int)
      · rw [if_pos c2] at hO2
        subst hO2
        rw [if_neg (by decide)] at hA2
        subst hA2
        clear c0 c1
        rcases c2 with c2 | c2
        · have c3 : 31 ≤ y := c2
          clear c2
          cases S
          · go_enter Try.func18, Try.ntmps18
            go_wp2_with fail
            refine (HW.out _).mono ?_
            rintro e w1 ⟨rfl, rfl⟩
            go_wp2_with fail
            refine (HP.out _).mono ?_
            rintro e w2 ⟨rfl, hb⟩
            have HB := Lib.hid hb
            clear hb
            go_wp2_with fail
            exact bodyPost_ret (v := .tuple #[.int .u64 0, .bool false, .int .i64 0]) (by simp [results, Try.results18, go_sem]) rfl ⟨rfl, HB.out⟩
          · go_enter Try.func18, Try.ntmps18
            go_wp2_with fail
            refine (HW.out _).mono ?_
            rintro e w1 ⟨rfl, rfl⟩
            go_wp2_with fail
            refine (HP.out _).mono ?_
            rintro e w2 ⟨rfl, hb⟩
            have HB := Lib.hid hb
            clear hb
            go_wp2_with fail
            exact bodyPost_ret (v := .tuple #[.int .u64 0, .bool false, .int .i64 0]) (by simp [results, Try.results18, go_sem]) rfl ⟨rfl, HB.out⟩
        · have c3 : y < -10 := c2
          clear c2
          cases S
          · go_enter Try.func18, Try.ntmps18
            go_wp2_with fail
            refine (HW.out _).mono ?_
            rintro e w1 ⟨rfl, rfl⟩
            go_wp2_with fail
            refine (HP.out _).mono ?_
            rintro e w2 ⟨rfl, hb⟩
            have HB := Lib.hid hb
            clear hb
            go_wp2_with fail
            exact bodyPost_ret (v := .tuple #[.int .u64 0, .bool false, .int .i64 0]) (by simp [results, Try.results18, go_sem]) rfl ⟨rfl, HB.out⟩
          · go_enter Try.func18, Try.ntmps18
            go_wp2_with fail
            refine (HW.out _).mono ?_
            rintro e w1 ⟨rfl, rfl⟩
            go_wp2_with fail
            refine (HP.out _).mono ?_
            rintro e w2 ⟨rfl, hb⟩
            have HB := Lib.hid hb
            clear hb
            go_wp2_with fail
            exact bodyPost_ret (v := .tuple #[.int .u64 0, .bool false, .int .i64 0]) (by simp [results, Try.results18, go_sem]) rfl ⟨rfl, HB.out⟩
      · rw [if_neg c2] at hO2
        have c3 : y < 31 := by omega
        have c4 : -10 ≤ y := by omega
        clear c0 c1 c2
        by_cases c5 : 1 ≤ y
        · rw [if_pos c5] at hO2 hA2
          obtain ⟨Y, rfl⟩ := Int.eq_ofNat_of_zero_le (show 0 ≤ y by omega)
          rw [Int.toNat_natCast] at hA2
          have hvl := shV_lt (m := M) (n := 42) (b := 1024) (by omega)
          have HSH := Lib.hid (fun w => rshift_any M 42 w (by omega) (by omega))
          obtain ⟨V, hV⟩ : ∃ V, shV M 42 = V := ⟨_, rfl⟩
          rw [hV] at hA2 hvl HSH
          rw [hO2] at HSH
          clear hV hO2
          cases O
          · rw [if_neg (by decide)] at hA2
            subst hA2
            cases S
            · go_enter Try.func18, Try.ntmps18
              go_wp2_with fail
              refine (HW.out _).mono ?_
              rintro e w1 ⟨rfl, rfl⟩
              go_wp2_with fail
              refine (HP.out _).mono ?_
              rintro e w2 ⟨rfl, hb⟩
              have HB := Lib.hid hb
              clear hb
              go_wp2_with fail
              refine (HSH.out _).mono ?_
              rintro e w3 ⟨rfl, rfl⟩
              go_wp2_with fail
              exact bodyPost_ret (v := .tuple #[.int .u64 0, .bool false, .int .i64 0]) (by simp [results, Try.results18, go_sem]) rfl ⟨rfl, HB.out⟩
            · go_enter Try.func18, Try.ntmps18
              go_wp2_with fail
              refine (HW.out _).mono ?_
              rintro e w1 ⟨rfl, rfl⟩
              go_wp2_with fail
              refine (HP.out _).mono ?_
              rintro e w2 ⟨rfl, hb⟩
              have HB := Lib.hid hb
              clear hb
              go_wp2_with fail
              refine (HSH.out _).mono ?_
              rintro e w3 ⟨rfl, rfl⟩
              go_wp2_with fail
              exact bodyPost_ret (v := .tuple #[.int .u64 0, .bool false, .int .i64 0]) (by simp [results, Try.results18, go_sem]) rfl ⟨rfl, HB.out⟩
          · rw [if_pos rfl] at hA2
            cases S
            · have t1 : bits .or .u64 0 ((Y : Int) * 1024) = 0 + (Y : Int) * 1024 := by
                have h := u64_join 0 (Y * 1024) 15 (by decide) (by omega) (by omega)
                have e1 : (Y : Int) * 1024 = ((Y * 1024 : Nat) : Int) := by omega
                rw [e1]
                exact h.trans (by omega)
              have t2 : bits .or .u64 (0 + (Y : Int) * 1024) (V : Int) = 0 + (Y : Int) * 1024 + (V : Int) := by
                have h := u64_join (0 + Y * 1024) V 10 (by omega) (by omega) (by omega)
                have e1 : 0 + (Y : Int) * 1024 = ((0 + Y * 1024 : Nat) : Int) := by omega
                rw [e1]
                exact h.trans (by omega)
              have t1' : bits .or .u64 0 ((Y : Int) * 1024) = (Y : Int) * 1024 := by rw [t1]; omega
              have t2' : bits .or .u64 ((Y : Int) * 1024) (V : Int) = (Y : Int) * 1024 + (V : Int) := by
                have h := u64_join (Y * 1024) V 10 (by omega) (by omega) (by omega)
                have e1 : (Y : Int) * 1024 = ((Y * 1024 : Nat) : Int) := by omega
                rw [e1]
                exact h.trans (by omega)
              clear t1 t2
              have HA : Hid ((A : Int) = (Y : Int) * 1024 + (V : Int)) := Lib.hid (by rw [← hA2]; simp <;> omega)
              clear hA2
              go_enter Try.func18, Try.ntmps18
              go_wp2_with fail
              refine (HW.out _).mono ?_
              rintro e w1 ⟨rfl, rfl⟩
              go_wp2_with fail
              refine (HP.out _).mono ?_
              rintro e w2 ⟨rfl, hb⟩
              have HB := Lib.hid hb
              clear hb
              go_wp2_with fail
              refine (HSH.out _).mono ?_
              rintro e w3 ⟨rfl, rfl⟩
              go_wp2_with fail
              exact bodyPost_ret (v := .tuple #[.int .u64 ((Y : Int) * 1024 + (V : Int)), .bool true, .int .i64 0]) (by simp [results, Try.results18, go_sem]) rfl ⟨by rw [HA.out], HB.out⟩
            · have t1 : bits .or .u64 32768 ((Y : Int) * 1024) = 32768 + (Y : Int) * 1024 := by
                have h := u64_join 32768 (Y * 1024) 15 (by decide) (by omega) (by omega)
                have e1 : (Y : Int) * 1024 = ((Y * 1024 : Nat) : Int) := by omega
                rw [e1]
                exact h.trans (by omega)
              have t2 : bits .or .u64 (32768 + (Y : Int) * 1024) (V : Int) = 32768 + (Y : Int) * 1024 + (V : Int) := by
                have h := u64_join (32768 + Y * 1024) V 10 (by omega) (by omega) (by omega)
                have e1 : 32768 + (Y : Int) * 1024 = ((32768 + Y * 1024 : Nat) : Int) := by omega
                rw [e1]
                exact h.trans (by omega)
              have HA : Hid ((A : Int) = 32768 + (Y : Int) * 1024 + (V : Int)) := Lib.hid (by rw [← hA2]; simp <;> omega)
              clear hA2
              go_enter Try.func18, Try.ntmps18
              go_wp2_with fail
              refine (HW.out _).mono ?_
              rintro e w1 ⟨rfl, rfl⟩
              go_wp2_with fail
              refine (HP.out _).mono ?_
              rintro e w2 ⟨rfl, hb⟩
              have HB := Lib.hid hb
              clear hb
              go_wp2_with fail
              refine (HSH.out _).mono ?_
              rintro e w3 ⟨rfl, rfl⟩
              go_wp2_with fail
              exact bodyPost_ret (v := .tuple #[.int .u64 (32768 + (Y : Int) * 1024 + (V : Int)), .bool true, .int .i64 0]) (by simp [results, Try.results18, go_sem]) rfl ⟨by rw [HA.out], HB.out⟩
        · rw [if_neg c5] at hO2 hA2
          obtain ⟨N, hN⟩ : ∃ N : Nat, 43 - y = (N : Int) := ⟨(43 - y).toNat, by omega⟩
          have hNn : (53 - ((10 : Nat) : Int) - y).toNat = N := by omega
          rw [hNn] at hO2 hA2
          have hN2 : 43 ≤ N ∧ N ≤ 53 := by omega
          have hpw : (2 : Nat) ^ 43 ≤ 2 ^ N := pow_up hN2.1
          have hvl := shV_lt (m := M + 4503599627370496) (n := N) (b := 1024) (by rw [show (2 : Nat) ^ 43 = 8796093022208 by decide] at hpw; omega)
          have HSH := Lib.hid (fun w => rshift_any (M + 4503599627370496) N w (by omega) (by omega))
          obtain ⟨V, hV⟩ : ∃ V, shV (M + 4503599627370496) N = V := ⟨_, rfl⟩
          rw [hV] at hA2 hvl HSH
          rw [hO2, show ((M + 4503599627370496 : Nat) : Int) = (M : Int) + 4503599627370496 by omega] at HSH
          have t0 := or_hid hM
          have c6 : y < 1 := by omega
          clear hV hO2 hpw hNn c5
          cases O
          · rw [if_neg (by decide)] at hA2
            subst hA2
            cases S
            · go_enter Try.func18, Try.ntmps18
              go_wp2_with fail
              refine (HW.out _).mono ?_
              rintro e w1 ⟨rfl, rfl⟩
              go_wp2_with fail
              refine (HP.out _).mono ?_
              rintro e w2 ⟨rfl, hb⟩
              have HB := Lib.hid hb
              clear hb
              go_wp2_with fail
              refine (HSH.out _).mono ?_
              rintro e w3 ⟨rfl, rfl⟩
              go_wp2_with fail
              exact bodyPost_ret (v := .tuple #[.int .u64 0, .bool false, .int .i64 0]) (by simp [results, Try.results18, go_sem]) rfl ⟨rfl, HB.out⟩
            · go_enter Try.func18, Try.ntmps18
              go_wp2_with fail
              refine (HW.out _).mono ?_
              rintro e w1 ⟨rfl, rfl⟩
              go_wp2_with fail
              refine (HP.out _).mono ?_
              rintro e w2 ⟨rfl, hb⟩
              have HB := Lib.hid hb
              clear hb
              go_wp2_with fail
              refine (HSH.out _).mono ?_
              rintro e w3 ⟨rfl, rfl⟩
              go_wp2_with fail
              exact bodyPost_ret (v := .tuple #[.int .u64 0, .bool false, .int .i64 0]) (by simp [results, Try.results18, go_sem]) rfl ⟨rfl, HB.out⟩
          · rw [if_pos rfl] at hA2
            cases S
            · have t1 : bits .or .u64 0 (V : Int) = (V : Int) := by
                have h := u64_join 0 V 10 (by decide) (by omega) (by omega)
                exact h.trans (by omega)
              have HA : Hid ((A : Int) = (V : Int)) := Lib.hid (by rw [← hA2]; simp)
              clear hA2
              go_enter Try.func18, Try.ntmps18
              go_wp2_with fail
              refine (HW.out _).mono ?_
              rintro e w1 ⟨rfl, rfl⟩
              go_wp2_with fail
              refine (HP.out _).mono ?_
              rintro e w2 ⟨rfl, hb⟩
              have HB := Lib.hid hb
              clear hb
              go_wp2_with fail
              refine (HSH.out _).mono ?_
              rintro e w3 ⟨rfl, rfl⟩
              go_wp2_with fail
              exact bodyPost_ret (v := .tuple #[.int .u64 ((V : Int)), .bool true, .int .i64 0]) (by simp [results, Try.results18, go_sem]) rfl ⟨by rw [HA.out], HB.out⟩
            · have t1 : bits .or .u64 32768 (V : Int) = 32768 + (V : Int) := by
                have h := u64_join 32768 V 10 (by decide) (by omega) (by omega)
                exact h.trans (by omega)
              have HA : Hid ((A : Int) = 32768 + (V : Int)) := Lib.hid (by rw [← hA2]; simp)
              clear hA2
              go_enter Try.func18, Try.ntmps18
              go_wp2_with fail
              refine (HW.out _).mono ?_
              rintro e w1 ⟨rfl, rfl⟩
              go_wp2_with fail
              refine (HP.out _).mono ?_
              rintro e w2 ⟨rfl, hb⟩
              have HB := Lib.hid hb
              clear hb
              go_wp2_with fail
              refine (HSH.out _).mono ?_
              rintro e w3 ⟨rfl, rfl⟩
              go_wp2_with fail
              exact bodyPost_ret (v := .tuple #[.int .u64 (32768 + (V : Int)), .bool true, .int .i64 0]) (by simp [results, Try.results18, go_sem]) rfl ⟨by rw [HA.out], HB.out⟩
set_option maxRecDepth 100000 in
set_option maxHeartbeats 4000000 in
theorem narrow_32 (x : Nat) (w : World) (X M : Nat) (S : Bool) (hX : X ≤ 2047) (hM : M < 4503599627370496) (_ : x < 18446744073709551616)
    (HP : Hid (∀ w, Calls Try.prog 13 #[.int .i64 64, .int .u64 (x : Int)] w fun e W' => e = .returned (.tuple #[.bool S, .int .i64 (X : Int), .int .u64 (M : Int), .int .i64 0]) ∧ Below w.heap.size w W'))
    (HW : Hid (∀ w, Calls Try.prog 29 #[.int .i64 32] w fun e w' => e = .returned (.tuple #[.int .i64 8, .int .i64 23]) ∧ w = w')) :
    Calls Try.prog 18 #[.int .i64 32, .int .u64 (x : Int)] w fun e W' => e = .returned (.tuple #[.int .u64 (nwA 8 23 S X M : Int), .bool (nwO 8 23 X M), .int .i64 0]) ∧ Below w.heap.size w W' := by
  obtain ⟨A, hA⟩ : ∃ A, nwA 8 23 S X M = A := ⟨_, rfl⟩
  obtain ⟨O, hO⟩ : ∃ O, nwO 8 23 X M = O := ⟨_, rfl⟩
  have hA2 := hA
  unfold nwA at hA2
  rw [hO] at hA2
  rw [hA, hO]
  clear hA
  have hO2 := hO
  unfold nwO at hO2
  unfold nwV at hA2
  rw [show (2 ^ (8 - 1) - 1 : Nat) = 127 from rfl, show (2 ^ 8 - 1 : Nat) = 255 from rfl, show 52 - 23 = 29 from rfl] at hO2
  rw [show (2 ^ (8 - 1) - 1 : Nat) = 127 from rfl, show (2 ^ 8 - 1 : Nat) = 255 from rfl, show 52 - 23 = 29 from rfl, show (2 ^ (8 + 23) : Nat) = 2147483648 from rfl, show (2 ^ 23 : Nat) = 8388608 from rfl] at hA2
  dsimp only at hO2 hA2
  clear hO
  by_cases c0 : X = 0
  · rw [if_pos c0] at hO2 hA2
    subst c0
    by_cases m0 : M = 0
    · rw [decide_eq_true m0] at hO2
      subst m0 hO2
      rw [if_pos rfl] at hA2
      cases S
      · have HA : Hid (A = 0 ∧ True) := Lib.hid ⟨by rw [← hA2]; rfl, trivial⟩
        clear hA2
        go_enter Try.func18, Try.ntmps18
        go_wp2_with fail
        refine (HW.out _).mono ?_
        rintro e w1 ⟨rfl, rfl⟩
        go_wp2_with fail
        refine (HP.out _).mono ?_
        rintro e w2 ⟨rfl, hb⟩
        have HB := Lib.hid hb
        clear hb
        go_wp2_with fail
        exact bodyPost_ret (v := .tuple #[.int .u64 0, .bool true, .int .i64 0]) (by simp [results, Try.results18, go_sem]) rfl ⟨by rw [HA.out.1]; rfl, HB.out⟩
      · have HA : Hid (A = 2147483648 ∧ True) := Lib.hid ⟨by rw [← hA2]; rfl, trivial⟩
        clear hA2
        go_enter Try.func18, Try.ntmps18
        go_wp2_with fail
        refine (HW.out _).mono ?_
        rintro e w1 ⟨rfl, rfl⟩
        go_wp2_with fail
        refine (HP.out _).mono ?_
        rintro e w2 ⟨rfl, hb⟩
        have HB := Lib.hid hb
        clear hb
        go_wp2_with fail
        exact bodyPost_ret (v := .tuple #[.int .u64 2147483648, .bool true, .int .i64 0]) (by simp [results, Try.results18, go_sem]) rfl ⟨by rw [HA.out.1]; rfl, HB.out⟩
    · rw [decide_eq_false m0] at hO2
      subst hO2
      rw [if_neg (by decide)] at hA2
      have q1 : ((M : Int) == 0) = false := by simp; omega
      subst hA2
      clear m0
      cases S
      · go_enter Try.func18, Try.ntmps18
        go_wp2_with fail
        refine (HW.out _).mono ?_
        rintro e w1 ⟨rfl, rfl⟩
        go_wp2_with fail
        refine (HP.out _).mono ?_
        rintro e w2 ⟨rfl, hb⟩
        have HB := Lib.hid hb
        clear hb
        go_wp2_with fail
        exact bodyPost_ret (v := .tuple #[.int .u64 0, .bool false, .int .i64 0]) (by simp [results, Try.results18, go_sem]) rfl ⟨rfl, HB.out⟩
      · go_enter Try.func18, Try.ntmps18
        go_wp2_with fail
        refine (HW.out _).mono ?_
        rintro e w1 ⟨rfl, rfl⟩
        go_wp2_with fail
        refine (HP.out _).mono ?_
        rintro e w2 ⟨rfl, hb⟩
        have HB := Lib.hid hb
        clear hb
        go_wp2_with fail
        exact bodyPost_ret (v := .tuple #[.int .u64 0, .bool false, .int .i64 0]) (by simp [results, Try.results18, go_sem]) rfl ⟨rfl, HB.out⟩
  · rw [if_neg c0] at hO2 hA2
    have q0 := ne_int (c := (X : Int)) (k := 0) (by omega)
    by_cases c1 : X = 2047
    · rw [if_pos c1] at hO2 hA2
      subst c1
      have hvl := shV_lt (m := M) (n := 29) (b := 8388608) (by omega)
      have HSH := Lib.hid (fun w => rshift_any M 29 w (by omega) (by omega))
      obtain ⟨V, hV⟩ : ∃ V, shV M 29 = V := ⟨_, rfl⟩
      rw [hV] at hA2 hvl HSH
      rw [hO2] at HSH
      clear hV hO2 c0
      cases O
      · rw [if_neg (by decide)] at hA2
        subst hA2
        cases S
        · go_enter Try.func18, Try.ntmps18
          go_wp2_with fail
          refine (HW.out _).mono ?_
          rintro e w1 ⟨rfl, rfl⟩
          go_wp2_with fail
          refine (HP.out _).mono ?_
          rintro e w2 ⟨rfl, hb⟩
          have HB := Lib.hid hb
          clear hb
          go_wp2_with fail
          refine (HSH.out _).mono ?_
          rintro e w3 ⟨rfl, rfl⟩
          go_wp2_with fail
          exact bodyPost_ret (v := .tuple #[.int .u64 0, .bool false, .int .i64 0]) (by simp [results, Try.results18, go_sem]) rfl ⟨rfl, HB.out⟩
        · go_enter Try.func18, Try.ntmps18
          go_wp2_with fail
          refine (HW.out _).mono ?_
          rintro e w1 ⟨rfl, rfl⟩
          go_wp2_with fail
          refine (HP.out _).mono ?_
          rintro e w2 ⟨rfl, hb⟩
          have HB := Lib.hid hb
          clear hb
          go_wp2_with fail
          refine (HSH.out _).mono ?_
          rintro e w3 ⟨rfl, rfl⟩
          go_wp2_with fail
          exact bodyPost_ret (v := .tuple #[.int .u64 0, .bool false, .int .i64 0]) (by simp [results, Try.results18, go_sem]) rfl ⟨rfl, HB.out⟩
      · rw [if_pos rfl] at hA2
        cases S
        · have t1 : bits .or .u64 0 2139095040 = 2139095040 := by decide
          have t2 : bits .or .u64 2139095040 (V : Int) = 2139095040 + (V : Int) := by
            have h := u64_join 2139095040 V 23 (by decide) (by omega) (by omega)
            exact h.trans (by omega)
          have HA : Hid ((A : Int) = 2139095040 + (V : Int)) := Lib.hid (by rw [← hA2]; simp <;> omega)
          clear hA2
          go_enter Try.func18, Try.ntmps18
          go_wp2_with fail
          refine (HW.out _).mono ?_
          rintro e w1 ⟨rfl, rfl⟩
          go_wp2_with fail
          refine (HP.out _).mono ?_
          rintro e w2 ⟨rfl, hb⟩
          have HB := Lib.hid hb
          clear hb
          go_wp2_with fail
          refine (HSH.out _).mono ?_
          rintro e w3 ⟨rfl, rfl⟩
          go_wp2_with fail
          exact bodyPost_ret (v := .tuple #[.int .u64 (2139095040 + (V : Int)), .bool true, .int .i64 0]) (by simp [results, Try.results18, go_sem]) rfl ⟨by rw [HA.out], HB.out⟩
        · have t1 : bits .or .u64 2147483648 2139095040 = 4286578688 := by decide
          have t2 : bits .or .u64 4286578688 (V : Int) = 4286578688 + (V : Int) := by
            have h := u64_join 4286578688 V 23 (by decide) (by omega) (by omega)
            exact h.trans (by omega)
          have HA : Hid ((A : Int) = 4286578688 + (V : Int)) := Lib.hid (by rw [← hA2]; simp <;> omega)
          clear hA2
          go_enter Try.func18, Try.ntmps18
          go_wp2_with fail
          refine (HW.out _).mono ?_
          rintro e w1 ⟨rfl, rfl⟩
          go_wp2_with fail
          refine (HP.out _).mono ?_
          rintro e w2 ⟨rfl, hb⟩
          have HB := Lib.hid hb
          clear hb
          go_wp2_with fail
          refine (HSH.out _).mono ?_
          rintro e w3 ⟨rfl, rfl⟩
          go_wp2_with fail
          exact bodyPost_ret (v := .tuple #[.int .u64 (4286578688 + (V : Int)), .bool true, .int .i64 0]) (by simp [results, Try.results18, go_sem]) rfl ⟨by rw [HA.out], HB.out⟩
    · rw [if_neg c1] at hO2 hA2
      have q1 := ne_int (c := (X : Int)) (k := 2047) (by omega)
      obtain ⟨y, hy⟩ : ∃ y : Int, (X : Int) - 1023 + 127 = y := ⟨_, rfl⟩
      rw [show (X : Int) - 1023 + ((127 : Nat) : Int) = y from hy] at hO2 hA2
      by_cases c2 : y ≥ (((255 : Nat)) : Int) ∨ y < -(((23 : Nat)) : Int)
      · rw [if_pos c2] at hO2
        subst hO2
        rw [if_neg (by decide)] at hA2
        subst hA2
        clear c0 c1
        rcases c2 with c2 | c2
        · have c3 : 255 ≤ y := c2
          clear c2
          cases S
          · go_enter Try.func18, Try.ntmps18
            go_wp2_with fail
            refine (HW.out _).mono ?_
            rintro e w1 ⟨rfl, rfl⟩
            go_wp2_with fail
            refine (HP.out _).mono ?_
            rintro e w2 ⟨rfl, hb⟩
            have HB := Lib.hid hb
            clear hb
            go_wp2_with fail
            exact bodyPost_ret (v := .tuple #[.int .u64 0, .bool false, .int .i64 0]) (by simp [results, Try.results18, go_sem]) rfl ⟨rfl, HB.out⟩
          · go_enter Try.func18, Try.ntmps18
            go_wp2_with fail
            refine (HW.out _).mono ?_
            rintro e w1 ⟨rfl, rfl⟩
            go_wp2_with fail
            refine (HP.out _).mono ?_
            rintro e w2 ⟨rfl, hb⟩
            have HB := Lib.hid hb
            clear hb
            go_wp2_with fail
            exact bodyPost_ret (v := .tuple #[.int .u64 0, .bool false, .int .i64 0]) (by simp [results, Try.results18, go_sem]) rfl ⟨rfl, HB.out⟩
        · have c3 : y < -23 := c2
          clear c2
          cases S
          · go_enter Try.func18, Try.ntmps18
            go_wp2_with fail
            refine (HW.out _).mono ?_
            rintro e w1 ⟨rfl, rfl⟩
            go_wp2_with fail
            refine (HP.out _).mono ?_
            rintro e w2 ⟨rfl, hb⟩
            have HB := Lib.hid hb
            clear hb
            go_wp2_with fail
            exact bodyPost_ret (v := .tuple #[.int .u64 0, .bool false, .int .i64 0]) (by simp [results, Try.results18, go_sem]) rfl ⟨rfl, HB.out⟩
          · go_enter Try.func18, Try.ntmps18
            go_wp2_with fail
            refine (HW.out _).mono ?_
            rintro e w1 ⟨rfl, rfl⟩
            go_wp2_with fail
            refine (HP.out _).mono ?_
            rintro e w2 ⟨rfl, hb⟩
            have HB := Lib.hid hb
            clear hb
            go_wp2_with fail
            exact bodyPost_ret (v := .tuple #[.int .u64 0, .bool false, .int .i64 0]) (by simp [results, Try.results18, go_sem]) rfl ⟨rfl, HB.out⟩
      · rw [if_neg c2] at hO2
        have c3 : y < 255 := by omega
        have c4 : -23 ≤ y := by omega
        clear c0 c1 c2
        by_cases c5 : 1 ≤ y
        · rw [if_pos c5] at hO2 hA2
          obtain ⟨Y, rfl⟩ := Int.eq_ofNat_of_zero_le (show 0 ≤ y by omega)
          rw [Int.toNat_natCast] at hA2
          have hvl := shV_lt (m := M) (n := 29) (b := 8388608) (by omega)
          have HSH := Lib.hid (fun w => rshift_any M 29 w (by omega) (by omega))
          obtain ⟨V, hV⟩ : ∃ V, shV M 29 = V := ⟨_, rfl⟩
          rw [hV] at hA2 hvl HSH
          rw [hO2] at HSH
          clear hV hO2
          cases O
          · rw [if_neg (by decide)] at hA2
            subst hA2
            cases S
            · go_enter Try.func18, Try.ntmps18
              go_wp2_with fail
              refine (HW.out _).mono ?_
              rintro e w1 ⟨rfl, rfl⟩
              go_wp2_with fail
              refine (HP.out _).mono ?_
              rintro e w2 ⟨rfl, hb⟩
              have HB := Lib.hid hb
              clear hb
              go_wp2_with fail
              refine (HSH.out _).mono ?_
              rintro e w3 ⟨rfl, rfl⟩
              go_wp2_with fail
              exact bodyPost_ret (v := .tuple #[.int .u64 0, .bool false, .int .i64 0]) (by simp [results, Try.results18, go_sem]) rfl ⟨rfl, HB.out⟩
            · go_enter Try.func18, Try.ntmps18
              go_wp2_with fail
              refine (HW.out _).mono ?_
              rintro e w1 ⟨rfl, rfl⟩
              go_wp2_with fail
              refine (HP.out _).mono ?_
              rintro e w2 ⟨rfl, hb⟩
              have HB := Lib.hid hb
              clear hb
              go_wp2_with fail
              refine (HSH.out _).mono ?_
              rintro e w3 ⟨rfl, rfl⟩
              go_wp2_with fail
              exact bodyPost_ret (v := .tuple #[.int .u64 0, .bool false, .int .i64 0]) (by simp [results, Try.results18, go_sem]) rfl ⟨rfl, HB.out⟩
          · rw [if_pos rfl] at hA2
            cases S
            · have t1 : bits .or .u64 0 ((Y : Int) * 8388608) = 0 + (Y : Int) * 8388608 := by
                have h := u64_join 0 (Y * 8388608) 31 (by decide) (by omega) (by omega)
                have e1 : (Y : Int) * 8388608 = ((Y * 8388608 : Nat) : Int) := by omega
                rw [e1]
                exact h.trans (by omega)
              have t2 : bits .or .u64 (0 + (Y : Int) * 8388608) (V : Int) = 0 + (Y : Int) * 8388608 + (V : Int) := by
                have h := u64_join (0 + Y * 8388608) V 23 (by omega) (by omega) (by omega)
                have e1 : 0 + (Y : Int) * 8388608 = ((0 + Y * 8388608 : Nat) : Int) := by omega
                rw [e1]
                exact h.trans (by omega)
              have t1' : bits .or .u64 0 ((Y : Int) * 8388608) = (Y : Int) * 8388608 := by rw [t1]; omega
              have t2' : bits .or .u64 ((Y : Int) * 8388608) (V : Int) = (Y : Int) * 8388608 + (V : Int) := by
                have h := u64_join (Y * 8388608) V 23 (by omega) (by omega) (by omega)
                have e1 : (Y : Int) * 8388608 = ((Y * 8388608 : Nat) : Int) := by omega
                rw [e1]
                exact h.trans (by omega)
              clear t1 t2
              have HA : Hid ((A : Int) = (Y : Int) * 8388608 + (V : Int)) := Lib.hid (by rw [← hA2]; simp <;> omega)
              clear hA2
              go_enter Try.func18, Try.ntmps18
              go_wp2_with fail
              refine (HW.out _).mono ?_
              rintro e w1 ⟨rfl, rfl⟩
              go_wp2_with fail
              refine (HP.out _).mono ?_
              rintro e w2 ⟨rfl, hb⟩
              have HB := Lib.hid hb
              clear hb
              go_wp2_with fail
              refine (HSH.out _).mono ?_
              rintro e w3 ⟨rfl, rfl⟩
              go_wp2_with fail
              exact bodyPost_ret (v := .tuple #[.int .u64 ((Y : Int) * 8388608 + (V : Int)), .bool true, .int .i64 0]) (by simp [results, Try.results18, go_sem]) rfl ⟨by rw [HA.out], HB.out⟩
            · have t1 : bits .or .u64 2147483648 ((Y : Int) * 8388608) = 2147483648 + (Y : Int) * 8388608 := by
                have h := u64_join 2147483648 (Y * 8388608) 31 (by decide) (by omega) (by omega)
                have e1 : (Y : Int) * 8388608 = ((Y * 8388608 : Nat) : Int) := by omega
                rw [e1]
                exact h.trans (by omega)
              have t2 : bits .or .u64 (2147483648 + (Y : Int) * 8388608) (V : Int) = 2147483648 + (Y : Int) * 8388608 + (V : Int) := by
                have h := u64_join (2147483648 + Y * 8388608) V 23 (by omega) (by omega) (by omega)
                have e1 : 2147483648 + (Y : Int) * 8388608 = ((2147483648 + Y * 8388608 : Nat) : Int) := by omega
                rw [e1]
                exact h.trans (by omega)
              have HA : Hid ((A : Int) = 2147483648 + (Y : Int) * 8388608 + (V : Int)) := Lib.hid (by rw [← hA2]; simp <;> omega)
              clear hA2
              go_enter Try.func18, Try.ntmps18
              go_wp2_with fail
              refine (HW.out _).mono ?_
              rintro e w1 ⟨rfl, rfl⟩
              go_wp2_with fail
              refine (HP.out _).mono ?_
              rintro e w2 ⟨rfl, hb⟩
              have HB := Lib.hid hb
              clear hb
              go_wp2_with fail
              refine (HSH.out _).mono ?_
              rintro e w3 ⟨rfl, rfl⟩
              go_wp2_with fail
              exact bodyPost_ret (v := .tuple #[.int .u64 (2147483648 + (Y : Int) * 8388608 + (V : Int)), .bool true, .int .i64 0]) (by simp [results, Try.results18, go_sem]) rfl ⟨by rw [HA.out], HB.out⟩
        · rw [if_neg c5] at hO2 hA2
          obtain ⟨N, hN⟩ : ∃ N : Nat, 30 - y = (N : Int) := ⟨(30 - y).toNat, by omega⟩
          have hNn : (53 - ((23 : Nat) : Int) - y).toNat = N := by omega
          rw [hNn] at hO2 hA2
          have hN2 : 30 ≤ N ∧ N ≤ 53 := by omega
          have hpw : (2 : Nat) ^ 30 ≤ 2 ^ N := pow_up hN2.1
          have hvl := shV_lt (m := M + 4503599627370496) (n := N) (b := 8388608) (by rw [show (2 : Nat) ^ 30 = 1073741824 by decide] at hpw; omega)
          have HSH := Lib.hid (fun w => rshift_any (M + 4503599627370496) N w (by omega) (by omega))
          obtain ⟨V, hV⟩ : ∃ V, shV (M + 4503599627370496) N = V := ⟨_, rfl⟩
          rw [hV] at hA2 hvl HSH
          rw [hO2, show ((M + 4503599627370496 : Nat) : Int) = (M : Int) + 4503599627370496 by omega] at HSH
          have t0 := or_hid hM
          have c6 : y < 1 := by omega
          clear hV hO2 hpw hNn c5
          cases O
          · rw [if_neg (by decide)] at hA2
            subst hA2
            cases S
            · go_enter Try.func18, Try.ntmps18
              go_wp2_with fail
              refine (HW.out _).mono ?_
              rintro e w1 ⟨rfl, rfl⟩
              go_wp2_with fail
              refine (HP.out _).mono ?_
              rintro e w2 ⟨rfl, hb⟩
              have HB := Lib.hid hb
              clear hb
              go_wp2_with fail
              refine (HSH.out _).mono ?_
              rintro e w3 ⟨rfl, rfl⟩
              go_wp2_with fail
              exact bodyPost_ret (v := .tuple #[.int .u64 0, .bool false, .int .i64 0]) (by simp [results, Try.results18, go_sem]) rfl ⟨rfl, HB.out⟩
            · go_enter Try.func18, Try.ntmps18
              go_wp2_with fail
              refine (HW.out _).mono ?_
              rintro e w1 ⟨rfl, rfl⟩
              go_wp2_with fail
              refine (HP.out _).mono ?_
              rintro e w2 ⟨rfl, hb⟩
              have HB := Lib.hid hb
              clear hb
              go_wp2_with fail
              refine (HSH.out _).mono ?_
              rintro e w3 ⟨rfl, rfl⟩
              go_wp2_with fail
              exact bodyPost_ret (v := .tuple #[.int .u64 0, .bool false, .int .i64 0]) (by simp [results, Try.results18, go_sem]) rfl ⟨rfl, HB.out⟩
          · rw [if_pos rfl] at hA2
            cases S
            · have t1 : bits .or .u64 0 (V : Int) = (V : Int) := by
                have h := u64_join 0 V 23 (by decide) (by omega) (by omega)
                exact h.trans (by omega)
              have HA : Hid ((A : Int) = (V : Int)) := Lib.hid (by rw [← hA2]; simp)
              clear hA2
              go_enter Try.func18, Try.ntmps18
              go_wp2_with fail
              refine (HW.out _).mono ?_
              rintro e w1 ⟨rfl, rfl⟩
              go_wp2_with fail
              refine (HP.out _).mono ?_
              rintro e w2 ⟨rfl, hb⟩
              have HB := Lib.hid hb
              clear hb
              go_wp2_with fail
              refine (HSH.out _).mono ?_
              rintro e w3 ⟨rfl, rfl⟩
              go_wp2_with fail
              exact bodyPost_ret (v := .tuple #[.int .u64 ((V : Int)), .bool true, .int .i64 0]) (by simp [results, Try.results18, go_sem]) rfl ⟨by rw [HA.out], HB.out⟩
            · have t1 : bits .or .u64 2147483648 (V : Int) = 2147483648 + (V : Int) := by
                have h := u64_join 2147483648 V 23 (by decide) (by omega) (by omega)
                exact h.trans (by omega)
              have HA : Hid ((A : Int) = 2147483648 + (V : Int)) := Lib.hid (by rw [← hA2]; simp)
              clear hA2
              go_enter Try.func18, Try.ntmps18
              go_wp2_with fail
              refine (HW.out _).mono ?_
              rintro e w1 ⟨rfl, rfl⟩
              go_wp2_with fail
              refine (HP.out _).mono ?_
              rintro e w2 ⟨rfl, hb⟩
              have HB := Lib.hid hb
              clear hb
              go_wp2_with fail
              refine (HSH.out _).mono ?_
              rintro e w3 ⟨rfl, rfl⟩
              go_wp2_with fail
              exact bodyPost_ret (v := .tuple #[.int .u64 (2147483648 + (V : Int)), .bool true, .int .i64 0]) (by simp [results, Try.results18, go_sem]) rfl ⟨by rw [HA.out], HB.out⟩
end Go.Proofs.Ytkgejncolchobaa.nn
