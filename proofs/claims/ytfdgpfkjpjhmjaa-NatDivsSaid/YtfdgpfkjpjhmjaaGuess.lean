/- The walk of guess: one limb of a quotient by the highest limbs. -/
import Derived.Test.YtfdgpfkjpjhmjaaDivNum
import Derived.Test.YtfdgpfkjpjhmjaaDiv64
import Derived.Test.YtfdgpfkjpjhmjaaAddTimes
namespace Go.Proofs.Ytfdgpfkjpjhmjaa.nn
open Go.RowKit

theorem quiet_add {P : Program} {f : FuncId} {args : Array Value} {w : World} {a n : Nat} {v : Value}
    (h : Calls P f args (w.drewN (a + n)) fun e w' => e = .returned v ∧ ∃ m, w' = (w.drewN (a + n)).drewN m) :
    Calls P f args (w.drewN (a + n)) fun e w'' => e = .returned v ∧ ∃ m, w'' = w.drewN (a + m) :=
  h.mono fun _ _ ⟨he, m, hm⟩ => ⟨he, n + m, by rw [hm, World.drewN_drewN, Nat.add_assoc]⟩

/-- what holds at the loop's head -/
structure GsRel (U d y1 y0 q r hi lo : Nat) : Prop where
  gs : Guess W64 U d y1 y0 q r
  mul : q * y0 = hi * W64 + lo
  qlt : q < W64
  rlt : r < W64
  llt : lo < W64

theorem GsRel.more {U d y1 y0 q r hi lo : Nat} (H : GsRel U d y1 y0 q r hi lo) (hc : r < hi ∨ (hi = r ∧ d < lo)) (hd : d < W64) : 0 < q ∧ Guess W64 U d y1 y0 (q - 1) (r + y1) := by
  refine H.gs.next ?_
  rw [H.mul]
  rcases hc with hc | ⟨hc, hl⟩
  · have : (r + 1) * W64 ≤ hi * W64 := Nat.mul_le_mul_right _ hc
    rw [Nat.add_mul] at this
    omega
  · subst hc; omega

theorem GsRel.ends {U d y1 y0 q r hi lo : Nat} (H : GsRel U d y1 y0 q r hi lo) (hc : hi < r ∨ (hi = r ∧ lo ≤ d)) : q = (U * W64 + d) / (y1 * W64 + y0) := by
  refine H.gs.fits ?_
  rw [H.mul]
  rcases hc with hc | ⟨hc, hl⟩
  · have : (hi + 1) * W64 ≤ r * W64 := Nat.mul_le_mul_right _ hc
    rw [Nat.add_mul] at this
    have := H.llt
    omega
  · subst hc; omega

theorem GsRel.mk_ {U d y1 y0 q r : Nat} (h : Guess W64 U d y1 y0 q r) (hq : q < W64) (hr : r < W64) : GsRel U d y1 y0 q r (q * y0 / W64) (q * y0 % W64) :=
  ⟨h, by rw [Nat.mul_comm (q * y0 / W64)]; exact (Nat.div_add_mod _ _).symm, hq, hr, Nat.mod_lt _ (by decide)⟩

theorem hi_lt {q y0 : Nat} (hq : q < W64) (hy : y0 < W64) : q * y0 / W64 < W64 := by
  rw [Nat.div_lt_iff_lt_mul (by decide)]
  have : q * y0 ≤ (W64 - 1) * (W64 - 1) := Nat.mul_le_mul (by omega) (by omega)
  have : (W64 - 1) * (W64 - 1) < W64 * W64 := by decide
  omega

theorem quo_lt' {r x d : Nat} (hr : r < d) (hx : x < W64) : (r * W64 + x) / d < W64 := by
  rw [Nat.div_lt_iff_lt_mul (by omega), Nat.mul_comm W64]
  have h : (r + 1) * W64 ≤ d * W64 := Nat.mul_le_mul_right _ hr
  rw [Nat.add_mul] at h
  omega

def GsIs (e : Ending) (w w' : World) (t : Nat) : Prop := e = .returned (.int .u64 (t : Int)) ∧ ∃ j, w' = w.drewN j

set_option maxRecDepth 100000 in
set_option maxHeartbeats 2000000 in
theorem guess_any (A B : Option Addr) (n c d : Nat) (f h : Nat → Nat) (w : World) (hA : Rd w .u64 A (n + 1) f) (hB : Rd w .u64 B n h) (lf : Lt W64 f (n + 1)) (lh : Lt W64 h n) (hn : 2 ≤ n) (hm : n + 1 ≤ maxLen) (h0 : 0 < h (n - 1)) :
    Calls Try.prog 72 #[.slice A (n + 1 : Nat) c, .slice B n d] w fun e w' => GsIs e w w' (gs W64 (f n) (f (n - 1)) (f (n - 2)) (h (n - 1)) (h (n - 2))) := by
  unfold maxLen at hm
  obtain ⟨ba, oa, rfl, _, hca⟩ := hA (by omega)
  obtain ⟨bb, ob, rfl, _, hcb⟩ := hB (by omega)
  have x2 := hca n (by omega)
  have x1 := hca (n - 1) (by omega)
  have x0 := hca (n - 2) (by omega)
  have y1 := hcb (n - 1) (by omega)
  have y0 := hcb (n - 2) (by omega)
  have b2 := lf n (by omega)
  have b1 := lf (n - 1) (by omega)
  have b0 := lf (n - 2) (by omega)
  have t1 := lh (n - 1) (by omega)
  have t0 := lh (n - 2) (by omega)
  obtain ⟨X2, e⟩ : ∃ X2, f n = X2 := ⟨_, rfl⟩
  rw [e] at x2 b2 ⊢
  clear e
  obtain ⟨X1, e⟩ : ∃ X1, f (n - 1) = X1 := ⟨_, rfl⟩
  rw [e] at x1 b1 ⊢
  clear e
  obtain ⟨X0, e⟩ : ∃ X0, f (n - 2) = X0 := ⟨_, rfl⟩
  rw [e] at x0 b0 ⊢
  clear e
  obtain ⟨Y1, e⟩ : ∃ Y1, h (n - 1) = Y1 := ⟨_, rfl⟩
  rw [e] at y1 t1 h0 ⊢
  clear e
  obtain ⟨Y0, e⟩ : ∃ Y0, h (n - 2) = Y0 := ⟨_, rfl⟩
  rw [e] at y0 t0 ⊢
  clear e hca hcb hA hB lf lh
  have k1 : IntKind.i64.wrap ((n : Int) - 1) = (n : Int) - 1 := IntWalk.i64_in _ (by omega)
  have k2 : IntKind.i64.wrap ((n : Int) - 2) = (n : Int) - 2 := IntWalk.i64_in _ (by omega)
  have k3 : ((n : Int) - 1).toNat = n - 1 := by omega
  have k4 : ((n : Int) - 2).toNat = n - 2 := by omega
  have k5 : 0 ≤ (n : Int) - 1 := by omega
  have k6 : 0 ≤ (n : Int) - 2 := by omega
  have B2 : X2 ≤ 18446744073709551615 := by unfold W64 at b2; omega
  have B1 : X1 ≤ 18446744073709551615 := by unfold W64 at b1; omega
  have B0 : X0 ≤ 18446744073709551615 := by unfold W64 at b0; omega
  have T1 : Y1 ≤ 18446744073709551615 := by unfold W64 at t1; omega
  have T0 : Y0 ≤ 18446744073709551615 := by unfold W64 at t0; omega
  have HB1 := Lib.hid b1
  have HB0 := Lib.hid b0
  have HT1 := Lib.hid t1
  have HT0 := Lib.hid t0
  clear b2 b1 b0 t1 t0
  by_cases hc : Y1 ≤ X2
  · have HG : Hid (gs W64 X2 X1 X0 Y1 Y0 = W64 - 1) := Lib.hid (if_pos hc)
    go_enter Try.func72, Try.ntmps72
    go_wp2
    go_quiet (fail)
    go_wp2
    go_ret
    rw [HG.out]
    exact ⟨rfl, _, rfl⟩
  · have hlt : X2 < Y1 := by omega
    have HG : Hid (gs W64 X2 X1 X0 Y1 Y0 = ((X2 * W64 + X1) * W64 + X0) / (Y1 * W64 + Y0)) := Lib.hid (if_neg hc)
    have HD : ∀ W, Calls Try.prog 59 #[.int .u64 (X2 : Nat), .int .u64 (X1 : Nat), .int .u64 (Y1 : Nat)] W fun e w' => e = .returned (.tuple #[.int .u64 (((X2 * W64 + X1) / Y1 : Nat) : Int), .int .u64 (((X2 * W64 + X1) % Y1 : Nat) : Int)]) ∧ ∃ j, w' = W.drewN j := fun W =>
      div64_any X2 X1 Y1 W HB1.out HT1.out hlt
    have g0 := guess_start (B := W64) (U := X2 * W64 + X1) (d := X0) (y1 := Y1) (y0 := Y0) h0 HB0.out
    have g1 := quo_lt' hlt HB1.out
    have g2 := Nat.lt_trans (Nat.mod_lt (X2 * W64 + X1) h0) HT1.out
    obtain ⟨U, hU⟩ : ∃ U, X2 * W64 + X1 = U := ⟨_, rfl⟩
    rw [hU] at HD g0 g1 g2 HG
    obtain ⟨q0, hq0⟩ : ∃ q0, U / Y1 = q0 := ⟨_, rfl⟩
    obtain ⟨r0, hr0⟩ : ∃ r0, U % Y1 = r0 := ⟨_, rfl⟩
    rw [hq0] at HD g0 g1
    rw [hr0] at HD g0 g2
    have HH := Lib.hid (GsRel.mk_ g0 g1 g2)
    have HM : Hid (∀ (W : World) (q : Nat) (z : Int), z = (q : Int) → q < W64 → Calls Try.prog 68 #[.int .u64 z, .int .u64 Y0] W fun e w' => e = .returned (.tuple #[.int .u64 ((q * Y0 / W64 : Nat) : Int), .int .u64 ((q * Y0 % W64 : Nat) : Int)]) ∧ W = w') := Lib.hid fun W q z hz hq => by
      subst hz
      exact (Go.Proofs.Try.bits_Mul64 q Y0 hq HT0.out W).mono fun e w' ⟨h1, h2⟩ => ⟨h1, h2.symm⟩
    have HDD := Lib.hid HD
    have G1 := Lib.hid g1
    clear HD g0 g1 g2 hU hq0 hr0 hc
    go_enter Try.func72, Try.ntmps72
    go_wp2
    go_quiet (fail)
    go_wp2
    go_quiet ((go_at_call 59; exact quiet_add (HDD.out _)))
    clear k1 k3 k5
    go_wp2_with fail
    refine (HM.out _ q0 _ rfl G1.out).mono ?_
    rintro e w' ⟨rfl, rfl⟩
    obtain ⟨hi0, hhi⟩ : ∃ hi, q0 * Y0 / W64 = hi := ⟨_, rfl⟩
    obtain ⟨lo0, hlo⟩ : ∃ lo, q0 * Y0 % W64 = lo := ⟨_, rfl⟩
    rw [hhi, hlo] at HH
    rw [hhi, hlo]
    clear hhi hlo k2 k4
    go_wp2
    go_loopw [8, 9, 10, 11] (fun s8 s9 s10 s11 wr => ∃ (q r hi lo : Nat), s8 = .int .u64 (q : Int) ∧ s9 = .int .u64 (r : Int) ∧ s10 = .int .u64 (hi : Int) ∧ s11 = .int .u64 (lo : Int) ∧ Hid (GsRel U X0 Y1 Y0 q r hi lo) ∧ ∃ j, wr = w.drewN j) (fun s8 _ _ _ _ => (intOf s8).toNat)
    case atStart => exact ⟨q0, r0, hi0, lo0, rfl, rfl, rfl, rfl, HH, _, rfl⟩
    case round =>
      clear HH HDD G1
      obtain ⟨q, r, hi, lo, rfl, rfl, rfl, rfl, HR, j, rfl⟩ := hrel
      have bq : q ≤ 18446744073709551615 := by have := HR.out.qlt; unfold W64 at this; omega
      by_cases hc : r < hi ∨ (hi = r ∧ X0 < lo)
      · have hnx := HR.out.more hc HB0.out
        obtain ⟨p, rfl⟩ : ∃ p, q = p + 1 := ⟨q - 1, by omega⟩
        rw [Nat.add_sub_cancel] at hnx
        have HN := Lib.hid hnx.2
        have hpl : Hid (p < W64) := Lib.hid (by have := HR.out.qlt; omega)
        have bp : p ≤ 18446744073709551614 := by omega
        have hz : Hid (((p + 1 : Nat) : Int) - 1 = (p : Int)) := Lib.hid (by omega)
        clear hnx bq
        by_cases h3 : r + Y1 < W64
        · have hA1 : ∀ W, (callFunc 69 #[.int .u64 r, .int .u64 Y1, .int .u64 0]).run Try.prog W = .ok (.value (.tuple #[.int .u64 ((r + Y1 : Nat) : Int), .int .u64 0])) W := fun W => by
            rw [run_add64_at r Y1 W, Nat.mod_eq_of_lt h3, Nat.div_eq_of_lt h3]; rfl
          obtain ⟨s, hs⟩ : ∃ s, r + Y1 = s := ⟨_, rfl⟩
          rw [hs] at hA1 HN h3
          have H3 := Lib.hid h3
          clear hs h3
          rcases hc with hc | ⟨rfl, hc⟩
          all_goals
            go_wp2_with (go_at_call 68; refine (HM.out _ p _ (by omega) hpl.out).mono ?_; rintro e w' ⟨rfl, rfl⟩)
            go_roundw
            case rel => exact ⟨p, s, _, _, by go_num, rfl, rfl, rfl, Lib.hid (GsRel.mk_ HN.out hpl.out H3.out), _, rfl⟩
            case measure => simp [intOf]
        · have hA1 : ∀ W, (callFunc 69 #[.int .u64 r, .int .u64 Y1, .int .u64 0]).run Try.prog W = .ok (.value (.tuple #[.int .u64 (((r + Y1) % W64 : Nat) : Int), .int .u64 1])) W := fun W => by
            have h4 : (r + Y1) / W64 = 1 := by have := HR.out.rlt; have := HT1.out; unfold W64 at *; omega
            rw [run_add64_at r Y1 W, h4]; rfl
          have HE := Lib.hid (HN.out.wide (Nat.le_of_lt hpl.out) HT0.out (by omega))
          obtain ⟨s, hs⟩ : ∃ s, (r + Y1) % W64 = s := ⟨_, rfl⟩
          rw [hs] at hA1
          clear hs h3
          rcases hc with hc | ⟨rfl, hc⟩
          all_goals
            go_wp2
            go_ret
            rw [HG.out, ← HE.out]
            exact ⟨congrArg (fun z => Ending.returned (Value.int .u64 z)) (by omega), _, rfl⟩
      · have hc2 : hi < r ∨ (hi = r ∧ lo ≤ X0) := by omega
        have HE := Lib.hid (HR.out.ends hc2)
        clear hc
        rcases hc2 with hc | ⟨rfl, hc⟩
        all_goals
          go_wp2
          go_ret
          rw [HG.out, ← HE.out]
          exact ⟨rfl, _, rfl⟩
end Go.Proofs.Ytfdgpfkjpjhmjaa.nn
