/- Joined texts, what is wanted of them: EsB, EsC, Bld, BldGrow, BldString, EsD, EsE, EsF, EsG, EsH, RefTwice, RdA, RdC, FdCut5, FdScan, FdScan2, RdH, NnB. -/
import Derived.Test.YtaopjeobapnhbaaProg
import Derived.WalkKit
import Derived.Lib.Hide
import Derived.Deep.CutBlock
import Derived.BigQuiet
import Derived.Deep.QuietTactic
import Derived.Deep.DeepCutAuto
import Derived.KernelRfl
import Derived.Below
import Derived.Deep.WholeRow
import Derived.Great.Walk
import Derived.Laws.BitsAllLaws
import Derived.RowKit
import Derived.IntWalk
import Derived.Test.YtaopjeobapnhbaaShelf
import Derived.Lib.MinMax
import Derived.Laws.BytesArg
import Derived.Laws.OwnMore
import Derived.Deep.AppendLies
import Derived.Deep.Draws
import Derived.Maps.AppendAt
import Derived.RegionTactic
import Derived.OwnWalk
import Derived.Deep.RegionLaw
import Derived.Lib.UnsafeStr
import Derived.Lib.AppendStr
import Derived.Lib.BitFns
import Derived.WalkSpells
import Derived.Laws.Rows
import Derived.Laws.Externs
import Derived.Deep.RegionHeld3
import Derived.Deep.RegionWith
import Derived.Deep.CutRange
import Derived.Deep.LoopGhost
import Derived.Laws.BitsLemmas
import Derived.Shelf.Spec.BitsCarry
import Derived.Laws.Bits64
import Derived.Laws.CopyOwn
import Derived.StillTailTactics
import Derived.Lib.Builder
import Derived.Lib.MakeNoZero
import Derived.OneCell
import Derived.BigRegion
import Derived.Test.YtaopjeobapnhbaaShelfR
import Derived.RangeFuncNested
import Derived.RangeFuncBound
import Derived.RangeFuncCalls
import Derived.RangeFuncLeaves
import Derived.Shelf.Abstract
import Derived.Shelf.RegionOpen
import Derived.OwnWalkIn
import Derived.TacticsInMore
import Derived.Laws.AppendOwn
import Derived.Maps.OwnIn
import Derived.RangeFuncBox
import Derived.Test.YtaopjeobapnhbaaRows
import Derived.ProofKit
import Derived.SizedLaws
import Derived.ChangeMaps5
import Derived.Test.YtaopjeobapnhbaaJb
namespace Go.Proofs.Ytaopjeobapnhbaa.nn
open Go.RowKit

theorem eshx_cases (c : Nat) : hx c = if 48 ≤ c ∧ c ≤ 57 then some (c - 48) else if 97 ≤ c ∧ c ≤ 102 then some (c - 87) else if 65 ≤ c ∧ c ≤ 70 then some (c - 55) else none := rfl
theorem eshx_lt {c d : Nat} (h : hx c = some d) : d < 16 := by
  rw [eshx_cases] at h
  split at h
  · injection h; omega
  · split at h
    · injection h; omega
    · split at h
      · injection h; omega
      · cases h
def hxV (c : Nat) : Value := .tuple #[.int .i64 (((hx c).getD 0 : Nat) : Int), .bool (hx c).isSome]
theorem u8_in {x : Int} (h0 : 0 ≤ x) (h : x < 256) : IntKind.u8.wrap x = x := by rw [IntKind.wrap_u8]; omega
set_option maxRecDepth 100000 in
theorem edigit_any (c : Nat) (hc : c < 256) (w : World) : Calls Try.prog 59 #[.int .u8 (c : Int)] w fun e w' => e = .returned (hxV c) ∧ Below w.heap.size w w' := by
  have h7 : c < 48 ∨ (48 ≤ c ∧ c ≤ 57) ∨ (58 ≤ c ∧ c ≤ 64) ∨ (65 ≤ c ∧ c ≤ 70) ∨ (71 ≤ c ∧ c ≤ 96) ∨ (97 ≤ c ∧ c ≤ 102) ∨ 103 ≤ c := by omega
  have HH := Lib.hid (eshx_cases c)
  rcases h7 with h | h | h | h | h | h | h
  · have k1 : decide ((48 : Int) ≤ (c : Int)) = false := decide_eq_false (by omega); have k2 : decide ((c : Int) ≤ 57) = true := decide_eq_true (by omega); have k3 : decide ((97 : Int) ≤ (c : Int)) = false := decide_eq_false (by omega); have k4 : decide ((c : Int) ≤ 102) = true := decide_eq_true (by omega); have k5 : decide ((65 : Int) ≤ (c : Int)) = false := decide_eq_false (by omega); have k6 : decide ((c : Int) ≤ 70) = true := decide_eq_true (by omega)
    have HV : Hid (hx c = none) := Lib.hid (by rw [HH.out]; repeat (first | rw [if_pos (by omega)] | rw [if_neg (by omega)]))
    unfold hxV
    rw [HV.out]
    clear h hc HH HV
    go_enter Try.func59, Try.ntmps59
    go_wp2_with fail
    exact bodyPost_ret (v := .tuple #[.int .i64 0, .bool false]) (by simp [results, Try.results59, go_sem]) rfl ⟨rfl, by first | exact Below.refl _ _ | exact Below.drew (Below.refl _ _)⟩
  · have k1 : decide ((48 : Int) ≤ (c : Int)) = true := decide_eq_true (by omega); have k2 : decide ((c : Int) ≤ 57) = true := decide_eq_true (by omega); have k3 : decide ((97 : Int) ≤ (c : Int)) = false := decide_eq_false (by omega); have k4 : decide ((c : Int) ≤ 102) = true := decide_eq_true (by omega); have k5 : decide ((65 : Int) ≤ (c : Int)) = false := decide_eq_false (by omega); have k6 : decide ((c : Int) ≤ 70) = true := decide_eq_true (by omega)
    have HV : Hid (hx c = some (c - 48)) := Lib.hid (by rw [HH.out]; repeat (first | rw [if_pos (by omega)] | rw [if_neg (by omega)]))
    have q1 : IntKind.u8.wrap ((c : Int) - 48) = (c : Int) - 48 := u8_in (by omega) (by omega)
    have q2 : wrap64 ((c : Int) - 48) = (c : Int) - 48 := by unfold wrap64; omega
    have HE : Hid ((c : Int) - 48 = ((c - 48 : Nat) : Int)) := Lib.hid (by omega)
    unfold hxV
    rw [HV.out]
    clear h hc HH HV
    go_enter Try.func59, Try.ntmps59
    go_wp2_with fail
    exact bodyPost_ret (v := .tuple #[.int .i64 ((c : Int) - 48), .bool true]) (by simp [results, Try.results59, go_sem, q2]) rfl ⟨by simp only [Option.getD_some, Option.isSome_some]; rw [HE.out], by first | exact Below.refl _ _ | exact Below.drew (Below.refl _ _)⟩
  · have k1 : decide ((48 : Int) ≤ (c : Int)) = true := decide_eq_true (by omega); have k2 : decide ((c : Int) ≤ 57) = false := decide_eq_false (by omega); have k3 : decide ((97 : Int) ≤ (c : Int)) = false := decide_eq_false (by omega); have k4 : decide ((c : Int) ≤ 102) = true := decide_eq_true (by omega); have k5 : decide ((65 : Int) ≤ (c : Int)) = false := decide_eq_false (by omega); have k6 : decide ((c : Int) ≤ 70) = true := decide_eq_true (by omega)
    have HV : Hid (hx c = none) := Lib.hid (by rw [HH.out]; repeat (first | rw [if_pos (by omega)] | rw [if_neg (by omega)]))
    unfold hxV
    rw [HV.out]
    clear h hc HH HV
    go_enter Try.func59, Try.ntmps59
    go_wp2_with fail
    exact bodyPost_ret (v := .tuple #[.int .i64 0, .bool false]) (by simp [results, Try.results59, go_sem]) rfl ⟨rfl, by first | exact Below.refl _ _ | exact Below.drew (Below.refl _ _)⟩
  · have k1 : decide ((48 : Int) ≤ (c : Int)) = true := decide_eq_true (by omega); have k2 : decide ((c : Int) ≤ 57) = false := decide_eq_false (by omega); have k3 : decide ((97 : Int) ≤ (c : Int)) = false := decide_eq_false (by omega); have k4 : decide ((c : Int) ≤ 102) = true := decide_eq_true (by omega); have k5 : decide ((65 : Int) ≤ (c : Int)) = true := decide_eq_true (by omega); have k6 : decide ((c : Int) ≤ 70) = true := decide_eq_true (by omega)
    have HV : Hid (hx c = some (c - 55)) := Lib.hid (by rw [HH.out]; repeat (first | rw [if_pos (by omega)] | rw [if_neg (by omega)]))
    have q1 : IntKind.u8.wrap ((c : Int) - 65) = (c : Int) - 65 := u8_in (by omega) (by omega)
    have q2 : wrap64 ((c : Int) - 65) = (c : Int) - 65 := by unfold wrap64; omega
    have q3 : wrap64 ((c : Int) - 65 + 10) = (c : Int) - 65 + 10 := by unfold wrap64; omega
    have HE : Hid ((c : Int) - 65 + 10 = ((c - 55 : Nat) : Int)) := Lib.hid (by omega)
    unfold hxV
    rw [HV.out]
    clear h hc HH HV
    go_enter Try.func59, Try.ntmps59
    go_wp2_with fail
    exact bodyPost_ret (v := .tuple #[.int .i64 ((c : Int) - 65 + 10), .bool true]) (by simp [results, Try.results59, go_sem, q3]) rfl ⟨by simp only [Option.getD_some, Option.isSome_some]; rw [HE.out], by first | exact Below.refl _ _ | exact Below.drew (Below.refl _ _)⟩
  · have k1 : decide ((48 : Int) ≤ (c : Int)) = true := decide_eq_true (by omega); have k2 : decide ((c : Int) ≤ 57) = false := decide_eq_false (by omega); have k3 : decide ((97 : Int) ≤ (c : Int)) = false := decide_eq_false (by omega); have k4 : decide ((c : Int) ≤ 102) = true := decide_eq_true (by omega); have k5 : decide ((65 : Int) ≤ (c : Int)) = true := decide_eq_true (by omega); have k6 : decide ((c : Int) ≤ 70) = false := decide_eq_false (by omega)
    have HV : Hid (hx c = none) := Lib.hid (by rw [HH.out]; repeat (first | rw [if_pos (by omega)] | rw [if_neg (by omega)]))
    unfold hxV
    rw [HV.out]
    clear h hc HH HV
    go_enter Try.func59, Try.ntmps59
    go_wp2_with fail
    exact bodyPost_ret (v := .tuple #[.int .i64 0, .bool false]) (by simp [results, Try.results59, go_sem]) rfl ⟨rfl, by first | exact Below.refl _ _ | exact Below.drew (Below.refl _ _)⟩
  · have k1 : decide ((48 : Int) ≤ (c : Int)) = true := decide_eq_true (by omega); have k2 : decide ((c : Int) ≤ 57) = false := decide_eq_false (by omega); have k3 : decide ((97 : Int) ≤ (c : Int)) = true := decide_eq_true (by omega); have k4 : decide ((c : Int) ≤ 102) = true := decide_eq_true (by omega); have k5 : decide ((65 : Int) ≤ (c : Int)) = true := decide_eq_true (by omega); have k6 : decide ((c : Int) ≤ 70) = false := decide_eq_false (by omega)
    have HV : Hid (hx c = some (c - 87)) := Lib.hid (by rw [HH.out]; repeat (first | rw [if_pos (by omega)] | rw [if_neg (by omega)]))
    have q0 : IntKind.u8.wrap ((c : Int) - 32) = (c : Int) - 32 := u8_in (by omega) (by omega)
    have q1 : IntKind.u8.wrap ((c : Int) - 32 - 65) = (c : Int) - 32 - 65 := u8_in (by omega) (by omega)
    have q2 : wrap64 ((c : Int) - 32 - 65) = (c : Int) - 32 - 65 := by unfold wrap64; omega
    have q3 : wrap64 ((c : Int) - 32 - 65 + 10) = (c : Int) - 32 - 65 + 10 := by unfold wrap64; omega
    have HE : Hid ((c : Int) - 32 - 65 + 10 = ((c - 87 : Nat) : Int)) := Lib.hid (by omega)
    unfold hxV
    rw [HV.out]
    clear h hc HH HV
    go_enter Try.func59, Try.ntmps59
    go_wp2_with fail
    exact bodyPost_ret (v := .tuple #[.int .i64 ((c : Int) - 32 - 65 + 10), .bool true]) (by simp [results, Try.results59, go_sem, q3]) rfl ⟨by simp only [Option.getD_some, Option.isSome_some]; rw [HE.out], by first | exact Below.refl _ _ | exact Below.drew (Below.refl _ _)⟩
  · have k1 : decide ((48 : Int) ≤ (c : Int)) = true := decide_eq_true (by omega); have k2 : decide ((c : Int) ≤ 57) = false := decide_eq_false (by omega); have k3 : decide ((97 : Int) ≤ (c : Int)) = true := decide_eq_true (by omega); have k4 : decide ((c : Int) ≤ 102) = false := decide_eq_false (by omega); have k5 : decide ((65 : Int) ≤ (c : Int)) = true := decide_eq_true (by omega); have k6 : decide ((c : Int) ≤ 70) = false := decide_eq_false (by omega)
    have HV : Hid (hx c = none) := Lib.hid (by rw [HH.out]; repeat (first | rw [if_pos (by omega)] | rw [if_neg (by omega)]))
    unfold hxV
    rw [HV.out]
    clear h hc HH HV
    go_enter Try.func59, Try.ntmps59
    go_wp2_with fail
    exact bodyPost_ret (v := .tuple #[.int .i64 0, .bool false]) (by simp [results, Try.results59, go_sem]) rfl ⟨rfl, by first | exact Below.refl _ _ | exact Below.drew (Below.refl _ _)⟩

set_option maxRecDepth 100000 in
theorem fits_any (u b : Nat) (low : Bool) (w : World) (hb : b = 0 ∨ b = 4 ∨ b = 8 ∨ b = 12) (hu : u * 2 ^ b < 65536) : Calls Try.prog 60 #[.int .i64 (u : Int), .int .i64 (b : Int), .bool low] w fun e w' => e = .returned (.bool (fitB low u b)) ∧ Below w.heap.size w w' := by
  have hor : bits .or .i64 ((u * 2 ^ b : Nat) : Int) ((2 ^ b - 1 : Nat) : Int) = ((u * 2 ^ b + (2 ^ b - 1) : Nat) : Int) := by
    rw [i64_or_nat _ _ (by omega) (by rcases hb with rfl | rfl | rfl | rfl <;> omega), nat_join b _ _ (Nat.mul_mod_left _ _) (by have := Nat.two_pow_pos b; omega)]
  obtain ⟨r, hr⟩ : ∃ r, fitB low u b = r := ⟨_, rfl⟩
  have HF : Hid ((if low then decide (u * 2 ^ b ≤ 57343) && decide (56320 ≤ u * 2 ^ b + (2 ^ b - 1)) else decide (u * 2 ^ b < 56320) || decide (57343 < u * 2 ^ b + (2 ^ b - 1))) = r) := Lib.hid hr
  rw [hr]
  clear hr
  obtain ⟨Y, hY⟩ : ∃ Y, u * 2 ^ b + (2 ^ b - 1) = Y := ⟨_, rfl⟩
  rw [hY] at HF hor
  rcases hb with rfl | rfl | rfl | rfl
  · have hu : u < 65536 := by rw [Nat.pow_zero, Nat.mul_one] at hu; exact hu
    have o1 : bits .or .i64 (u : Int) 0 = (Y : Int) := by rw [Nat.pow_zero, Nat.mul_one] at hor; exact hor
    have x1 : wrap64 (u : Int) = (u : Int) := by unfold wrap64; omega
    have HF : Hid ((if low then decide (u ≤ 57343) && decide (56320 ≤ Y) else decide (u < 56320) || decide (57343 < Y)) = r) := Lib.hid (by have h7 := HF.out; rw [Nat.pow_zero, Nat.mul_one] at h7; exact h7)
    clear hor hY
    cases low with
    | true =>
      by_cases h1 : u ≤ 57343
      · have k1 : decide ((u : Int) ≤ 57343) = true := decide_eq_true (by omega)
        by_cases h2 : 56320 ≤ Y
        · have k2 : decide ((56320 : Int) ≤ (Y : Int)) = true := decide_eq_true (by omega)
          have HR : Hid (r = true) := Lib.hid (by rw [← HF.out]; simp [h1, h2])
          rw [HR.out]
          clear HR HF h1 hu
          go_enter Try.func60, Try.ntmps60
          go_wp2_with fail
          go_ret
          exact ⟨rfl, Below.refl _ _⟩
        · have k2 : decide ((56320 : Int) ≤ (Y : Int)) = false := decide_eq_false (by omega)
          have HR : Hid (r = false) := Lib.hid (by rw [← HF.out]; simp [h2])
          rw [HR.out]
          clear HR HF h1 hu
          go_enter Try.func60, Try.ntmps60
          go_wp2_with fail
          go_ret
          exact ⟨rfl, Below.refl _ _⟩
      · have k1 : decide ((u : Int) ≤ 57343) = false := decide_eq_false (by omega)
        have HR : Hid (r = false) := Lib.hid (by rw [← HF.out]; simp; omega)
        rw [HR.out]
        clear HR HF h1 hu
        go_enter Try.func60, Try.ntmps60
        go_wp2_with fail
        go_ret
        exact ⟨rfl, Below.refl _ _⟩
    | false =>
      by_cases h1 : u < 56320
      · have k1 : decide ((u : Int) < 56320) = true := decide_eq_true (by omega)
        have HR : Hid (r = true) := Lib.hid (by rw [← HF.out]; simp; omega)
        rw [HR.out]
        clear HR HF h1 hu
        go_enter Try.func60, Try.ntmps60
        go_wp2_with fail
        go_ret
        exact ⟨rfl, Below.refl _ _⟩
      · have k1 : decide ((u : Int) < 56320) = false := decide_eq_false (by omega)
        by_cases h2 : 57343 < Y
        · have k2 : decide ((57343 : Int) < (Y : Int)) = true := decide_eq_true (by omega)
          have HR : Hid (r = true) := Lib.hid (by rw [← HF.out]; simp [h2])
          rw [HR.out]
          clear HR HF h1 hu
          go_enter Try.func60, Try.ntmps60
          go_wp2_with fail
          go_ret
          exact ⟨rfl, Below.refl _ _⟩
        · have k2 : decide ((57343 : Int) < (Y : Int)) = false := decide_eq_false (by omega)
          have HR : Hid (r = false) := Lib.hid (by rw [← HF.out]; simp; omega)
          rw [HR.out]
          clear HR HF h1 hu
          go_enter Try.func60, Try.ntmps60
          go_wp2_with fail
          go_ret
          exact ⟨rfl, Below.refl _ _⟩
  · have hu : u * 16 < 65536 := hu
    have o1 : bits .or .i64 ((u : Int) * 16) 15 = (Y : Int) := hor
    have x1 : wrap64 ((u : Int) * 16) = (u : Int) * 16 := by unfold wrap64; omega
    have HF : Hid ((if low then decide (u * 16 ≤ 57343) && decide (56320 ≤ Y) else decide (u * 16 < 56320) || decide (57343 < Y)) = r) := HF
    clear hor hY
    cases low with
    | true =>
      by_cases h1 : u * 16 ≤ 57343
      · have k1 : decide ((u : Int) * 16 ≤ 57343) = true := decide_eq_true (by omega)
        by_cases h2 : 56320 ≤ Y
        · have k2 : decide ((56320 : Int) ≤ (Y : Int)) = true := decide_eq_true (by omega)
          have HR : Hid (r = true) := Lib.hid (by rw [← HF.out]; simp [h1, h2])
          rw [HR.out]
          clear HR HF h1 hu
          go_enter Try.func60, Try.ntmps60
          go_wp2_with fail
          go_ret
          exact ⟨rfl, Below.refl _ _⟩
        · have k2 : decide ((56320 : Int) ≤ (Y : Int)) = false := decide_eq_false (by omega)
          have HR : Hid (r = false) := Lib.hid (by rw [← HF.out]; simp [h2])
          rw [HR.out]
          clear HR HF h1 hu
          go_enter Try.func60, Try.ntmps60
          go_wp2_with fail
          go_ret
          exact ⟨rfl, Below.refl _ _⟩
      · have k1 : decide ((u : Int) * 16 ≤ 57343) = false := decide_eq_false (by omega)
        have HR : Hid (r = false) := Lib.hid (by rw [← HF.out]; simp; omega)
        rw [HR.out]
        clear HR HF h1 hu
        go_enter Try.func60, Try.ntmps60
        go_wp2_with fail
        go_ret
        exact ⟨rfl, Below.refl _ _⟩
    | false =>
      by_cases h1 : u * 16 < 56320
      · have k1 : decide ((u : Int) * 16 < 56320) = true := decide_eq_true (by omega)
        have HR : Hid (r = true) := Lib.hid (by rw [← HF.out]; simp; omega)
        rw [HR.out]
        clear HR HF h1 hu
        go_enter Try.func60, Try.ntmps60
        go_wp2_with fail
        go_ret
        exact ⟨rfl, Below.refl _ _⟩
      · have k1 : decide ((u : Int) * 16 < 56320) = false := decide_eq_false (by omega)
        by_cases h2 : 57343 < Y
        · have k2 : decide ((57343 : Int) < (Y : Int)) = true := decide_eq_true (by omega)
          have HR : Hid (r = true) := Lib.hid (by rw [← HF.out]; simp [h2])
          rw [HR.out]
          clear HR HF h1 hu
          go_enter Try.func60, Try.ntmps60
          go_wp2_with fail
          go_ret
          exact ⟨rfl, Below.refl _ _⟩
        · have k2 : decide ((57343 : Int) < (Y : Int)) = false := decide_eq_false (by omega)
          have HR : Hid (r = false) := Lib.hid (by rw [← HF.out]; simp; omega)
          rw [HR.out]
          clear HR HF h1 hu
          go_enter Try.func60, Try.ntmps60
          go_wp2_with fail
          go_ret
          exact ⟨rfl, Below.refl _ _⟩
  · have hu : u * 256 < 65536 := hu
    have o1 : bits .or .i64 ((u : Int) * 256) 255 = (Y : Int) := hor
    have x1 : wrap64 ((u : Int) * 256) = (u : Int) * 256 := by unfold wrap64; omega
    have HF : Hid ((if low then decide (u * 256 ≤ 57343) && decide (56320 ≤ Y) else decide (u * 256 < 56320) || decide (57343 < Y)) = r) := HF
    clear hor hY
    cases low with
    | true =>
      by_cases h1 : u * 256 ≤ 57343
      · have k1 : decide ((u : Int) * 256 ≤ 57343) = true := decide_eq_true (by omega)
        by_cases h2 : 56320 ≤ Y
        · have k2 : decide ((56320 : Int) ≤ (Y : Int)) = true := decide_eq_true (by omega)
          have HR : Hid (r = true) := Lib.hid (by rw [← HF.out]; simp [h1, h2])
          rw [HR.out]
          clear HR HF h1 hu
          go_enter Try.func60, Try.ntmps60
          go_wp2_with fail
          go_ret
          exact ⟨rfl, Below.refl _ _⟩
        · have k2 : decide ((56320 : Int) ≤ (Y : Int)) = false := decide_eq_false (by omega)
          have HR : Hid (r = false) := Lib.hid (by rw [← HF.out]; simp [h2])
          rw [HR.out]
          clear HR HF h1 hu
          go_enter Try.func60, Try.ntmps60
          go_wp2_with fail
          go_ret
          exact ⟨rfl, Below.refl _ _⟩
      · have k1 : decide ((u : Int) * 256 ≤ 57343) = false := decide_eq_false (by omega)
        have HR : Hid (r = false) := Lib.hid (by rw [← HF.out]; simp; omega)
        rw [HR.out]
        clear HR HF h1 hu
        go_enter Try.func60, Try.ntmps60
        go_wp2_with fail
        go_ret
        exact ⟨rfl, Below.refl _ _⟩
    | false =>
      by_cases h1 : u * 256 < 56320
      · have k1 : decide ((u : Int) * 256 < 56320) = true := decide_eq_true (by omega)
        have HR : Hid (r = true) := Lib.hid (by rw [← HF.out]; simp; omega)
        rw [HR.out]
        clear HR HF h1 hu
        go_enter Try.func60, Try.ntmps60
        go_wp2_with fail
        go_ret
        exact ⟨rfl, Below.refl _ _⟩
      · have k1 : decide ((u : Int) * 256 < 56320) = false := decide_eq_false (by omega)
        by_cases h2 : 57343 < Y
        · have k2 : decide ((57343 : Int) < (Y : Int)) = true := decide_eq_true (by omega)
          have HR : Hid (r = true) := Lib.hid (by rw [← HF.out]; simp [h2])
          rw [HR.out]
          clear HR HF h1 hu
          go_enter Try.func60, Try.ntmps60
          go_wp2_with fail
          go_ret
          exact ⟨rfl, Below.refl _ _⟩
        · have k2 : decide ((57343 : Int) < (Y : Int)) = false := decide_eq_false (by omega)
          have HR : Hid (r = false) := Lib.hid (by rw [← HF.out]; simp; omega)
          rw [HR.out]
          clear HR HF h1 hu
          go_enter Try.func60, Try.ntmps60
          go_wp2_with fail
          go_ret
          exact ⟨rfl, Below.refl _ _⟩
  · have hu : u * 4096 < 65536 := hu
    have o1 : bits .or .i64 ((u : Int) * 4096) 4095 = (Y : Int) := hor
    have x1 : wrap64 ((u : Int) * 4096) = (u : Int) * 4096 := by unfold wrap64; omega
    have HF : Hid ((if low then decide (u * 4096 ≤ 57343) && decide (56320 ≤ Y) else decide (u * 4096 < 56320) || decide (57343 < Y)) = r) := HF
    clear hor hY
    cases low with
    | true =>
      by_cases h1 : u * 4096 ≤ 57343
      · have k1 : decide ((u : Int) * 4096 ≤ 57343) = true := decide_eq_true (by omega)
        by_cases h2 : 56320 ≤ Y
        · have k2 : decide ((56320 : Int) ≤ (Y : Int)) = true := decide_eq_true (by omega)
          have HR : Hid (r = true) := Lib.hid (by rw [← HF.out]; simp [h1, h2])
          rw [HR.out]
          clear HR HF h1 hu
          go_enter Try.func60, Try.ntmps60
          go_wp2_with fail
          go_ret
          exact ⟨rfl, Below.refl _ _⟩
        · have k2 : decide ((56320 : Int) ≤ (Y : Int)) = false := decide_eq_false (by omega)
          have HR : Hid (r = false) := Lib.hid (by rw [← HF.out]; simp [h2])
          rw [HR.out]
          clear HR HF h1 hu
          go_enter Try.func60, Try.ntmps60
          go_wp2_with fail
          go_ret
          exact ⟨rfl, Below.refl _ _⟩
      · have k1 : decide ((u : Int) * 4096 ≤ 57343) = false := decide_eq_false (by omega)
        have HR : Hid (r = false) := Lib.hid (by rw [← HF.out]; simp; omega)
        rw [HR.out]
        clear HR HF h1 hu
        go_enter Try.func60, Try.ntmps60
        go_wp2_with fail
        go_ret
        exact ⟨rfl, Below.refl _ _⟩
    | false =>
      by_cases h1 : u * 4096 < 56320
      · have k1 : decide ((u : Int) * 4096 < 56320) = true := decide_eq_true (by omega)
        have HR : Hid (r = true) := Lib.hid (by rw [← HF.out]; simp; omega)
        rw [HR.out]
        clear HR HF h1 hu
        go_enter Try.func60, Try.ntmps60
        go_wp2_with fail
        go_ret
        exact ⟨rfl, Below.refl _ _⟩
      · have k1 : decide ((u : Int) * 4096 < 56320) = false := decide_eq_false (by omega)
        by_cases h2 : 57343 < Y
        · have k2 : decide ((57343 : Int) < (Y : Int)) = true := decide_eq_true (by omega)
          have HR : Hid (r = true) := Lib.hid (by rw [← HF.out]; simp [h2])
          rw [HR.out]
          clear HR HF h1 hu
          go_enter Try.func60, Try.ntmps60
          go_wp2_with fail
          go_ret
          exact ⟨rfl, Below.refl _ _⟩
        · have k2 : decide ((57343 : Int) < (Y : Int)) = false := decide_eq_false (by omega)
          have HR : Hid (r = false) := Lib.hid (by rw [← HF.out]; simp; omega)
          rw [HR.out]
          clear HR HF h1 hu
          go_enter Try.func60, Try.ntmps60
          go_wp2_with fail
          go_ret
          exact ⟨rfl, Below.refl _ _⟩

def unV (R : Rs Nat) : Value := match R with | .ok u k => .tuple #[.int .i64 (u : Int), .int .i64 (k : Int), .int .i64 0] | .no q e => .tuple #[.int .i64 0, .int .i64 (q : Int), .int .i64 (e : Int)]
set_option maxRecDepth 100000 in
set_option maxHeartbeats 4000000 in
theorem unit_any (s : ByteArray) (low : Bool) (w : World) (hs : s.size ≤ 4611686018427387904) : Calls Try.prog 56 #[.string s, .bool low] w fun e w' => e = .returned (unV (unP low (bt s) s.size 0)) ∧ Below w.heap.size w w' := by
  obtain ⟨R, hR⟩ : ∃ R, unP low (bt s) s.size 0 = R := ⟨_, rfl⟩
  have HR := Lib.hid hR
  rw [hR]
  clear hR
  obtain ⟨N, hN⟩ : ∃ N, min s.size 6 = N := ⟨_, rfl⟩
  have HN : Hid (N ≤ s.size ∧ N ≤ 6 ∧ (s.size < 6 → N = s.size) ∧ (6 ≤ s.size → N = 6)) := Lib.hid (by omega)
  go_enter Try.func56, Try.ntmps56
  go_wp2_with fail
  have hmin : min (s.size : Int) 6 = (N : Int) := by omega
  rw [hmin]
  clear hmin
  go_loopw [7, 14] (fun s7 s14 wr => ∃ i u : Nat, i ≤ N ∧ s7 = .int .i64 (u : Int) ∧ s14 = .int .i64 (i : Int) ∧ Hid (sts low (6 - i) i u (bt s) s.size i = R) ∧ Hid (u < 16 ^ (i - 2) ∧ (i ≤ 2 → u = 0) ∧ (2 ≤ i → fitB low u (4 * (6 - i)) = true)) ∧ Hid (Below w.heap.size w wr)) (fun _ s14 _ => N - (intOf s14).toNat)
  case atStart => exact ⟨0, 0, Nat.zero_le _, rfl, rfl, HR, Lib.hid ⟨by decide, fun _ => rfl, fun h => absurd h (by decide)⟩, Lib.hid (Below.refl _ _)⟩
  case round =>
    obtain ⟨i, u, hi, rfl, rfl, HS, HU, HB⟩ := hrel
    by_cases hlt : i < N
    · have hls : i < s.size := Nat.lt_of_lt_of_le hlt HN.out.1
      have hx := bt_at hls
      obtain ⟨x, hxx⟩ : ∃ x, (s[i]).toNat = x := ⟨_, rfl⟩
      have hx256 : x < 256 := by rw [← hxx]; exact s[i].toNat_lt
      rw [hxx] at hx
      have HT := HS.out
      rw [show 6 - i = (6 - (i + 1)) + 1 by have := HN.out.2.1; omega, sts_step, if_neg (by omega), hx] at HT
      have HT := Lib.hid HT
      clear hx HS
      by_cases h2 : i < 2
      · have hu0 : u = 0 := HU.out.2.1 (by omega)
        subst hu0
        have hi2 : i = 0 ∨ i = 1 := by omega
        rcases hi2 with rfl | rfl
        · by_cases hc : x = 92
          · have HS2 : Hid (sts low (6 - (0 + 1)) (0 + 1) 0 (bt s) s.size (0 + 1) = R) := Lib.hid (by have h7 := HT.out; rw [show stU low 0 0 x = some 0 by unfold stU; rw [if_pos rfl, if_pos hc]] at h7; exact h7)
            have k1 : ((x : Int) != (((⟨#[92, 117]⟩ : ByteArray)[0]'(by decide)).toNat : Int)) = false := by show ((x : Int) != 92) = false; simp; omega
            clear hc hx256 HT HU h2
            have z0 : ((0 : Nat) : Int) = 0 := rfl
            have z1 : ((1 : Nat) : Int) = 1 := rfl
            simp only [z0] at hlt ⊢
            clear z0 z1
            go_wp2_with fail
            go_quiet (fail)
            go_wp2_with fail
            go_roundw
            case rel => exact ⟨1, 0, by omega, rfl, rfl, HS2, Lib.hid ⟨by decide, fun _ => rfl, fun h => absurd h (by decide)⟩, Lib.hid (drew_below HB.out _)⟩
            case measure => simp [intOf]; omega
          · have HS2 : Hid (R = .no 0 4) := Lib.hid (by have h7 := HT.out; rw [show stU low 0 0 x = none by unfold stU; rw [if_pos rfl, if_neg hc]] at h7; exact h7.symm)
            have k1 : ((x : Int) != (((⟨#[92, 117]⟩ : ByteArray)[0]'(by decide)).toNat : Int)) = true := by show ((x : Int) != 92) = true; simp; omega
            clear hc hx256 HT HU h2
            have z0 : ((0 : Nat) : Int) = 0 := rfl
            have z1 : ((1 : Nat) : Int) = 1 := rfl
            simp only [z0] at hlt ⊢
            clear z0 z1
            go_wp2_with fail
            go_quiet (fail)
            go_wp2_with fail
            exact bodyPost_ret (v := .tuple #[.int .i64 0, .int .i64 0, .int .i64 4]) (by simp [results, Try.results56, go_sem]) rfl ⟨congrArg (fun r => Ending.returned (unV r)) HS2.out.symm, drew_below HB.out _⟩
        · by_cases hc : x = 117
          · have HS2 : Hid (sts low (6 - (1 + 1)) (1 + 1) 0 (bt s) s.size (1 + 1) = R) := Lib.hid (by have h7 := HT.out; rw [show stU low 1 0 x = some 0 by unfold stU; rw [if_neg (by decide), if_pos rfl, if_pos hc]] at h7; exact h7)
            have k1 : ((x : Int) != (((⟨#[92, 117]⟩ : ByteArray)[1]'(by decide)).toNat : Int)) = false := by show ((x : Int) != 117) = false; simp; omega
            clear hc hx256 HT HU h2
            have z0 : ((0 : Nat) : Int) = 0 := rfl
            have z1 : ((1 : Nat) : Int) = 1 := rfl
            simp only [z0, z1] at hlt ⊢
            clear z0 z1
            go_wp2_with fail
            go_quiet (fail)
            go_wp2_with fail
            go_roundw
            case rel => exact ⟨2, 0, by omega, rfl, rfl, HS2, Lib.hid ⟨by decide, fun _ => rfl, fun _ => by cases low <;> decide⟩, Lib.hid (drew_below HB.out _)⟩
            case measure => simp [intOf]; omega
          · have HS2 : Hid (R = .no 1 4) := Lib.hid (by have h7 := HT.out; rw [show stU low 1 0 x = none by unfold stU; rw [if_neg (by decide), if_pos rfl, if_neg hc]] at h7; exact h7.symm)
            have k1 : ((x : Int) != (((⟨#[92, 117]⟩ : ByteArray)[1]'(by decide)).toNat : Int)) = true := by show ((x : Int) != 117) = true; simp; omega
            clear hc hx256 HT HU h2
            have z0 : ((0 : Nat) : Int) = 0 := rfl
            have z1 : ((1 : Nat) : Int) = 1 := rfl
            simp only [z0, z1] at hlt ⊢
            clear z0 z1
            go_wp2_with fail
            go_quiet (fail)
            go_wp2_with fail
            exact bodyPost_ret (v := .tuple #[.int .i64 0, .int .i64 1, .int .i64 4]) (by simp [results, Try.results56, go_sem]) rfl ⟨congrArg (fun r => Ending.returned (unV r)) HS2.out.symm, drew_below HB.out _⟩
      · have HD := Lib.hid (fun W => edigit_any x hx256 W)
        have h6 : i < 6 := Nat.lt_of_lt_of_le hlt HN.out.2.1
        have hst : stU low i u x = fd low (i - 2) u x := by unfold stU; rw [if_neg (by omega), if_neg (by omega)]
        rw [hst] at HT
        have hu := HU.out.1
        have hu4 : u < 65536 := Nat.lt_of_lt_of_le hu (by have : i = 2 ∨ i = 3 ∨ i = 4 ∨ i = 5 := by omega
                                                          rcases this with rfl | rfl | rfl | rfl <;> decide)
        have hi2 : 2 ≤ i := by omega
        have g2 : decide ((i : Int) < 2) = false := decide_eq_false (by omega)
        cases hd : hx x with
        | none =>
          have HS2 : Hid (R = .no i 4) := Lib.hid (by have h7 := HT.out; unfold fd at h7; rw [hd] at h7; exact h7.symm)
          have hv : hxV x = .tuple #[.int .i64 0, .bool false] := by unfold hxV; rw [hd]; rfl
          rw [hv] at HD
          clear hv hd hst HT HU hu h2
          go_wp2_with fail
          refine (HD.out _).mono ?_
          rintro e w2 ⟨rfl, hb2⟩
          have HB2 := Lib.hid (HB.out.trans (hb2.mono HB.out.size))
          clear hb2 HD
          go_wp2_with fail
          exact bodyPost_ret (v := .tuple #[.int .i64 0, .int .i64 (i : Int), .int .i64 4]) (by simp [results, Try.results56, go_sem]) rfl ⟨congrArg (fun r => Ending.returned (unV r)) HS2.out.symm, HB2.out⟩
        | some d =>
          have hd16 := eshx_lt hd
          have hv : hxV x = .tuple #[.int .i64 (d : Int), .bool true] := by unfold hxV; rw [hd]; rfl
          rw [hv] at HD
          obtain ⟨v, hvv⟩ : ∃ v, 16 * u + d = v := ⟨_, rfl⟩
          obtain ⟨B, hB⟩ : ∃ B, 4 * (5 - i) = B := ⟨_, rfl⟩
          have hfb := fit_bad (by omega) h6 hu (HU.out.2.2 (by omega)) hd16
          rw [hvv, hB] at hfb
          have hv16 : v < 16 ^ (i - 1) := by
            have : i = 2 ∨ i = 3 ∨ i = 4 ∨ i = 5 := by omega
            rcases this with rfl | rfl | rfl | rfl <;> simp at hu ⊢ <;> omega
          have hvB : v * 2 ^ B < 65536 := by
            have : i = 2 ∨ i = 3 ∨ i = 4 ∨ i = 5 := by omega
            rcases this with rfl | rfl | rfl | rfl <;> subst hB <;> simp at hv16 ⊢ <;> omega
          have HFt := Lib.hid (fun W => fits_any v B low W (by omega) hvB)
          have o1 : wrap64 ((u : Int) * 16) = (u : Int) * 16 := by unfold wrap64; omega
          have o2 : bits .or .i64 ((u : Int) * 16) (d : Int) = (v : Int) := by
            have := i64_or_nat (u * 16) d (by omega) (by omega)
            rw [nat_join 4 _ _ (Nat.mul_mod_left u 16) hd16, show u * 16 + d = v by omega] at this
            exact this
          have f1 : wrap64 (5 - (i : Int)) = 5 - (i : Int) := by unfold wrap64; omega
          have f2 : wrap64 (4 * (5 - (i : Int))) = 4 * (5 - (i : Int)) := by unfold wrap64; omega
          have hBi : (B : Int) = 4 * (5 - (i : Int)) := by omega
          rw [hBi] at HFt
          have HT2 : Hid ((if fbad low (i - 2) u d = true then Rs.no i 4 else sts low (6 - (i + 1)) (i + 1) v (bt s) s.size (i + 1)) = R) := Lib.hid (by
            have h7 := HT.out
            unfold fd at h7
            rw [hd] at h7
            simp only at h7
            rw [hvv] at h7
            rw [← h7]
            split <;> rfl)
          have HFB := Lib.hid hfb
          have HV16 := Lib.hid hv16
          have HBB := Lib.hid hB
          rw [hfb] at HFt
          clear hv hd hst HT HU hu h2 hd16 hvB hfb hu4 hv16 hB hvv hBi
          cases hfl : fbad low (i - 2) u d with
          | true =>
            have HS2 : Hid (R = .no i 4) := Lib.hid (by have h7 := HT2.out; rw [if_pos hfl] at h7; exact h7.symm)
            rw [hfl] at HFt
            simp only [Bool.not_true] at HFt
            clear hfl HT2
            go_wp2_with fail
            refine (HD.out _).mono ?_
            rintro e w2 ⟨rfl, hb2⟩
            have HB2 := Lib.hid (HB.out.trans (hb2.mono HB.out.size))
            clear hb2 HD
            go_wp2_with fail
            refine (HFt.out _).mono ?_
            rintro e w3 ⟨rfl, hb3⟩
            have HB3 := Lib.hid (HB2.out.trans (hb3.mono HB2.out.size))
            clear hb3 HFt
            go_wp2_with fail
            exact bodyPost_ret (v := .tuple #[.int .i64 0, .int .i64 (i : Int), .int .i64 4]) (by simp [results, Try.results56, go_sem]) rfl ⟨congrArg (fun r => Ending.returned (unV r)) HS2.out.symm, HB3.out⟩
          | false =>
            have HS2 : Hid (sts low (6 - (i + 1)) (i + 1) v (bt s) s.size (i + 1) = R) := Lib.hid (by have h7 := HT2.out; rw [hfl, if_neg (by decide)] at h7; exact h7)
            rw [hfl] at HFt
            simp only [Bool.not_false] at HFt
            have HFb : Hid (fitB low v B = true) := Lib.hid (by rw [HFB.out, hfl]; rfl)
            clear hfl HT2
            go_wp2_with fail
            refine (HD.out _).mono ?_
            rintro e w2 ⟨rfl, hb2⟩
            have HB2 := Lib.hid (HB.out.trans (hb2.mono HB.out.size))
            clear hb2 HD
            go_wp2_with fail
            refine (HFt.out _).mono ?_
            rintro e w3 ⟨rfl, hb3⟩
            have HB3 := Lib.hid (HB2.out.trans (hb3.mono HB2.out.size))
            clear hb3 HFt
            go_wp2_with fail
            go_roundw
            case rel => exact ⟨i + 1, v, by omega, rfl, by go_num, HS2, Lib.hid ⟨HV16.out, fun h => absurd h (by omega), fun _ => by rw [show 4 * (6 - (i + 1)) = B by have := HBB.out; omega]; exact HFb.out⟩, HB3⟩
            case measure => simp [intOf]; omega
    · obtain rfl : i = N := by omega
      by_cases h6 : s.size < 6
      · have hns : i = s.size := HN.out.2.2.1 h6
        have HS2 : Hid (R = .no s.size 3) := Lib.hid (by
          have h7 := HS.out
          rw [show 6 - i = (5 - i) + 1 by omega, sts_step, if_pos (by omega)] at h7
          exact h7.symm)
        have k1 : decide ((s.size : Int) < 6) = true := decide_eq_true (by omega)
        clear HS HU hns
        go_wp2_with fail
        exact bodyPost_ret (v := .tuple #[.int .i64 0, .int .i64 (s.size : Int), .int .i64 3]) (by simp [results, Try.results56, go_sem]) rfl ⟨congrArg (fun r => Ending.returned (unV r)) HS2.out.symm, HB.out⟩
      · have hns : i = 6 := HN.out.2.2.2 (by omega)
        have HS2 : Hid (R = .ok u 6) := Lib.hid (by
          have h7 := HS.out
          subst hns
          exact h7.symm)
        have k1 : decide ((s.size : Int) < 6) = false := decide_eq_false (by omega)
        clear HS HU hns
        go_wp2_with fail
        exact bodyPost_ret (v := .tuple #[.int .i64 (u : Int), .int .i64 6, .int .i64 0]) (by simp [results, Try.results56, go_sem]) rfl ⟨congrArg (fun r => Ending.returned (unV r)) HS2.out.symm, HB.out⟩
end Go.Proofs.Ytaopjeobapnhbaa.nn
namespace Go.Proofs.Ytaopjeobapnhbaa.nn

def Pln (c : Nat) : Prop := 32 ≤ c ∧ c ≠ 34 ∧ c ≠ 92
section
variable {f g : Nat → Nat} {n i m p : Nat}
theorem cont_high (h : al g t0 (m + 1) = true) (h1 : 1 ≤ m) (hp : m < nd (g 0)) : 128 ≤ g m := by
  have hd := due_at (p := m) (al_mono h (Nat.le_succ m)) h1 (by omega)
  have hg := gd_go (f := g) gd_zero m
  rw [al_succ, Bool.and_eq_true] at h
  have hc : (tk g t0 m).c ≠ 0 := by omega
  have ho := h.2
  unfold ok at ho
  rw [if_neg hc] at ho
  have ho := of_decide_eq_true ho
  unfold Gd at hg
  omega
theorem first_ok (h : al g t0 m = true) (h1 : 1 ≤ m) : nd (g 0) ≠ 0 := by
  have h2 := al_mono h h1
  have h3 : al g t0 (0 + 1) = true := h2
  rw [al_succ, Bool.and_eq_true] at h3
  have h4 := h3.2
  unfold ok at h4
  rw [if_pos (show (tk g t0 0).c = 0 from rfl)] at h4
  exact of_decide_eq_true h4
theorem sp_zero_state {t t' : Tl} (h : t.c = 0) (h' : t'.c = 0) : sp g t n = sp g t' n := by
  induction n with
  | zero => rfl
  | succ n ih => rw [sp, sp, al_zero_state h h', ih]
/-- a check behind a whole code point goes on as one of the rest -/
theorem ck_rest (hp : pok g n = true) (_ : nd (g 0) + m ≤ n) : ckE g (nd (g 0) + m) = ckE (sh g (nd (g 0))) m ∧ ckA g (nd (g 0) + m) = nd (g 0) + ckA (sh g (nd (g 0))) m := by
  have h := pok_iff.1 hp
  have hd := due_at h.2.2.2 (by omega) (Nat.le_refl _)
  have hz : (tk g t0 (nd (g 0))).c = 0 := by omega
  have hz0 : t0.c = 0 := rfl
  have e1 : al g t0 (nd (g 0) + m) = al (sh g (nd (g 0))) t0 m := by rw [al_add h.2.2.2, al_zero_state hz hz0]; rfl
  have e2 : (tk g t0 (nd (g 0) + m)).c = (tk (sh g (nd (g 0))) t0 m).c := by rw [tk_add h.2.2.2, tk_zero_state hz hz0]; rfl
  have e3 : sp g t0 (nd (g 0) + m) = nd (g 0) + sp (sh g (nd (g 0))) t0 m := by rw [sp_add h.2.2.2, sp_zero_state hz hz0]; rfl
  unfold ckE ckA
  rw [e1, e2, e3]
  exact ⟨rfl, rfl⟩
theorem raw_app (k m : Nat) : raw f i (k + m) = raw f i k ++ raw f (i + k) m := by
  unfold raw
  rw [List.range_add, List.map_append, List.map_map]
  congr 1
  apply List.map_congr_left
  intro j _
  simp [Nat.add_assoc]
theorem sh_sh (a b : Nat) : sh (sh f a) b = sh f (a + b) := by
  funext j
  simp only [sh, Nat.add_assoc]
theorem plain_el (h : Pln (f i)) (hi : i < n) (out : List UInt8) : inP out f n i = (ptP.bind fun t => ret (.inl (out ++ t))) f n i := by
  unfold inP peek
  rw [if_neg (by omega)]
  unfold elP
  unfold Pln at h
  rw [if_neg h.2.1, if_neg (by omega), if_neg h.2.2]
theorem stretch (m : Nat) : ∀ (i : Nat) (out : List UInt8), i + m ≤ n → (∀ j, j < m → Pln (f (i + j))) → (i + m < n → ¬ Pln (f (i + m))) →
    lp inP out f n i = if ckE (sh f i) m = 0 then lp inP (out ++ raw f i m) f n (i + m) else .no (i + ckA (sh f i) m) (if ckE (sh f i) m = 3 ∧ i + m < n then 4 else ckE (sh f i) m) := by
  induction m using Nat.strongRecOn with
  | ind m ih =>
    intro i out hn hpl hnx
    by_cases hm : m = 0
    · subst hm
      rw [if_pos (show ckE (sh f i) 0 = 0 from rfl), show raw f i 0 = [] from rfl, List.append_nil, Nat.add_zero]
    have hp0 : Pln (f i) := by have := hpl 0 (by omega); rwa [Nat.add_zero] at this
    have g0 : sh f i 0 = f i := by simp [sh]
    have hhi : ∀ j, 128 ≤ f j → Pln (f j) := fun j h => ⟨by omega, by omega, by omega⟩
    rw [lp_step body_in out (by omega), plain_el hp0 (by omega)]
    cases hk : pok (sh f i) (n - i) with
    | true =>
      have h := pok_iff.1 hk
      rw [g0] at h
      have hle : nd (f i) ≤ m := by
        rcases Nat.lt_or_ge m (nd (f i)) with hlt | hge
        · exfalso
          have hc := cont_high (g := sh f i) (m := m) (al_mono h.2.2.2 (by omega)) (by omega) (by rw [g0]; exact hlt)
          exact hnx (by omega) (hhi _ hc)
        · exact hge
      have e1 : ptP f n i = .ok (raw f i (nd (f i))) (i + nd (f i)) := by unfold ptP; rw [if_neg (by omega), hk, if_pos rfl]
      rw [bind_ok e1]
      simp only [ret]
      have hr := ck_rest (m := m - nd (f i)) hk (by rw [g0]; omega)
      rw [g0, sh_sh, show nd (f i) + (m - nd (f i)) = m by omega] at hr
      rw [ih (m - nd (f i)) (by omega) (i + nd (f i)) (out ++ raw f i (nd (f i))) (by omega) (fun j hj => by have := hpl (nd (f i) + j) (by omega); rwa [← Nat.add_assoc] at this) (by rw [show i + nd (f i) + (m - nd (f i)) = i + m by omega]; exact hnx)]
      rw [hr.1, hr.2, show i + nd (f i) + (m - nd (f i)) = i + m by omega, List.append_assoc, ← raw_app, show nd (f i) + (m - nd (f i)) = m by omega, Nat.add_assoc]
    | false =>
      have e1 : ptP f n i = .no (i + ckA (sh f i) (n - i)) (ckE (sh f i) (n - i)) := by unfold ptP; rw [if_neg (by omega), hk, if_neg (by decide)]
      rw [bind_no e1]
      simp only
      by_cases he : i + m = n
      · have hmn : n - i = m := by omega
        rw [hmn] at hk ⊢
        have h3 := pok_not hk hm
        rw [if_neg (by omega), if_neg (by omega)]
      · have hnp := hnx (by omega)
        have hcut : ∀ k, m < k → k ≤ n - i → al (sh f i) t0 m = true → nd (f i) ≠ 0 ∧ m < nd (f i) := fun k _ _ hal => by
          have h1 := first_ok hal (by omega)
          rw [g0] at h1
          refine ⟨h1, ?_⟩
          rcases Nat.lt_or_ge m (nd (f i)) with hlt | hge
          · exact hlt
          · exfalso
            have : pok (sh f i) (n - i) = true := pok_iff.2 ⟨by omega, by rw [g0]; exact h1, by rw [g0]; omega, by rw [g0]; exact al_mono hal hge⟩
            rw [hk] at this
            cases this
        have hstop : al (sh f i) t0 (m + 1) = false := by
          cases hal : al (sh f i) t0 (m + 1) with
          | false => rfl
          | true =>
            exfalso
            have h2 := hcut (m + 1) (by omega) (by omega) (al_mono hal (by omega))
            exact hnp (hhi _ (cont_high (g := sh f i) hal (by omega) (by rw [g0]; exact h2.2)))
        have hE : ckE (sh f i) (n - i) = 4 := by unfold ckE; rw [dead hstop (by omega), if_neg (by decide)]
        rw [hE]
        cases hal : al (sh f i) t0 m with
        | true =>
          have h2 := hcut (m + 1) (by omega) (by omega) hal
          have hd := due_at hal (by omega) (by rw [g0]; omega)
          rw [g0] at hd
          have e3 : ckE (sh f i) m = 3 := by unfold ckE; rw [if_pos hal, if_neg (by omega)]
          have e4 : ckA (sh f i) (n - i) = m := sp_stop hal hstop (by omega)
          have e5 : ckA (sh f i) m = m := sp_all hal
          rw [e3, e4, e5, if_neg (by decide), if_pos ⟨rfl, by omega⟩]
        | false =>
          have e3 : ckE (sh f i) m = 4 := by unfold ckE; rw [hal, if_neg (by decide)]
          obtain ⟨s1, s2⟩ := sp_lt hal
          have s3 : ckA (sh f i) m < m := s1
          have e4 : ckA (sh f i) (n - i) = ckA (sh f i) m := sp_stop al_sp s2 (by omega)
          rw [e3, e4, if_neg (by decide), if_neg (by omega)]
end
end Go.Proofs.Ytaopjeobapnhbaa.nn
namespace Go.Proofs.Ytaopjeobapnhbaa.nn
open Go.RowKit

/-- the builder in block b, of the call's own, holds the bytes l -/
def Bld (B b : Nat) (l : List UInt8) (w : World) : Prop := Lib.IsBuilder 67 5 B b (Lib.byteCells l) w
/-- all blocks but b and rows of bytes are as they were -/
def Kp (b : Nat) (w w' : World) : Prop := ∀ k cs T, k ≠ b → T ≠ 5 → w.heap[k]? = some (.cells cs T (0, 0)) → w'.heap[k]? = some (.cells cs T (0, 0))
theorem Kp.refl (b : Nat) (w : World) : Kp b w w := fun _ _ _ _ _ h => h
theorem Kp.trans {b : Nat} {w w' w2 : World} (h : Kp b w w') (k : Kp b w' w2) : Kp b w w2 := fun i cs T h1 h2 h3 => k i cs T h1 h2 (h i cs T h1 h2 h3)
theorem Kp.set {b : Nat} {w w' : World} (h : Kp b w w') (j : Nat) (v : Value) : Kp b w (w'.setCell ⟨b, j, none⟩ v) := fun i cs T h1 h2 h3 => (Below.heap_setCell _ _ _ _ (fun e => h1 (by simp [e]))).trans (h i cs T h1 h2 h3)
theorem Kp.of_below {b : Nat} {w w' : World} (h : Below w.heap.size w w') : Kp b w w' := fun i _ _ _ _ h3 => (h.block i (lt_of_block h3)).trans h3
theorem Kp.grown {b : Nat} {w w' w2 : World} {v : Value} {B n : Nat} {xs : List Value} (h : Kp b w w') (hg : w'.grownBy w2 v.ownBlock) (hown : w'.ownsRow B 5 1 v n xs) : Kp b w w2 := fun i cs T h1 h2 h3 => by
  have h4 := h i cs T h1 h2 h3
  exact (hg.block i (lt_of_block h4) (fun e => Lib.ownBlock_ne hown h4 h2 e.symm)).trans h4
theorem Kp.alloc {b : Nat} {w w' : World} (h : Kp b w w') (o : Obj) : Kp b w (w'.alloc o) := h.trans (.of_below ((Below.refl _ _).alloc (Nat.le_refl _) o))
theorem Kp.drew {b : Nat} {w w' : World} (h : Kp b w w') : Kp b w w'.drew := h

theorem infoB : (Try.prog.info? 67).map (·.size) = some 2 := by kernel_rfl
theorem liesB : liesAt Try.prog Try.prog.depth 67 (2 / Try.prog.cellsOf 67) 0 67 1 = true := by kernel_rfl
theorem infoByte : (Try.prog.info? 5).map (fun i => (i.zero, i.size, i.bytes)) = some (some (.int .u8 0), 1, 1) := by kernel_rfl

set_option maxRecDepth 100000 in
set_option maxHeartbeats 1000000 in
theorem cc_fresh (b : Nat) (w : World) (v : Value) (hb : w.heap[b]? = some (.cells #[.pointer none, v] 67 (0, 0))) :
    Calls Try.prog 48 #[.pointer (some ⟨b, 0, none⟩)] w fun e w' => e = .returned (.tuple #[]) ∧ w' = w.setCell ⟨b, 0, none⟩ (.pointer (some ⟨b, 0, none⟩)) := by
  obtain ⟨j, hj, hjs⟩ := Option.map_eq_some_iff.1 infoB
  have c0 : w.cell? ⟨b, 0, none⟩ = some (.pointer none) := cell_of_row _ _ 0 _ _ _ hb
  have hfz : w.frozen? ⟨b, 0, none⟩ = false := by simp [World.frozen?, hb]
  have HS : Hid (w.shape? b = some (67, 2)) := Lib.hid (by simp [World.shape?, hb])
  clear hb
  go_enter Try.func48, Try.ntmps48
  go_wp2
  rw [Lib.run_to_unsafe w ⟨b, 0, none⟩ Try.underlying65 Try.underlying86 hj (by rw [hjs]; decide) HS.out (Nat.zero_lt_succ 1)]
  simp only [Result.andThen]
  rw [Oper.upon_value]
  go_wp2
  rw [run_callFunc_extern Try.func53 (by kernel_rfl) (by kernel_rfl) (by kernel_rfl) (e := Extern.AbiNoEscape.same) (by kernel_rfl), Lib.run_noEscape]
  simp only [Result.andThen]
  rw [Oper.upon_value]
  go_wp2
  rw [Lib.run_from_unsafe w ⟨b, 0, none⟩ Try.underlying86 Try.underlying65 hj HS.out liesB]
  simp only [Result.andThen]
  rw [Oper.upon_value]
  go_wp2
  go_end0
  exact ⟨rfl, rfl⟩
set_option maxRecDepth 100000 in
set_option maxHeartbeats 1000000 in
theorem cc_used (b : Nat) (w : World) (v : Value) (hb : w.heap[b]? = some (.cells #[.pointer (some ⟨b, 0, none⟩), v] 67 (0, 0))) :
    Calls Try.prog 48 #[.pointer (some ⟨b, 0, none⟩)] w fun e w' => e = .returned (.tuple #[]) ∧ w' = w := by
  obtain ⟨j, hj, _⟩ := Option.map_eq_some_iff.1 infoB
  have c0 : w.cell? ⟨b, 0, none⟩ = some (.pointer (some ⟨b, 0, none⟩)) := cell_of_row _ _ 0 _ _ _ hb
  clear hb
  go_enter Try.func48, Try.ntmps48
  go_wp2
  rw [Lib.run_neq_ptr_same w _ Try.underlying65 hj]
  go_wp2
  go_end0
  exact ⟨rfl, rfl⟩
theorem cc_any (B b : Nat) (bs : List Value) (w : World) (h : Lib.IsBuilder 67 5 B b bs w) :
    Calls Try.prog 48 #[.pointer (some ⟨b, 0, none⟩)] w fun e w' => e = .returned (.tuple #[]) ∧ Lib.BuilderAt 67 5 B b (.pointer (some ⟨b, 0, none⟩)) bs w' ∧ Below B w w' ∧ Kp b w w' := by
  rcases h with h | h
  · obtain ⟨hB, v, hb, hown, hne⟩ := h
    refine (cc_fresh b w v hb).mono ?_
    rintro e w' ⟨rfl, rfl⟩
    exact ⟨rfl, Lib.BuilderAt.used ⟨hB, v, hb, hown, hne⟩ _, (Below.refl B w).setCell (p := ⟨b, 0, none⟩) hB _, (Kp.refl b w).set 0 _⟩
  · obtain ⟨hB, v, hb, hown, hne⟩ := h
    refine (cc_used b w v hb).mono ?_
    rintro e w' ⟨rfl, rfl⟩
    exact ⟨rfl, ⟨hB, v, hb, hown, hne⟩, Below.refl B _, Kp.refl b _⟩

theorem bytes_append (l : List UInt8) (s : ByteArray) : Lib.byteCells l ++ Lib.strCells s = Lib.byteCells (l ++ s.data.toList) := by simp [Lib.byteCells, Lib.strCells]

set_option maxRecDepth 100000 in
set_option maxHeartbeats 1000000 in
theorem writeString_any (B b : Nat) (l : List UInt8) (s : ByteArray) (w : World) (h : Bld B b l w) (hlen : l.length + s.size ≤ 140737488355328) (hBw : B ≤ w.heap.size) :
    Calls Try.prog 35 #[.pointer (some ⟨b, 0, none⟩), .string s] w fun e w' => e = .returned (.tuple #[.int .i64 s.size, .nilIface]) ∧ Bld B b (l ++ s.data.toList) w' ∧ Below B w w' ∧ Kp b w w' := by
  obtain ⟨i0, hi, hz0, hz1, hz2⟩ := info_parts infoByte
  have HC := Lib.hid (cc_any B b _ w h)
  have hs63 : s.size ≤ 140737488355328 := by omega
  clear h
  go_enter Try.func35, Try.ntmps35
  go_wp2_with fail
  refine HC.out.mono ?_
  rintro e w1 ⟨rfl, h1, hb1, hk1⟩
  have c0 := h1.cell0
  obtain ⟨hB, v, hbk, hown, hne⟩ := h1
  have c1 : w1.cell? ⟨b, 1, none⟩ = some v := cell_of_row _ _ 1 _ _ _ hbk
  rw [Lib.byteCells_length] at hown
  have HNE := Lib.hid hne
  have HBK := Lib.hid hbk
  have HK1 := Lib.hid hk1
  have hb1s : B ≤ w1.heap.size := Nat.le_trans hBw hb1.size
  clear hne hbk hk1
  go_wp2_with (at_builtin; refine Lib.wpList_append_own_string _ rfl _ _ 40 9 rfl B 5 i0 Try.underlying40 Try.underlying9 hi hz0 hz1 hz2 _ _ _ rfl hown s rfl (by unfold maxLen; omega) hlen hb1s ?_)
  intro v' w2 hown' hgrow _
  have hlt : b < w1.heap.size := (Array.getElem?_eq_some_iff.1 HBK.out).1
  have hb2 : w2.heap[b]? = some (.cells #[.pointer (some ⟨b, 0, none⟩), v] 67 (0, 0)) := (hgrow.block b hlt (fun e => HNE.out e.symm)).trans HBK.out
  have d0 : w2.cell? ⟨b, 0, none⟩ = some (.pointer (some ⟨b, 0, none⟩)) := cell_of_row _ _ 0 _ _ _ hb2
  have d1 : w2.cell? ⟨b, 1, none⟩ = some v := cell_of_row _ _ 1 _ _ _ hb2
  have f1 : w2.frozen? ⟨b, 1, none⟩ = false := by simp [World.frozen?, hb2]
  rw [bytes_append] at hown'
  have hl2 : (Lib.byteCells (l ++ s.data.toList)).length = l.length + s.size := by rw [Lib.byteCells_length, List.length_append]; rfl
  have hown2 : w2.ownsRow B 5 1 v' (Lib.byteCells (l ++ s.data.toList)).length (Lib.byteCells (l ++ s.data.toList)) := by rw [hl2]; exact hown'
  have HP := Lib.hid (Lib.BuilderAt.put hB hb2 hown2 (by decide))
  have hbg := Lib.hid ((hb1.grown hgrow hb1s (fun k hk => (hown.lt k hk).1)).setCell (p := ⟨b, 1, none⟩) hB v')
  have HK := Lib.hid ((HK1.out.grown hgrow hown).set 1 v')
  obtain ⟨ao, n', cap, rfl⟩ : ∃ ao n' cap, v' = .slice ao n' cap := by
    rcases hown'.2 with ⟨hv, _⟩ | ⟨g, cap, cur, hv, _⟩
    · exact ⟨_, _, _, hv⟩
    · exact ⟨_, _, _, hv⟩
  clear hb2 hl2 hown2 hown' hown hgrow hb1
  go_wp2
  go_ret2
  exact ⟨rfl, .inr HP.out, hbg.out, HK.out⟩
end Go.Proofs.Ytaopjeobapnhbaa.nn
namespace Go.Proofs.Ytaopjeobapnhbaa.nn
open Go.RowKit

/-- the builder holds no byte: fresh, or with room for n bytes -/
def Gs (B b n : Nat) (w : World) : Prop := B ≤ b ∧ ∃ p A c, w.heap[b]? = some (.cells #[p, .slice A 0 c] 67 (0, 0)) ∧ (p = .pointer none ∧ A = none ∧ c = 0 ∨ p = .pointer (some ⟨b, 0, none⟩) ∧ n ≤ c) ∧ w.ownsRow B 5 1 (.slice A 0 c) 0 [] ∧ (Value.slice A 0 c).ownBlock ≠ some b
theorem Gs.keep {B b n : Nat} {w w' : World} (h : Gs B b n w) (hb : Below w.heap.size w w') : Gs B b n w' := by
  obtain ⟨hB, p, A, c, hbk, hp, hown, hne⟩ := h
  exact ⟨hB, p, A, c, (hb.block b (lt_of_block hbk)).trans hbk, hp, own_below hown hb, hne⟩
theorem Gs.drew {B b n : Nat} {w : World} (h : Gs B b n w) : Gs B b n w.drew := h
end Go.Proofs.Ytaopjeobapnhbaa.nn
namespace Go.Proofs.Ytaopjeobapnhbaa.nn
open Go.RowKit

theorem cellsByte : Try.prog.cellsOf 5 = 1 := by kernel_rfl
set_option maxRecDepth 100000 in
set_option maxHeartbeats 1000000 in
theorem string_some (B b : Nat) (l : List UInt8) (w : World) (h : Bld B b l w) (h0 : l ≠ []) :
    Calls Try.prog 36 #[.pointer (some ⟨b, 0, none⟩)] w fun e w' => e = .returned (.string ⟨l.toArray⟩) ∧ Below B w w' := by
  obtain ⟨p, hB, v, hbk, hown, hne⟩ : ∃ p, Lib.BuilderAt 67 5 B b p (Lib.byteCells l) w := by
    rcases h with h | h
    · exact ⟨_, h⟩
    · exact ⟨_, h⟩
  have hl0 : l.length ≠ 0 := by simpa using h0
  rw [Lib.byteCells_length] at hown
  obtain ⟨g, cap, cur, rfl, hbg, hg, hnc, hcm, hcs, htake⟩ : ∃ g cap cur, v = .slice (some ⟨g, 0, none⟩) l.length cap ∧ B ≤ g ∧ w.heap[g]? = some (.cells cur 5 (0, 0)) ∧ l.length ≤ cap ∧ cap ≤ maxLen ∧ cur.size = cap * 1 ∧ cur.toList.take (l.length * 1) = Lib.byteCells l := by
    rcases hown.2 with ⟨_, hz⟩ | ⟨g, cap, cur, hv, r⟩
    · exact absurd hz hl0
    · exact ⟨g, cap, cur, hv, r⟩
  have c1 : w.drew.cell? ⟨b, 1, none⟩ = some (.slice (some ⟨g, 0, none⟩) l.length cap) := cell_of_row _ _ 1 _ _ _ hbk
  have hSD : (Builtin.unsafeSliceData_ #[40] 84 #[.slice (some ⟨g, 0, none⟩) l.length cap]).run Try.prog w.drew = .ok (.pointer (some ⟨g, 0, none⟩)) w.drew :=
    Lib.run_unsafeSliceData_row _ _ _ _ _ _ (by omega)
  have hUS : (Builtin.unsafeString_ #[84, 3] 9 #[.pointer (some ⟨g, 0, none⟩), .int .i64 l.length]).run Try.prog w.drew = .ok (.string ⟨l.toArray⟩) (w.drew.freeze ⟨g, 0, none⟩ l.length) := by
    refine Lib.run_unsafeString_row w.drew 84 3 9 5 Try.underlying84 cellsByte g cur.size (by have hg' : w.drew.heap[g]? = some (.cells cur 5 (0, 0)) := hg; simp [World.shape?, hg']) l h0 (by omega) (by unfold maxLen at hcm; omega) ?_
    intro j x hx
    exact hown.cells (g := g) rfl j (.int .u8 x.toNat) (by simp [Lib.byteCells, hx])
  clear hown hbk hg htake h
  go_enter Try.func36, Try.ntmps36
  go_wp2
  go_region
  all_goals (go_wp2; go_ret; exact ⟨rfl, Lib.below_freeze (Below.drew (Below.refl B w)) (p := ⟨g, 0, none⟩) hbg _⟩)
theorem us_none (W : World) (q : Option Addr) : (Builtin.unsafeString_ #[84, 3] 9 #[.pointer q, .int .i64 0]).run Try.prog W = .ok (.string .empty) W := Lib.run_unsafeString_none W _ _ _ q
set_option maxRecDepth 100000 in
set_option maxHeartbeats 1000000 in
theorem string_none (B b : Nat) (w : World) (h : Bld B b [] w) (hBw : B ≤ w.heap.size) :
    Calls Try.prog 36 #[.pointer (some ⟨b, 0, none⟩)] w fun e w' => e = .returned (.string ⟨#[]⟩) ∧ Below B w w' := by
  obtain ⟨p, hB, v, hbk, hown, hne⟩ : ∃ p, Lib.BuilderAt 67 5 B b p (Lib.byteCells []) w := by
    rcases h with h | h
    · exact ⟨_, h⟩
    · exact ⟨_, h⟩
  have hlt := lt_of_block hbk
  have hUS := us_none
  rcases hown.2 with ⟨rfl, _⟩ | ⟨g, cap, cur, rfl, hbg, hg, _, _, _, _⟩
  · have c1 : w.drew.cell? ⟨b, 1, none⟩ = some (.slice none 0 0) := cell_of_row _ _ 1 _ _ _ hbk
    have hSD : (Builtin.unsafeSliceData_ #[40] 84 #[.slice none 0 0]).run Try.prog w.drew = .ok (.pointer none) w.drew := rfl
    clear hown hbk h hlt
    go_enter Try.func36, Try.ntmps36
    go_wp2
    go_region
    all_goals (go_wp2; go_ret; exact ⟨rfl, Below.drew (Below.refl B w)⟩)
  · have hbk : w.heap[b]? = some (.cells #[p, .slice (some ⟨g, 0, none⟩) 0 cap] 67 (0, 0)) := hbk
    by_cases hc0 : cap = 0
    · subst hc0
      have c1 : w.drew.cell? ⟨b, 1, none⟩ = some (.slice (some ⟨g, 0, none⟩) 0 0) := cell_of_row _ _ 1 _ _ _ hbk
      have hSD : (Builtin.unsafeSliceData_ #[40] 84 #[.slice (some ⟨g, 0, none⟩) 0 0]).run Try.prog w.drew = .ok (.pointer (some ⟨w.drew.heap.size, 0, none⟩)) (w.drew.alloc (.view ⟨g, 0, none⟩ 5)) :=
        Lib.run_unsafeSliceData_zero w.drew _ _ 5 Try.underlying84 ⟨g, 0, none⟩ 0 (5, cur.size) (by have hg' : w.drew.heap[g]? = some (.cells cur 5 (0, 0)) := hg; simp [World.shape?, hg'])
      have c2 : (w.drew.alloc (.view ⟨g, 0, none⟩ 5)).cell? ⟨b, 1, none⟩ = some (.slice (some ⟨g, 0, none⟩) 0 0) := cell_of_row _ _ 1 _ _ _ ((Lib.alloc_old w.drew _ b hlt).trans hbk)
      have c3 : (w.alloc (.view ⟨g, 0, none⟩ 5)).drew.cell? ⟨b, 1, none⟩ = some (.slice (some ⟨g, 0, none⟩) 0 0) := c2
      have c0 : w.cell? ⟨b, 1, none⟩ = some (.slice (some ⟨g, 0, none⟩) 0 0) := c1
      clear hown hbk h hg hlt
      go_enter Try.func36, Try.ntmps36
      go_wp2
      go_region
      all_goals (go_wp2; go_ret; exact ⟨rfl, (Below.drew (Below.refl B w)).alloc hBw _⟩)
    · have c1 : w.drew.cell? ⟨b, 1, none⟩ = some (.slice (some ⟨g, 0, none⟩) 0 cap) := cell_of_row _ _ 1 _ _ _ hbk
      have hSD : (Builtin.unsafeSliceData_ #[40] 84 #[.slice (some ⟨g, 0, none⟩) 0 cap]).run Try.prog w.drew = .ok (.pointer (some ⟨g, 0, none⟩)) w.drew :=
        Lib.run_unsafeSliceData_row _ _ _ _ _ _ hc0
      clear hown hbk h hg hlt hc0
      go_enter Try.func36, Try.ntmps36
      go_wp2
      go_region
      all_goals (go_wp2; go_ret; exact ⟨rfl, Below.drew (Below.refl B w)⟩)
theorem string_any (B b : Nat) (l : List UInt8) (w : World) (h : Bld B b l w) (hBw : B ≤ w.heap.size) :
    Calls Try.prog 36 #[.pointer (some ⟨b, 0, none⟩)] w fun e w' => e = .returned (.string ⟨l.toArray⟩) ∧ Below B w w' := by
  by_cases h0 : l = []
  · subst h0
    exact string_none B b w h hBw
  · exact string_some B b l w h h0
end Go.Proofs.Ytaopjeobapnhbaa.nn
namespace Go.Proofs.Ytaopjeobapnhbaa.nn
open Go.RowKit

theorem bt_tail {s : ByteArray} {a : Nat} (h : a ≤ s.size) : bt (s.extract a s.size) = sh (bt s) a ∧ (s.extract a s.size).size = s.size - a := by
  have hz : (s.extract a s.size).size = s.size - a := by rw [ByteArray.size_extract]; omega
  refine ⟨funext fun i => ?_, hz⟩
  simp only [sh]
  unfold bt
  by_cases hi : a + i < s.size
  · rw [dif_pos hi, dif_pos (by omega), ByteArray.getElem_extract]
  · rw [dif_neg hi, dif_neg (by omega)]
theorem Bld.below {B b : Nat} {l : List UInt8} {w w' : World} (h : Bld B b l w) (hb : Below w.heap.size w w') : Bld B b l w' := by
  have key : ∀ p, Lib.BuilderAt 67 5 B b p (Lib.byteCells l) w → Lib.BuilderAt 67 5 B b p (Lib.byteCells l) w' := by
    rintro p ⟨hB, x, hbk, hown, hne⟩
    exact ⟨hB, x, (hb.block b (lt_of_block hbk)).trans hbk, own_below hown hb, hne⟩
  rcases h with h | h
  · exact .inl (key _ h)
  · exact .inr (key _ h)
/-- the writer of what is said, behind some calls -/
structure Sd (B b : Nat) (l : List UInt8) (w w' : World) : Prop where
  d : Bld B b l w'
  lt : B ≤ w'.heap.size
  b : Below B w w'
theorem Sd.on {B b : Nat} {l : List UInt8} {w w1 w2 : World} (h : Sd B b l w w1) (hb : Below w1.heap.size w1 w2) : Sd B b l w w2 := ⟨h.d.below hb, Nat.le_trans h.lt hb.size, h.b.trans (hb.mono h.lt)⟩
def sayV (b : Nat) : Value := .func (.func 34) #[] #[.pointer (some ⟨b, 0, none⟩)]
section
variable {B b : Nat} {l : List UInt8} {w0 w : World}
theorem Sd.drewN (h : Sd B b l w0 w) (j : Nat) : Sd B b l w0 (w.drewN j) := h.on (drew_below (Below.refl _ _) j)
set_option maxRecDepth 100000 in
theorem said_any (s : ByteArray) (h : Sd B b l w0 w) (hlen : l.length + s.size ≤ 140737488355328) :
    Calls Try.prog 34 #[.string s, .pointer (some ⟨b, 0, none⟩)] w fun e w' => e = .returned (.tuple #[]) ∧ Sd B b (l ++ s.data.toList) w0 w' := by
  have HC := Lib.hid (writeString_any B b l s w h.d hlen h.lt)
  have HH := Lib.hid h
  clear h
  go_enter Try.func34, Try.ntmps34
  go_wp2_with fail
  refine HC.out.mono ?_
  rintro e w1 ⟨rfl, h1, h2, h3⟩
  go_wp2_with fail
  go_end0
  exact ⟨rfl, h1, Nat.le_trans HH.out.lt h2.size, HH.out.b.trans h2⟩

/-- what a part of the reader answers -/
def SdAns (B b : Nat) (l : List UInt8) (R : Rs (List UInt8)) (w0 : World) (e : Ending) (w' : World) : Prop :=
  match R with
  | .ok L k => e = .returned (.tuple #[.int .i64 (k : Int), .int .i64 0]) ∧ Sd B b (l ++ L) w0 w'
  | .no q er => e = .returned (.tuple #[.int .i64 (q : Int), .int .i64 (er : Int)]) ∧ Below B w0 w'
theorem er_sts (low : Bool) : ∀ m i u, Er (sts low m i u)
  | 0, _, _ => er_ret _
  | m + 1, i, _ => er_bind (er_one _) fun a => er_sts low m (i + 1) a
theorem er_un (low : Bool) : Er (unP low) := er_sts low 6 0 0
theorem un_ok {low : Bool} {f : Nat → Nat} {n u k : Nat} (h : unP low f n 0 = .ok u k) : u < 65536 ∧ k = 6 ∧ 6 ≤ n := by
  rw [un_form] at h
  split at h
  · cases h
  · split at h
    · split at h
      · cases h
      · split at h
        · have := four_lt h
          exact ⟨this.1, by omega, by omega⟩
        · cases h
    · cases h
theorem det_sts (low : Bool) : ∀ m i u, Det (sts low m i u)
  | 0, _, _ => det_ret _
  | m + 1, i, _ => (det_one _).bind fun a => det_sts low m (i + 1) a
theorem det_no_le {α : Type} {p : Prs α} {f : Nat → Nat} {n i q e : Nat} (h : Det p) (hi : i ≤ n) (hp : p f n i = .no q e) : q ≤ n := by
  by_cases he : e = 3
  · subst he
    have := h.short hi hp
    omega
  · have := h.form hi hp he
    omega
theorem esne {e : Nat} (h : e ≠ 0) : ((e : Int) == 0) = false := by simp; omega
theorem enc_size (u : Nat) : (encF (u : Int)).size ≤ 4 := enc_len u
set_option maxRecDepth 100000 in
set_option maxHeartbeats 4000000 in
theorem epoint_any (s : ByteArray) (h : Sd B b l w0 w) (hs : s.size ≤ 4611686018427387904) (hlen : l.length + 4 ≤ 140737488355328) :
    Calls Try.prog 51 #[.string s, sayV b] w (SdAns B b l (rpP (bt s) s.size 0) w0) := by
  have HD := Lib.hid h
  have HU := Lib.hid (unit_any s false w hs)
  have HE : Hid (∀ (u : Nat) W, u < 1200000 → Calls Try.prog 57 #[.int .i64 (u : Int)] W fun r w' => r = .returned (.string (encF (u : Int))) ∧ W = w') := Lib.hid fun u W hu => enc_any u W (by omega) (by omega)
  have HW : Hid (∀ (u : Nat) W, Sd B b l w0 W → Calls Try.prog 34 #[.string (encF (u : Int)), .pointer (some ⟨b, 0, none⟩)] W fun e w' => e = .returned (.tuple #[]) ∧ Sd B b (l ++ encL u) w0 w') := Lib.hid fun u W hW => said_any (encF (u : Int)) hW (by have := enc_size u; omega)
  obtain ⟨R, hR⟩ : ∃ R, rpP (bt s) s.size 0 = R := ⟨_, rfl⟩
  have HR := Lib.hid hR
  rw [hR]
  clear hR h hlen
  unfold sayV
  cases h1 : unP false (bt s) s.size 0 with
  | no q e =>
    have HV : Hid (R = .no q e) := Lib.hid (by rw [← HR.out]; unfold rpP; exact bind_no h1)
    rw [HV.out]
    have he := er_un false h1
    have k1 : ((e : Int) == 0) = false := esne (by omega)
    rw [h1] at HU
    unfold unV at HU
    simp only at HU
    clear he h1 HR HV HE HW
    go_enter Try.func51, Try.ntmps51
    go_wp2_with fail
    refine HU.out.mono ?_
    rintro r w1 ⟨rfl, b1⟩
    have H1 := Lib.hid (HD.out.on b1)
    clear b1 HU HD
    go_wp2_with fail
    exact bodyPost_ret (v := .tuple #[.int .i64 (q : Int), .int .i64 (e : Int)]) (by simp [results, Try.results51, go_sem]) rfl ⟨rfl, by first | exact H1.out.b | exact (H1.out.drewN 1).b⟩
  | ok u k =>
    obtain ⟨hu, rfl, hn6⟩ := un_ok h1
    rw [h1] at HU
    unfold unV at HU
    simp only at HU
    by_cases hp : 55296 ≤ u ∧ u < 56320
    · obtain ⟨et, ez⟩ := bt_tail (s := s) (a := 6) hn6
      have HU2 := Lib.hid (fun W => unit_any (s.extract 6 s.size) true W (by omega))
      have hR2 : R = ((unP true).bind fun v => ret (encL (65536 + (u - 55296) * 1024 + v - 56320))) (bt s) s.size 6 := by
        rw [← HR.out]; unfold rpP; rw [bind_ok h1, if_neg (by omega)]
      have hsh := shf_sts true 6 0 0 (bt s) s.size 0 6 hn6
      rw [et, ez] at HU2
      have k1 : decide ((55296 : Int) ≤ (u : Int)) = true := decide_eq_true (by omega)
      have k2 : decide ((u : Int) < 56320) = true := decide_eq_true (by omega)
      have f1 : wrap64 ((u : Int) - 55296) = (u : Int) - 55296 := by unfold wrap64; omega
      have f2 : wrap64 (((u : Int) - 55296) * 1024) = ((u : Int) - 55296) * 1024 := by unfold wrap64; omega
      have f3 : wrap64 (65536 + ((u : Int) - 55296) * 1024) = 65536 + ((u : Int) - 55296) * 1024 := by unfold wrap64; omega
      have g6 : (6 : Int) ≤ (s.size : Int) := by omega
      cases h2 : unP true (sh (bt s) 6) (s.size - 6) 0 with
      | no q e =>
        have HV : Hid (R = .no (6 + q) e) := Lib.hid (by
          rw [hR2]
          have : unP true (bt s) s.size 6 = .no (6 + q) e := by unfold unP at h2 ⊢; rw [hsh, h2]; rfl
          exact bind_no this)
        rw [HV.out]
        have he := er_un true h2
        have hq : q ≤ 4611686018427387904 := by have := det_no_le (det_sts true 6 0 0) (Nat.zero_le _) h2; omega
        have k3 : ((e : Int) == 0) = false := esne (by omega)
        rw [h2] at HU2
        unfold unV at HU2
        simp only at HU2
        have f4 : wrap64 ((0 : Int) - 56320) = -56320 := by unfold wrap64; omega
        have f5 : wrap64 (65536 + ((u : Int) - 55296) * 1024 + -56320) = 65536 + ((u : Int) - 55296) * 1024 + -56320 := by unfold wrap64; omega
        have f6 : wrap64 (6 + (q : Int)) = 6 + (q : Int) := by unfold wrap64; omega
        clear he h1 h2 hR2 hsh et ez HR HV HE HW hp hn6
        go_enter Try.func51, Try.ntmps51
        go_wp2_with fail
        refine HU.out.mono ?_
        rintro r w1 ⟨rfl, b1⟩
        have H1 := Lib.hid (HD.out.on b1)
        clear b1 HU HD
        go_wp2_with fail
        refine (HU2.out _).mono ?_
        rintro r w2 ⟨rfl, b2⟩
        have H2 := Lib.hid (H1.out.on b2)
        clear b2 HU2 H1
        go_wp2_with fail
        exact bodyPost_ret (v := .tuple #[.int .i64 (6 + (q : Int)), .int .i64 (e : Int)]) (by simp [results, Try.results51, go_sem]) rfl ⟨by push_cast; rfl, by first | exact H2.out.b | exact (H2.out.drewN 1).b⟩
      | ok v k =>
        obtain ⟨hv, rfl, hn12⟩ := un_ok h2
        obtain ⟨p, hpp⟩ : ∃ p, 65536 + (u - 55296) * 1024 + v - 56320 = p := ⟨_, rfl⟩
        have HV : Hid (R = .ok (encL p) 12) := Lib.hid (by
          rw [hR2]
          have : unP true (bt s) s.size 6 = .ok v 12 := by unfold unP at h2 ⊢; rw [hsh, h2]; rfl
          rw [bind_ok this, hpp]; rfl)
        rw [HV.out]
        rw [h2] at HU2
        unfold unV at HU2
        simp only at HU2
        have HE2 := Lib.hid (fun W => HE.out p W (by omega))
        have HW2 := Lib.hid (HW.out p)
        have f4 : wrap64 ((v : Int) - 56320) = (v : Int) - 56320 := by unfold wrap64; omega
        have f5 : wrap64 (65536 + ((u : Int) - 55296) * 1024 + ((v : Int) - 56320)) = 65536 + ((u : Int) - 55296) * 1024 + ((v : Int) - 56320) := by unfold wrap64; omega
        have hpi : (p : Int) = 65536 + ((u : Int) - 55296) * 1024 + ((v : Int) - 56320) := by omega
        rw [hpi] at HE2
        obtain ⟨E, hE⟩ : ∃ E, encF (65536 + ((u : Int) - 55296) * 1024 + ((v : Int) - 56320)) = E := ⟨_, rfl⟩
        rw [hpi, hE] at HW2
        rw [hE] at HE2
        obtain ⟨L, hL⟩ : ∃ L, encL p = L := ⟨_, rfl⟩
        rw [hL] at HW2 ⊢
        clear h1 h2 hR2 hsh et ez HR HV HE HW hp hn6 hE hL hpi hpp hn12
        go_enter Try.func51, Try.ntmps51
        go_wp2_with fail
        refine HU.out.mono ?_
        rintro r w1 ⟨rfl, b1⟩
        have H1 := Lib.hid (HD.out.on b1)
        clear b1 HU HD
        go_wp2_with fail
        refine (HU2.out _).mono ?_
        rintro r w2 ⟨rfl, b2⟩
        have H2 := Lib.hid (H1.out.on b2)
        clear b2 HU2 H1
        go_wp2_with fail
        refine (HE2.out _).mono ?_
        rintro r w3 ⟨rfl, rfl⟩
        clear HE2
        go_wp2_with fail
        refine (HW2.out _ (by first | exact H2.out | exact H2.out.drewN 1)).mono ?_
        rintro r w4 ⟨rfl, h4⟩
        have H4 := Lib.hid h4
        clear h4 HW2 H2
        go_wp2_with fail
        exact bodyPost_ret (v := .tuple #[.int .i64 12, .int .i64 0]) (by simp [results, Try.results51, go_sem]) rfl ⟨rfl, H4.out⟩
    · have HV : Hid (R = .ok (encL u) 6) := Lib.hid (by
        rw [← HR.out]; unfold rpP; rw [bind_ok h1, if_pos (by omega)]; rfl)
      rw [HV.out]
      have HE2 := Lib.hid (fun W => HE.out u W (by omega))
      have HW2 := Lib.hid (HW.out u)
      obtain ⟨E, hE⟩ : ∃ E, encF (u : Int) = E := ⟨_, rfl⟩
      rw [hE] at HW2 HE2
      obtain ⟨L, hL⟩ : ∃ L, encL u = L := ⟨_, rfl⟩
      rw [hL] at HW2 ⊢
      have hg : (decide ((55296 : Int) ≤ (u : Int)) = false) ∨ (decide ((55296 : Int) ≤ (u : Int)) = true ∧ decide ((u : Int) < 56320) = false) := by
        by_cases h5 : 55296 ≤ u
        · exact .inr ⟨decide_eq_true (by omega), decide_eq_false (by omega)⟩
        · exact .inl (decide_eq_false (by omega))
      clear h1 HR HV HE HW hp hn6 hE hL hu
      rcases hg with g1 | ⟨g1, g2⟩
      all_goals
        go_enter Try.func51, Try.ntmps51
        go_wp2_with fail
        refine HU.out.mono ?_
        rintro r w1 ⟨rfl, b1⟩
        have H1 := Lib.hid (HD.out.on b1)
        clear b1 HU HD
        go_wp2_with fail
        refine (HE2.out _).mono ?_
        rintro r w3 ⟨rfl, rfl⟩
        clear HE2
        go_wp2_with fail
        refine (HW2.out _ (by first | exact H1.out | exact H1.out.drewN 1)).mono ?_
        rintro r w4 ⟨rfl, h4⟩
        have H4 := Lib.hid h4
        clear h4 HW2 H1
        go_wp2_with fail
        exact bodyPost_ret (v := .tuple #[.int .i64 6, .int .i64 0]) (by simp [results, Try.results51, go_sem]) rfl ⟨rfl, H4.out⟩
end
end Go.Proofs.Ytaopjeobapnhbaa.nn
namespace Go.Proofs.Ytaopjeobapnhbaa.nn
open Go.RowKit

theorem raw_ext {s : ByteArray} {i : Nat} (h : i ≤ s.size) : (s.extract 0 i).data.toList = raw (bt s) 0 i := by
  have hz : (s.extract 0 i).size = i := by rw [ByteArray.size_extract]; omega
  apply List.ext_getElem
  · rw [raw_len]; exact hz
  · intro j h1 h2
    rw [raw_len] at h2
    simp only [raw, List.getElem_map, List.getElem_range, Nat.zero_add]
    rw [bt_at (by omega)]
    have e : (s.extract 0 i).data.toList[j] = (s.extract 0 i)[j]'(by omega) := rfl
    rw [e, ByteArray.getElem_extract]
    simp
theorem one_ext {s : ByteArray} (h : 2 ≤ s.size) : (s.extract 1 2).data.toList = [s[1]] := by
  have hz : (s.extract 1 2).size = 1 := by rw [ByteArray.size_extract]; omega
  apply List.ext_getElem
  · exact hz
  · intro j h1 h2
    simp only [List.length_singleton] at h2
    obtain rfl : j = 0 := by omega
    have e : (s.extract 1 2).data.toList[0] = (s.extract 1 2)[0]'(by omega) := rfl
    rw [e, ByteArray.getElem_extract]
    rfl
theorem ck_vals (f : Nat → Nat) (n : Nat) : ckE f n = 0 ∧ ckA f n = n ∨ ckE f n = 3 ∨ ckE f n = 4 := by
  unfold ckE ckA
  split
  · rename_i h
    split
    · exact .inl ⟨rfl, sp_all h⟩
    · exact .inr (.inl rfl)
  · exact .inr (.inr rfl)
theorem bt_pre {s : ByteArray} {m i : Nat} (hm : m ≤ s.size) (h : i < m) : bt (s.extract 0 m) i = bt s i := by
  have h1 : i < s.size := by omega
  have h2 : i < (s.extract 0 m).size := by rw [ByteArray.size_extract]; omega
  rw [bt_at h1, bt_at h2, ByteArray.getElem_extract]
  simp
theorem ck_pre {s : ByteArray} {m : Nat} (hm : m ≤ s.size) : ckA (bt (s.extract 0 m)) m = ckA (bt s) m ∧ ckE (bt (s.extract 0 m)) m = ckE (bt s) m := by
  unfold ckE ckA
  rw [al_congr fun i hi => bt_pre hm hi, sp_congr fun i hi => bt_pre hm hi, tk_congr fun i hi => bt_pre hm hi]
  exact ⟨rfl, rfl⟩
section
variable {B b : Nat} {l : List UInt8} {w0 w : World}
/-- what readPlain answers: m bytes are plain -/
def PlAns (B b : Nat) (l : List UInt8) (s : ByteArray) (w0 : World) (e : Ending) (w' : World) : Prop :=
  ∃ m, m ≤ s.size ∧ (∀ j, j < m → Pln (bt s j)) ∧ (m < s.size → ¬ Pln (bt s m)) ∧
    ((ckE (bt s) m = 0 ∧ e = .returned (.tuple #[.int .i64 (m : Int), .int .i64 0]) ∧ Sd B b (l ++ raw (bt s) 0 m) w0 w') ∨
     (ckE (bt s) m ≠ 0 ∧ e = .returned (.tuple #[.int .i64 (ckA (bt s) m : Int), .int .i64 ((if ckE (bt s) m = 3 ∧ m < s.size then 4 else ckE (bt s) m : Nat) : Int)]) ∧ Below B w0 w'))
set_option maxRecDepth 100000 in
set_option maxHeartbeats 4000000 in
theorem eplain_any (s : ByteArray) (h : Sd B b l w0 w) (hs : s.size ≤ 4611686018427387904) (hlen : l.length + s.size ≤ 140737488355328) :
    Calls Try.prog 47 #[.string s, sayV b] w (PlAns B b l s w0) := by
  have HD := Lib.hid h
  have HL := Lib.hid hlen
  clear h hlen
  unfold sayV
  go_enter Try.func47, Try.ntmps47
  go_wp2_with fail
  go_loopw [6] (fun s6 wr => ∃ i : Nat, i ≤ s.size ∧ s6 = .int .i64 (i : Int) ∧ Hid (∀ j, j < i → Pln (bt s j)) ∧ Hid (Sd B b l w0 wr)) (fun s6 _ => s.size - (intOf s6).toNat)
  case atStart => exact ⟨0, Nat.zero_le _, rfl, Lib.hid (fun j hj => absurd hj (by omega)), HD⟩
  case round =>
    obtain ⟨i, hi, rfl, HP, HS⟩ := hrel
    by_cases hpl : i < s.size ∧ Pln (bt s i)
    · obtain ⟨hlt, hp⟩ := hpl
      have HP2 : Hid (∀ j, j < i + 1 → Pln (bt s j)) := Lib.hid fun j hj => by
        by_cases e : j = i
        · rw [e]; exact hp
        · exact HP.out j (by omega)
      have hx := bt_at hlt
      obtain ⟨x, hxx⟩ : ∃ x, (s[i]).toNat = x := ⟨_, rfl⟩
      rw [hxx] at hx
      rw [hx] at hp
      unfold Pln at hp
      have k1 : decide ((32 : Int) ≤ (x : Int)) = true := decide_eq_true (by omega)
      have k2 : ((x : Int) != 34) = true := by simp; omega
      have k3 : ((x : Int) != 92) = true := by simp; omega
      clear hp hx
      go_wp2_with fail
      go_roundw
      case rel => exact ⟨i + 1, by omega, by go_num, HP2, by first | exact HS | exact Lib.hid (HS.out.drewN _)⟩
      case measure => simp [intOf]; omega
    · have HN : Hid (i < s.size → ¬ Pln (bt s i)) := Lib.hid fun h1 h2 => hpl ⟨h1, h2⟩
      have hz : (s.extract 0 i).size = i := by rw [ByteArray.size_extract]; omega
      have HC := Lib.hid (fun W => check_any (s.extract 0 i) W (by unfold maxLen; omega))
      obtain ⟨c1, c2⟩ := ck_pre hi
      rw [hz, c1, c2] at HC
      have HV := Lib.hid (ck_vals (bt s) i)
      have HW : Hid (∀ W, Sd B b l w0 W → Calls Try.prog 34 #[.string (s.extract 0 i), .pointer (some ⟨b, 0, none⟩)] W fun e w' => e = .returned (.tuple #[]) ∧ Sd B b (l ++ raw (bt s) 0 i) w0 w') := Lib.hid fun W hW => by
        have := said_any (s.extract 0 i) hW (by have := HL.out; omega)
        rwa [raw_ext hi] at this
      have HA : Hid (∀ e w', ((ckE (bt s) i = 0 ∧ e = .returned (.tuple #[.int .i64 (i : Int), .int .i64 0]) ∧ Sd B b (l ++ raw (bt s) 0 i) w0 w') ∨
          (ckE (bt s) i ≠ 0 ∧ e = .returned (.tuple #[.int .i64 (ckA (bt s) i : Int), .int .i64 ((if ckE (bt s) i = 3 ∧ i < s.size then 4 else ckE (bt s) i : Nat) : Int)]) ∧ Below B w0 w')) → PlAns B b l s w0 e w') := Lib.hid fun e w' hh => ⟨i, hi, HP.out, HN.out, hh⟩
      obtain ⟨E, hE⟩ : ∃ E, ckE (bt s) i = E := ⟨_, rfl⟩
      obtain ⟨P, hP⟩ : ∃ P, ckA (bt s) i = P := ⟨_, rfl⟩
      rw [hE, hP] at HV HC HA
      obtain ⟨RL, hRL⟩ : ∃ RL, raw (bt s) 0 i = RL := ⟨_, rfl⟩
      rw [hRL] at HW HA
      have hgd : (decide ((i : Int) < (s.size : Int)) = false ∧ i = s.size) ∨ (i < s.size ∧ ∃ x, ∃ hl : i < s.size, (s[i]).toNat = x ∧ (decide ((32 : Int) ≤ (x : Int)) = false ∨ (decide ((32 : Int) ≤ (x : Int)) = true ∧ ((x : Int) != 34) = false) ∨ (decide ((32 : Int) ≤ (x : Int)) = true ∧ ((x : Int) != 34) = true ∧ ((x : Int) != 92) = false))) := by
        by_cases hl : i < s.size
        · refine .inr ⟨hl, _, hl, rfl, ?_⟩
          have hn := HN.out hl
          rw [bt_at hl] at hn
          obtain ⟨x, hx⟩ : ∃ x, (s[i]).toNat = x := ⟨_, rfl⟩
          rw [hx] at hn ⊢
          unfold Pln at hn
          by_cases g1 : 32 ≤ x
          · by_cases g2 : x = 34
            · exact .inr (.inl ⟨decide_eq_true (by omega), by simp; omega⟩)
            · exact .inr (.inr ⟨decide_eq_true (by omega), by simp; omega, by simp; omega⟩)
          · exact .inl (decide_eq_false (by omega))
        · exact .inl ⟨decide_eq_false (by omega), by omega⟩
      clear hpl HN HP hE hP hRL c1 c2 hz HL HD hi
      have hv : (E = 0 ∧ P = i) ∨ E = 3 ∨ E = 4 := HV.out
      clear HV
      have hgd2 : (decide ((i : Int) < (s.size : Int)) = false ∧ Hid (i = s.size)) ∨ (i < s.size ∧ ∃ x, ∃ hl : i < s.size, (s[i]).toNat = x ∧ (decide ((32 : Int) ≤ (x : Int)) = false ∨ (decide ((32 : Int) ≤ (x : Int)) = true ∧ ((x : Int) != 34) = false) ∨ (decide ((32 : Int) ≤ (x : Int)) = true ∧ ((x : Int) != 34) = true ∧ ((x : Int) != 92) = false))) := hgd.imp (fun h => ⟨h.1, Lib.hid h.2⟩) id
      clear hgd
      have hex : s.extract 0 s.size = s := by simp
      rcases hgd2 with ⟨q0, hie⟩ | ⟨hlt, x, hl, hx, q1 | ⟨q1, q2⟩ | ⟨q1, q2, q3⟩⟩
      case inl =>
        obtain rfl := hie.out
        rw [hex] at HC HW
        clear hie hex
        rcases hv with ⟨rfl, rfl⟩ | rfl | rfl
        · have HA0 := Lib.hid fun w' (h : Sd B b (l ++ RL) w0 w') => HA.out _ w' (.inl ⟨rfl, rfl, h⟩)
          clear HA
          go_wp2_with fail
          refine (HC.out _).mono ?_
          rintro r w1 ⟨rfl, b1⟩
          have H1 : Hid (Sd B b l w0 w1) := Lib.hid (by first | exact HS.out.on b1 | exact (HS.out.drewN _).on b1)
          clear b1 HC HS
          go_wp2_with fail
          refine (HW.out _ (by first | exact H1.out | exact H1.out.drewN _)).mono ?_
          rintro r w2 ⟨rfl, h2⟩
          have H2 := Lib.hid h2
          clear h2 HW H1
          go_wp2_with fail
          exact bodyPost_ret (v := .tuple #[.int .i64 (s.size : Int), .int .i64 0]) (by simp [results, Try.results47, go_sem]) rfl (HA0.out _ (by first | exact H2.out | exact H2.out.drewN _))
        · have HA0 : Hid (∀ w', Below B w0 w' → PlAns B b l s w0 (.returned (.tuple #[.int .i64 (P : Int), .int .i64 3])) w') := Lib.hid fun w' h => by
            have := HA.out _ w' (.inr ⟨by decide, rfl, h⟩)
            rw [if_neg (by omega)] at this
            exact this
          have g0 : decide ((s.size : Int) < (s.size : Int)) = false := decide_eq_false (by omega)
          clear HA HW
          go_wp2_with fail
          refine (HC.out _).mono ?_
          rintro r w1 ⟨rfl, b1⟩
          have H1 : Hid (Sd B b l w0 w1) := Lib.hid (by first | exact HS.out.on b1 | exact (HS.out.drewN _).on b1)
          clear b1 HC HS
          go_wp2_with fail
          exact bodyPost_ret (v := .tuple #[.int .i64 (P : Int), .int .i64 3]) (by simp [results, Try.results47, go_sem]) rfl (HA0.out _ (by first | exact H1.out.b | exact (H1.out.drewN _).b))
        · have HA0 : Hid (∀ w', Below B w0 w' → PlAns B b l s w0 (.returned (.tuple #[.int .i64 (P : Int), .int .i64 4])) w') := Lib.hid fun w' h => by
            have := HA.out _ w' (.inr ⟨by decide, rfl, h⟩)
            rw [if_neg (by omega)] at this
            exact this
          clear HA HW
          go_wp2_with fail
          refine (HC.out _).mono ?_
          rintro r w1 ⟨rfl, b1⟩
          have H1 : Hid (Sd B b l w0 w1) := Lib.hid (by first | exact HS.out.on b1 | exact (HS.out.drewN _).on b1)
          clear b1 HC HS
          go_wp2_with fail
          exact bodyPost_ret (v := .tuple #[.int .i64 (P : Int), .int .i64 4]) (by simp [results, Try.results47, go_sem]) rfl (HA0.out _ (by first | exact H1.out.b | exact (H1.out.drewN _).b))
      all_goals
        clear hex
        rcases hv with ⟨rfl, rfl⟩ | rfl | rfl
        · have HA0 := Lib.hid fun w' (h : Sd B b (l ++ RL) w0 w') => HA.out _ w' (.inl ⟨rfl, rfl, h⟩)
          clear HA
          go_wp2_with fail
          refine (HC.out _).mono ?_
          rintro r w1 ⟨rfl, b1⟩
          have H1 : Hid (Sd B b l w0 w1) := Lib.hid (by first | exact HS.out.on b1 | exact (HS.out.drewN _).on b1)
          clear b1 HC HS
          go_wp2_with fail
          refine (HW.out _ (by first | exact H1.out | exact H1.out.drewN _)).mono ?_
          rintro r w2 ⟨rfl, h2⟩
          have H2 := Lib.hid h2
          clear h2 HW H1
          go_wp2_with fail
          exact bodyPost_ret (v := .tuple #[.int .i64 (P : Int), .int .i64 0]) (by simp [results, Try.results47, go_sem]) rfl (HA0.out _ (by first | exact H2.out | exact H2.out.drewN _))
        · have HA0 : Hid (∀ w', Below B w0 w' → PlAns B b l s w0 (.returned (.tuple #[.int .i64 (P : Int), .int .i64 4])) w') := Lib.hid fun w' h => by
            have := HA.out _ w' (.inr ⟨by decide, rfl, h⟩)
            rw [if_pos ⟨rfl, by omega⟩] at this
            exact this
          have g0 : decide ((i : Int) < (s.size : Int)) = true := decide_eq_true (by omega)
          clear HA HW
          go_wp2_with fail
          refine (HC.out _).mono ?_
          rintro r w1 ⟨rfl, b1⟩
          have H1 : Hid (Sd B b l w0 w1) := Lib.hid (by first | exact HS.out.on b1 | exact (HS.out.drewN _).on b1)
          clear b1 HC HS
          go_wp2_with fail
          exact bodyPost_ret (v := .tuple #[.int .i64 (P : Int), .int .i64 4]) (by simp [results, Try.results47, go_sem]) rfl (HA0.out _ (by first | exact H1.out.b | exact (H1.out.drewN _).b))
        · have HA0 : Hid (∀ w', Below B w0 w' → PlAns B b l s w0 (.returned (.tuple #[.int .i64 (P : Int), .int .i64 4])) w') := Lib.hid fun w' h => by
            have := HA.out _ w' (.inr ⟨by decide, rfl, h⟩)
            rw [if_neg (by omega)] at this
            exact this
          clear HA HW
          go_wp2_with fail
          refine (HC.out _).mono ?_
          rintro r w1 ⟨rfl, b1⟩
          have H1 : Hid (Sd B b l w0 w1) := Lib.hid (by first | exact HS.out.on b1 | exact (HS.out.drewN _).on b1)
          clear b1 HC HS
          go_wp2_with fail
          exact bodyPost_ret (v := .tuple #[.int .i64 (P : Int), .int .i64 4]) (by simp [results, Try.results47, go_sem]) rfl (HA0.out _ (by first | exact H1.out.b | exact (H1.out.drewN _).b))
end
end Go.Proofs.Ytaopjeobapnhbaa.nn
namespace Go.Proofs.Ytaopjeobapnhbaa.nn
open Go.RowKit

section
variable {B b : Nat} {l : List UInt8} {w0 w : World}
theorem esc_letter {f : Nat → Nat} {n x p : Nat} (hn : 1 < n) (hx : f 1 = x) (hk : escK x = some p) (hp : p ≠ 117) : escP f n 1 = .ok [UInt8.ofNat p] 2 := by
  have e1 : one escK f n 1 = .ok p 2 := by unfold one; rw [if_neg (by omega), hx, hk]
  unfold escP
  rw [bind_ok e1, if_neg hp]
  rfl
set_option maxRecDepth 100000 in
set_option maxHeartbeats 4000000 in
theorem eescape_any (s : ByteArray) (h : Sd B b l w0 w) (h1 : 1 ≤ s.size) (h0 : bt s 0 = 92) (hs : s.size ≤ 4611686018427387904) (hlen : l.length + 4 ≤ 140737488355328) :
    Calls Try.prog 46 #[.string s, sayV b] w (SdAns B b l (escP (bt s) s.size 1) w0) := by
  obtain ⟨R, hR⟩ : ∃ R, escP (bt s) s.size 1 = R := ⟨_, rfl⟩
  have HR := Lib.hid hR
  have HD := Lib.hid h
  have HP := Lib.hid (epoint_any s h hs hlen)
  have HW : Hid (∀ (t : ByteArray) (L : List UInt8) W, t.data.toList = L → t.size ≤ 4 → Sd B b l w0 W → Calls Try.prog 34 #[.string t, .pointer (some ⟨b, 0, none⟩)] W fun e w' => e = .returned (.tuple #[]) ∧ Sd B b (l ++ L) w0 w') := Lib.hid fun t L W ht hz hW => by
    rw [← ht]; exact said_any t hW (by omega)
  rw [hR]
  clear h hlen
  unfold sayV at HP ⊢
  by_cases h2 : s.size < 2
  · have HV : Hid (R = .no s.size 3) := Lib.hid (by rw [← HR.out]; unfold escP; exact bind_no (by unfold one; rw [if_pos (by omega)]))
    rw [HV.out]
    have k1 : decide ((s.size : Int) < 2) = true := decide_eq_true (by omega)
    clear HR HV HP HW hR h0
    go_enter Try.func46, Try.ntmps46
    go_wp2_with fail
    exact bodyPost_ret (v := .tuple #[.int .i64 (s.size : Int), .int .i64 3]) (by simp [results, Try.results46, go_sem]) rfl ⟨rfl, HD.out.b⟩
  have k1 : decide ((s.size : Int) < 2) = false := decide_eq_false (by omega)
  have hlt : 1 < s.size := by omega
  have hx := bt_at hlt
  obtain ⟨x, hxx⟩ : ∃ x, (s[1]).toNat = x := ⟨_, rfl⟩
  rw [hxx] at hx
  have hx256 : x < 256 := by rw [← hxx]; exact s[1].toNat_lt
  by_cases hu : x = 117
  · subst hu
    have HV : Hid (rpP (bt s) s.size 0 = R) := Lib.hid (by rw [← hR]; exact (rp_esc (i := 0) h0 hx hlt).symm)
    rw [HV.out] at HP
    clear HR HV HW hR h0 hx HD
    go_enter Try.func46, Try.ntmps46
    go_wp2_with fail
    refine HP.out.mono ?_
    intro e w1 h3
    have HE : Hid (SdAns B b l R w0 e w1) := Lib.hid h3
    obtain ⟨q, er, rfl⟩ : ∃ q er : Int, e = .returned (.tuple #[.int .i64 q, .int .i64 er]) := by
      unfold SdAns at h3
      cases R with
      | ok L k => exact ⟨_, _, h3.1⟩
      | no q er => exact ⟨_, _, h3.1⟩
    clear h3 HP
    go_wp2_with fail
    exact bodyPost_ret (v := .tuple #[.int .i64 q, .int .i64 er]) (by simp [results, Try.results46, go_sem]) rfl HE.out
  by_cases hu98 : x = 98
  · subst hu98
    have HV : Hid (R = .ok [8] 2) := Lib.hid (by rw [← hR]; exact esc_letter (p := 8) hlt hx (by decide) (by decide))
    have HW2 := Lib.hid (fun W => HW.out ⟨#[8]⟩ [8] W rfl (by decide))
    rw [HV.out]
    clear HR HV HP HW hR h0 hx hu
    go_enter Try.func46, Try.ntmps46
    go_wp2_with fail
    refine (HW2.out _ (by first | exact HD.out | exact HD.out.drewN _)).mono ?_
    rintro e w2 ⟨rfl, h2⟩
    have H2 := Lib.hid h2
    clear h2 HW2 HD
    go_wp2_with fail
    exact bodyPost_ret (v := .tuple #[.int .i64 2, .int .i64 0]) (by simp [results, Try.results46, go_sem]) rfl ⟨rfl, by first | exact H2.out | exact H2.out.drewN _⟩
  by_cases hu102 : x = 102
  · subst hu102
    have HV : Hid (R = .ok [12] 2) := Lib.hid (by rw [← hR]; exact esc_letter (p := 12) hlt hx (by decide) (by decide))
    have HW2 := Lib.hid (fun W => HW.out ⟨#[12]⟩ [12] W rfl (by decide))
    rw [HV.out]
    clear HR HV HP HW hR h0 hx hu
    go_enter Try.func46, Try.ntmps46
    go_wp2_with fail
    refine (HW2.out _ (by first | exact HD.out | exact HD.out.drewN _)).mono ?_
    rintro e w2 ⟨rfl, h2⟩
    have H2 := Lib.hid h2
    clear h2 HW2 HD
    go_wp2_with fail
    exact bodyPost_ret (v := .tuple #[.int .i64 2, .int .i64 0]) (by simp [results, Try.results46, go_sem]) rfl ⟨rfl, by first | exact H2.out | exact H2.out.drewN _⟩
  by_cases hu110 : x = 110
  · subst hu110
    have HV : Hid (R = .ok [10] 2) := Lib.hid (by rw [← hR]; exact esc_letter (p := 10) hlt hx (by decide) (by decide))
    have HW2 := Lib.hid (fun W => HW.out ⟨#[10]⟩ [10] W rfl (by decide))
    rw [HV.out]
    clear HR HV HP HW hR h0 hx hu
    go_enter Try.func46, Try.ntmps46
    go_wp2_with fail
    refine (HW2.out _ (by first | exact HD.out | exact HD.out.drewN _)).mono ?_
    rintro e w2 ⟨rfl, h2⟩
    have H2 := Lib.hid h2
    clear h2 HW2 HD
    go_wp2_with fail
    exact bodyPost_ret (v := .tuple #[.int .i64 2, .int .i64 0]) (by simp [results, Try.results46, go_sem]) rfl ⟨rfl, by first | exact H2.out | exact H2.out.drewN _⟩
  by_cases hu114 : x = 114
  · subst hu114
    have HV : Hid (R = .ok [13] 2) := Lib.hid (by rw [← hR]; exact esc_letter (p := 13) hlt hx (by decide) (by decide))
    have HW2 := Lib.hid (fun W => HW.out ⟨#[13]⟩ [13] W rfl (by decide))
    rw [HV.out]
    clear HR HV HP HW hR h0 hx hu
    go_enter Try.func46, Try.ntmps46
    go_wp2_with fail
    refine (HW2.out _ (by first | exact HD.out | exact HD.out.drewN _)).mono ?_
    rintro e w2 ⟨rfl, h2⟩
    have H2 := Lib.hid h2
    clear h2 HW2 HD
    go_wp2_with fail
    exact bodyPost_ret (v := .tuple #[.int .i64 2, .int .i64 0]) (by simp [results, Try.results46, go_sem]) rfl ⟨rfl, by first | exact H2.out | exact H2.out.drewN _⟩
  by_cases hu116 : x = 116
  · subst hu116
    have HV : Hid (R = .ok [9] 2) := Lib.hid (by rw [← hR]; exact esc_letter (p := 9) hlt hx (by decide) (by decide))
    have HW2 := Lib.hid (fun W => HW.out ⟨#[9]⟩ [9] W rfl (by decide))
    rw [HV.out]
    clear HR HV HP HW hR h0 hx hu
    go_enter Try.func46, Try.ntmps46
    go_wp2_with fail
    refine (HW2.out _ (by first | exact HD.out | exact HD.out.drewN _)).mono ?_
    rintro e w2 ⟨rfl, h2⟩
    have H2 := Lib.hid h2
    clear h2 HW2 HD
    go_wp2_with fail
    exact bodyPost_ret (v := .tuple #[.int .i64 2, .int .i64 0]) (by simp [results, Try.results46, go_sem]) rfl ⟨rfl, by first | exact H2.out | exact H2.out.drewN _⟩
  have HX : Hid ((s.extract 1 2).data.toList = [UInt8.ofNat x]) := Lib.hid (by rw [one_ext hlt, ← hxx]; simp)
  by_cases hu34 : x = 34
  · subst hu34
    have HV : Hid (R = .ok [34] 2) := Lib.hid (by rw [← hR]; exact esc_letter (p := 34) hlt hx (by decide) (by decide))
    have HW2 := Lib.hid (fun W => HW.out (s.extract 1 2) [34] W HX.out (by rw [ByteArray.size_extract]; omega))
    rw [HV.out]
    clear HR HV HP HW hR h0 hx hu HX
    have g2 : (2 : Int) ≤ (s.size : Int) := by omega
    go_enter Try.func46, Try.ntmps46
    go_wp2_with fail
    refine (HW2.out _ (by first | exact HD.out | exact HD.out.drewN _)).mono ?_
    rintro e w2 ⟨rfl, h2⟩
    have H2 := Lib.hid h2
    clear h2 HW2 HD
    go_wp2_with fail
    exact bodyPost_ret (v := .tuple #[.int .i64 2, .int .i64 0]) (by simp [results, Try.results46, go_sem]) rfl ⟨rfl, by first | exact H2.out | exact H2.out.drewN _⟩
  by_cases hu92 : x = 92
  · subst hu92
    have HV : Hid (R = .ok [92] 2) := Lib.hid (by rw [← hR]; exact esc_letter (p := 92) hlt hx (by decide) (by decide))
    have HW2 := Lib.hid (fun W => HW.out (s.extract 1 2) [92] W HX.out (by rw [ByteArray.size_extract]; omega))
    rw [HV.out]
    clear HR HV HP HW hR h0 hx hu HX
    have g2 : (2 : Int) ≤ (s.size : Int) := by omega
    go_enter Try.func46, Try.ntmps46
    go_wp2_with fail
    refine (HW2.out _ (by first | exact HD.out | exact HD.out.drewN _)).mono ?_
    rintro e w2 ⟨rfl, h2⟩
    have H2 := Lib.hid h2
    clear h2 HW2 HD
    go_wp2_with fail
    exact bodyPost_ret (v := .tuple #[.int .i64 2, .int .i64 0]) (by simp [results, Try.results46, go_sem]) rfl ⟨rfl, by first | exact H2.out | exact H2.out.drewN _⟩
  by_cases hu47 : x = 47
  · subst hu47
    have HV : Hid (R = .ok [47] 2) := Lib.hid (by rw [← hR]; exact esc_letter (p := 47) hlt hx (by decide) (by decide))
    have HW2 := Lib.hid (fun W => HW.out (s.extract 1 2) [47] W HX.out (by rw [ByteArray.size_extract]; omega))
    rw [HV.out]
    clear HR HV HP HW hR h0 hx hu HX
    have g2 : (2 : Int) ≤ (s.size : Int) := by omega
    go_enter Try.func46, Try.ntmps46
    go_wp2_with fail
    refine (HW2.out _ (by first | exact HD.out | exact HD.out.drewN _)).mono ?_
    rintro e w2 ⟨rfl, h2⟩
    have H2 := Lib.hid h2
    clear h2 HW2 HD
    go_wp2_with fail
    exact bodyPost_ret (v := .tuple #[.int .i64 2, .int .i64 0]) (by simp [results, Try.results46, go_sem]) rfl ⟨rfl, by first | exact H2.out | exact H2.out.drewN _⟩
  have HV : Hid (R = .no 1 4) := Lib.hid (by
    rw [← hR]
    unfold escP
    refine bind_no ?_
    unfold one
    rw [if_neg (by omega), hx]
    have : escK x = none := by
      unfold escK pl
      repeat' split
      all_goals first | rfl | omega
    rw [this])
  rw [HV.out]
  have q98 : ((x : Int) == 98) = false := by simp; omega
  have q102 : ((x : Int) == 102) = false := by simp; omega
  have q110 : ((x : Int) == 110) = false := by simp; omega
  have q114 : ((x : Int) == 114) = false := by simp; omega
  have q116 : ((x : Int) == 116) = false := by simp; omega
  have q117 : ((x : Int) == 117) = false := by simp; omega
  have q34 : ((x : Int) == 34) = false := by simp; omega
  have q92 : ((x : Int) == 92) = false := by simp; omega
  have q47 : ((x : Int) == 47) = false := by simp; omega
  clear HR HV HP HW hR h0 hx hu HX hx256 hu98 hu102 hu110 hu114 hu116 hu34 hu92 hu47
  go_enter Try.func46, Try.ntmps46
  go_wp2_with fail
  exact bodyPost_ret (v := .tuple #[.int .i64 1, .int .i64 4]) (by simp [results, Try.results46, go_sem]) rfl ⟨rfl, by first | exact HD.out.b | exact (HD.out.drewN _).b⟩
end
end Go.Proofs.Ytaopjeobapnhbaa.nn
namespace Go.Proofs.Ytaopjeobapnhbaa.nn
open Go.RowKit

section
variable {f : Nat → Nat} {n i : Nat} {l : List UInt8}
theorem raw_sh (m : Nat) : raw (sh f i) 0 m = raw f i m := by
  unfold raw sh
  simp
theorem lp_quote (hi : i < n) (h : f i = 34) : lp inP l f n i = .ok l (i + 1) := by
  rw [lp_step body_in l (Nat.le_of_lt hi)]
  unfold inP peek
  rw [if_neg (by omega)]
  unfold elP
  rw [if_pos h, bind_ok (a := f i) (k := i + 1) (by unfold one; rw [if_neg (by omega)])]
  rfl
theorem lp_low (hi : i < n) (h : f i < 32) : lp inP l f n i = .no i 4 := by
  rw [lp_step body_in l (Nat.le_of_lt hi)]
  unfold inP peek
  rw [if_neg (by omega)]
  unfold elP
  rw [if_neg (by omega), if_pos h]
  unfold fail_
  rw [if_neg (by omega)]
theorem eslp_end : lp inP l f n n = .no n 3 := by
  rw [lp_step body_in l (Nat.le_refl n)]
  unfold inP peek
  rw [if_pos (Nat.le_refl n)]
theorem esin_esc (hi : i < n) (h : f i = 92) : inP l f n i = (escP.bind fun t => ret (.inl (l ++ t))) f n (i + 1) := by
  unfold inP peek
  rw [if_neg (by omega)]
  unfold elP
  rw [if_neg (by omega), if_neg (by omega), if_pos h, bind_ok (a := f i) (k := i + 1) (by unfold one; rw [if_neg (by omega)])]
theorem eslp_esc_ok {t : List UInt8} {k : Nat} (hi : i < n) (h : f i = 92) (he : escP (sh f i) (n - i) 1 = .ok t k) : lp inP l f n i = lp inP (l ++ t) f n (i + k) := by
  rw [lp_step body_in l (Nat.le_of_lt hi), esin_esc hi h]
  have e := shf_esc f n 1 i (Nat.le_of_lt hi)
  rw [he] at e
  rw [bind_ok e]
  rfl
theorem eslp_esc_no {q e : Nat} (hi : i < n) (h : f i = 92) (he : escP (sh f i) (n - i) 1 = .no q e) : lp inP l f n i = .no (i + q) e := by
  rw [lp_step body_in l (Nat.le_of_lt hi), esin_esc hi h]
  have e := shf_esc f n 1 i (Nat.le_of_lt hi)
  rw [he] at e
  rw [bind_no e]
theorem scan_on (hn : 0 < n) (h : f 0 = 34) : scanP f n 0 = lp inP [] f n 1 := by
  unfold scanP
  rw [bind_ok (a := 34) (k := 1) (by unfold one is_; rw [if_neg (by omega), if_pos h]; simp only [h])]
theorem scan_off (hn : 0 < n) (h : f 0 ≠ 34) : scanP f n 0 = .no 0 4 := by
  unfold scanP
  refine bind_no ?_
  unfold one is_
  rw [if_neg (by omega), if_neg h]
theorem scan_none : scanP f 0 0 = .no 0 3 := by
  unfold scanP
  refine bind_no ?_
  unfold one
  rw [if_pos (Nat.le_refl 0)]
end
theorem es_dec (s : ByteArray) : s.toList.isEmpty = decide (s.size = 0) := by
  have hz : s.data.toList.length = s.size := rfl
  rw [ByteArray.toList_eq, ← hz]
  cases s.data.toList <;> simp
theorem es_some {s : ByteArray} (h : 0 < s.size) : s.toList.isEmpty = false := by rw [es_dec]; exact decide_eq_false (by omega)
theorem es_none {s : ByteArray} (h : s.size = 0) : s.toList.isEmpty = true := by rw [es_dec]; exact decide_eq_true h
section
variable {B b : Nat} {w0 w : World}
set_option maxRecDepth 100000 in
set_option maxHeartbeats 4000000 in
theorem eread_any (s : ByteArray) (h : Sd B b [] w0 w) (hs : s.size ≤ 140737488355000) :
    Calls Try.prog 33 #[.string s, sayV b] w (SdAns B b [] (scanP (bt s) s.size 0) w0) := by
  obtain ⟨R, hR⟩ : ∃ R, scanP (bt s) s.size 0 = R := ⟨_, rfl⟩
  have HD := Lib.hid h
  rw [hR]
  clear h
  unfold sayV
  by_cases hlong : 0 < s.size ∧ bt s 0 ≠ 34
  · have HV : Hid (R = .no 0 4) := Lib.hid (by rw [← hR]; exact scan_off hlong.1 hlong.2)
    rw [HV.out]
    have hlt := hlong.1
    have hx := bt_at hlt
    obtain ⟨x, hxx⟩ : ∃ x, (s[0]).toNat = x := ⟨_, rfl⟩
    rw [hxx] at hx
    have h34 := hlong.2
    rw [hx] at h34
    have k1 : ((x : Int) != 34) = true := by simp; omega
    have hne := es_some hlt
    clear hlong hx h34 HV hR
    go_enter Try.func33, Try.ntmps33
    go_wp2_with fail
    exact bodyPost_ret (v := .tuple #[.int .i64 0, .int .i64 4]) (by simp [results, Try.results33, go_sem]) rfl ⟨rfl, HD.out.b⟩
  have hrd : (0 < s.size ∧ bt s 0 = 34) ∨ s.size = 0 := by
    by_cases h0 : 0 < s.size
    · exact .inl ⟨h0, Classical.byContradiction fun h1 => hlong ⟨h0, h1⟩⟩
    · exact .inr (by omega)
  clear hlong
  have HSt : Hid ((1 < s.size → lp inP [] (bt s) s.size 1 = R) ∧ (s.size ≤ 1 → R = .no s.size 3)) := Lib.hid (by
    rcases hrd with ⟨h0, h1⟩ | h0
    · have e := scan_on h0 h1
      rw [hR] at e
      refine ⟨fun _ => e.symm, fun h2 => ?_⟩
      have : s.size = 1 := by omega
      rw [this] at e ⊢
      rw [e]; exact eslp_end
    · refine ⟨fun h2 => absurd h2 (by omega), fun _ => ?_⟩
      rw [← hR, h0]; exact scan_none)
  by_cases hz0 : s.size = 0
  · have g0 := es_none hz0
    have HV := Lib.hid (HSt.out.2 (by omega))
    have q0 : decide ((1 : Int) < (s.size : Int)) = false := decide_eq_false (by omega)
    clear hrd hR hz0 HSt
    go_enter Try.func33, Try.ntmps33
    go_wp2_with fail
    go_loopw [6] (fun s6 wr => s6 = .int .i64 1 ∧ Hid (Sd B b [] w0 wr)) (fun _ _ => 0)
    case atStart => exact ⟨rfl, HD⟩
    case round =>
      obtain ⟨rfl, HS⟩ := hrel
      go_wp2_with fail
      exact bodyPost_ret (v := .tuple #[.int .i64 (s.size : Int), .int .i64 3]) (by simp [results, Try.results33, go_sem]) rfl (by rw [HV.out]; exact ⟨rfl, HS.out.b⟩)
  obtain ⟨g0, hl0, hx0⟩ : s.toList.isEmpty = false ∧ 0 < s.size ∧ ∀ hl : 0 < s.size, (s[0]).toNat = 34 := by
    rcases hrd with ⟨h0, h1⟩ | h0
    · refine ⟨es_some h0, h0, fun _ => ?_⟩
      rw [bt_at h0] at h1
      exact h1
    · exact absurd h0 hz0
  have hx0 := hx0 hl0
  clear hrd hR hz0
  go_enter Try.func33, Try.ntmps33
  go_wp2_with fail
  clear g0 hx0 hl0
  go_loopw [6] (fun s6 wr => ∃ (i : Nat) (l : List UInt8), s6 = .int .i64 (i : Int) ∧ i ≤ 140737488355001 ∧ Hid (i < s.size → lp inP l (bt s) s.size i = R) ∧ Hid (s.size ≤ i → R = .no s.size 3) ∧ Hid (l.length ≤ i ∧ Sd B b l w0 wr)) (fun s6 _ => s.size - (intOf s6).toNat)
  case atStart => exact ⟨1, [], rfl, by omega, Lib.hid HSt.out.1, Lib.hid HSt.out.2, Lib.hid ⟨Nat.zero_le _, HD.out⟩⟩
  case round =>
    obtain ⟨i, l, rfl, hi, HQ, HE, HS⟩ := hrel
    clear HSt HD
    by_cases hlt : i < s.size
    case neg =>
      have HV := Lib.hid (HE.out (by omega))
      have q0 : decide ((i : Int) < (s.size : Int)) = false := decide_eq_false (by omega)
      clear HQ HE
      go_wp2_with fail
      exact bodyPost_ret (v := .tuple #[.int .i64 (s.size : Int), .int .i64 3]) (by simp [results, Try.results33, go_sem]) rfl (by rw [HV.out]; exact ⟨rfl, HS.out.2.b⟩)
    have HQ1 := Lib.hid (HQ.out hlt)
    clear HQ HE
    obtain ⟨et, ez⟩ := bt_tail (s := s) (a := i) (Nat.le_of_lt hlt)
    have hx := bt_at hlt
    obtain ⟨x, hxx⟩ : ∃ x, (s[i]).toNat = x := ⟨_, rfl⟩
    rw [hxx] at hx
    have hx256 : x < 256 := by rw [← hxx]; exact s[i].toNat_lt
    have gi : (i : Int) ≤ (s.size : Int) := by omega
    by_cases hx34 : x = 34
    case pos =>
      subst hx34
      have HV : Hid (R = .ok l (i + 1)) := Lib.hid (by rw [← HQ1.out]; exact lp_quote hlt hx)
      have f1 : wrap64 ((i : Int) + 1) = (i : Int) + 1 := by unfold wrap64; omega
      clear HQ1 et ez hx
      go_wp2_with fail
      exact bodyPost_ret (v := .tuple #[.int .i64 ((i : Int) + 1), .int .i64 0]) (by simp [results, Try.results33, go_sem]) rfl (by rw [HV.out]; exact ⟨by push_cast; rfl, HS.out.2⟩)
    have q1 : ((x : Int) == 34) = false := by simp; omega
    by_cases hx32 : x < 32
    case pos =>
      have HV : Hid (R = .no i 4) := Lib.hid (by rw [← HQ1.out]; exact lp_low hlt (by rw [hx]; exact hx32))
      have q2 : decide ((x : Int) < 32) = true := decide_eq_true (by omega)
      clear HQ1 et ez hx hx34 hx32
      go_wp2_with fail
      exact bodyPost_ret (v := .tuple #[.int .i64 (i : Int), .int .i64 4]) (by simp [results, Try.results33, go_sem]) rfl (by rw [HV.out]; exact ⟨rfl, HS.out.2.b⟩)
    have q2 : decide ((x : Int) < 32) = false := decide_eq_false (by omega)
    by_cases hx92 : x = 92
    case pos =>
      subst hx92
      have hC := eescape_any (B := B) (b := b) (l := l) (w0 := w0) (w := wr) (s.extract i s.size) HS.out.2 (by omega) (by rw [et]; simp only [sh]; rw [Nat.add_zero]; exact hx) (by omega) (by have := HS.out.1; omega)
      rw [et, ez] at hC
      unfold sayV at hC
      cases hr : escP (sh (bt s) i) (s.size - i) 1 with
      | no q e =>
        have HV : Hid (R = .no (i + q) e) := Lib.hid (by rw [← HQ1.out]; exact eslp_esc_no hlt hx hr)
        have he := er_esc hr
        have hq := det_no_le det_esc (by omega) hr
        have f1 : wrap64 ((i : Int) + (q : Int)) = (i : Int) + (q : Int) := by unfold wrap64; omega
        have k1 : ((e : Int) != 0) = true := by simp; omega
        rw [hr] at hC
        have HC := Lib.hid hC
        unfold SdAns at HC
        simp only at HC
        clear hC HQ1 et ez hx hr he hx34 hx32
        go_wp2_with fail
        refine HC.out.mono ?_
        rintro r w1 ⟨rfl, h1⟩
        have H1 := Lib.hid h1
        clear h1 HC HS
        go_wp2_with fail
        exact bodyPost_ret (v := .tuple #[.int .i64 ((i : Int) + (q : Int)), .int .i64 (e : Int)]) (by simp [results, Try.results33, go_sem]) rfl (by rw [HV.out]; exact ⟨by push_cast; rfl, H1.out⟩)
      | ok t k =>
        have hd := det_esc.ok (show 1 ≤ s.size - i by omega) hr
        have hri := esc_right hr
        have HQ2 : Hid (lp inP (l ++ t) (bt s) s.size (i + k) = R) := Lib.hid (by rw [← HQ1.out]; exact (eslp_esc_ok hlt hx hr).symm)
        have f1 : wrap64 ((i : Int) + (k : Int)) = (i : Int) + (k : Int) := by unfold wrap64; omega
        have hk1 : 1 ≤ k := by omega
        have hk2 : i + k ≤ s.size := by omega
        have HL2 : Hid ((l ++ t).length ≤ i + k) := Lib.hid (by rw [List.length_append]; have := HS.out.1; have := hri.2.1; omega)
        have HE2 : Hid (s.size ≤ i + k → R = .no s.size 3) := Lib.hid fun h => by
          have e := HQ2.out
          rw [show i + k = s.size by omega, eslp_end] at e
          exact e.symm
        rw [hr] at hC
        have HC := Lib.hid hC
        unfold SdAns at HC
        simp only at HC
        clear hC HQ1 et ez hx hr hd hri hx34 hx32
        go_wp2_with fail
        refine HC.out.mono ?_
        rintro r w1 ⟨rfl, h1⟩
        have H1 := Lib.hid h1
        clear h1 HC HS
        go_wp2_with fail
        go_roundw
        case rel => exact ⟨i + k, l ++ t, by go_num, by omega, Lib.hid fun _ => HQ2.out, HE2, Lib.hid ⟨HL2.out, H1.out⟩⟩
        case measure => simp [intOf]; omega
    have q3 : ((x : Int) == 92) = false := by simp; omega
    have hpl : Pln (bt s i) := by rw [hx]; exact ⟨by omega, hx34, hx92⟩
    have HC := Lib.hid (eplain_any (B := B) (b := b) (l := l) (w0 := w0) (w := wr) (s.extract i s.size) HS.out.2 (by omega) (by have := HS.out.1; omega))
    unfold sayV PlAns at HC
    rw [et, ez] at HC
    have HST : Hid (∀ m, m ≤ s.size - i → (∀ j, j < m → Pln (sh (bt s) i j)) → (m < s.size - i → ¬ Pln (sh (bt s) i m)) → m ≠ 0 ∧ R = if ckE (sh (bt s) i) m = 0 then lp inP (l ++ raw (bt s) i m) (bt s) s.size (i + m) else .no (i + ckA (sh (bt s) i) m) (if ckE (sh (bt s) i) m = 3 ∧ m < s.size - i then 4 else ckE (sh (bt s) i) m)) := Lib.hid fun m h1 h2 h3 => by
      have e := stretch (f := bt s) (n := s.size) m i l (by omega) h2 (fun h => h3 (by omega))
      rw [HQ1.out] at e
      refine ⟨fun h0 => ?_, ?_⟩
      · subst h0
        exact h3 (by omega) (by simp only [sh]; rw [Nat.add_zero]; exact hpl)
      · rw [e]
        by_cases hz : ckE (sh (bt s) i) m = 0
        · rw [if_pos hz, if_pos hz]
        · rw [if_neg hz, if_neg hz]
          by_cases h4 : ckE (sh (bt s) i) m = 3 ∧ m < s.size - i
          · rw [if_pos h4, if_pos ⟨h4.1, by omega⟩]
          · rw [if_neg h4, if_neg (fun h5 => h4 ⟨h5.1, by omega⟩)]
    clear HQ1 et ez hx hpl hx34 hx32 hx92
    go_wp2_with fail
    refine HC.out.mono ?_
    rintro r w1 ⟨m, m1, m2, m3, hans⟩
    obtain ⟨m0, hRm⟩ := HST.out m m1 m2 m3
    clear HC m2 m3 HST
    rcases hans with ⟨hz, rfl, h1⟩ | ⟨hz, rfl, h1⟩
    · rw [if_pos hz] at hRm
      have HQ2 : Hid (lp inP (l ++ raw (bt s) i m) (bt s) s.size (i + m) = R) := Lib.hid hRm.symm
      have HL2 : Hid ((l ++ raw (bt s) i m).length ≤ i + m) := Lib.hid (by rw [List.length_append, raw_len]; have := HS.out.1; omega)
      have H1 : Hid (Sd B b (l ++ raw (bt s) i m) w0 w1) := Lib.hid (by rw [raw_sh] at h1; exact h1)
      have HE2 : Hid (s.size ≤ i + m → R = .no s.size 3) := Lib.hid fun h => by
        have e := HQ2.out
        rw [show i + m = s.size by omega, eslp_end] at e
        exact e.symm
      have f1 : wrap64 ((i : Int) + (m : Int)) = (i : Int) + (m : Int) := by unfold wrap64; omega
      clear h1 hRm hz HS
      go_wp2_with fail
      go_roundw
      case rel => exact ⟨i + m, l ++ raw (bt s) i m, by go_num, by omega, Lib.hid fun _ => HQ2.out, HE2, Lib.hid ⟨HL2.out, H1.out⟩⟩
      case measure => simp [intOf]; omega
    · rw [if_neg hz] at hRm
      have hca : ckA (sh (bt s) i) m ≤ m := sp_le
      obtain ⟨P, hP⟩ : ∃ P, ckA (sh (bt s) i) m = P := ⟨_, rfl⟩
      obtain ⟨E, hE⟩ : ∃ E, (if ckE (sh (bt s) i) m = 3 ∧ m < s.size - i then 4 else ckE (sh (bt s) i) m) = E := ⟨_, rfl⟩
      have hE0 : E ≠ 0 := by rw [← hE]; split <;> omega
      rw [hP, hE] at hRm
      rw [hP] at hca
      rw [hP, hE]
      have HV := Lib.hid hRm
      have H1 := Lib.hid h1
      have f1 : wrap64 ((i : Int) + (P : Int)) = (i : Int) + (P : Int) := by unfold wrap64; omega
      have k1 : ((E : Int) != 0) = true := by simp; omega
      clear h1 hRm hz HS hP hE hE0
      go_wp2_with fail
      exact bodyPost_ret (v := .tuple #[.int .i64 ((i : Int) + (P : Int)), .int .i64 (E : Int)]) (by simp [results, Try.results33, go_sem]) rfl (by rw [HV.out]; exact ⟨by push_cast; rfl, H1.out⟩)
end
end Go.Proofs.Ytaopjeobapnhbaa.nn
namespace Go.Proofs.Ytaopjeobapnhbaa.nn
open Go.RowKit

theorem eser_pt : Er ptP := by
  intro f n i q e h
  unfold ptP at h
  split at h
  · injection h with _ h; exact .inl h.symm
  · split at h
    · cases h
    · rename_i h0 hp
      have hp' : pok (sh f i) (n - i) = false := by simpa using hp
      injection h with _ h
      rcases pok_not hp' (by omega) with h1 | h1
      · exact .inl (h.symm.trans h1.1)
      · exact .inr (h.symm.trans h1)
theorem eser_fail {α : Type} : Er (fail_ : Prs α) := by
  intro f n i q e h
  unfold fail_ at h
  split at h
  · injection h with _ h; exact .inl h.symm
  · injection h with _ h; exact .inr h.symm
theorem eser_el (out : List UInt8) (c : Nat) : Er (elP out c) := by
  unfold elP
  split
  · exact er_bind (er_one _) fun _ => er_ret _
  · split
    · exact eser_fail
    · split
      · exact er_bind (er_one _) fun _ => er_bind er_esc fun _ => er_ret _
      · exact er_bind eser_pt fun _ => er_ret _
theorem eser_in (out : List UInt8) : Er (inP out) := by
  intro f n i q e h
  unfold inP peek at h
  split at h
  · injection h with _ h; exact .inl h.symm
  · exact eser_el out _ h
theorem eser_its {σ β : Type} {b : σ → Prs (σ ⊕ β)} (h : ∀ s, Er (b s)) : ∀ u s, Er (its b u s) := by
  intro u
  induction u with
  | zero => intro s f n i q e h; injection h with _ h; exact .inl h.symm
  | succ u ih =>
    intro s f n i q e h1
    rw [its_succ] at h1
    cases hb : b s f n i with
    | no q' e' => rw [hb] at h1; injection h1 with h2 h3; subst h2 h3; exact h s hb
    | ok x k =>
      rw [hb] at h1
      cases x with
      | inl s' => exact ih s' h1
      | inr r => cases h1
theorem eser_scan : Er scanP := er_bind (er_one _) fun _ => fun {_ _ _ _ _} h => eser_its eser_in _ _ h
set_option maxRecDepth 100000 in
set_option maxHeartbeats 4000000 in
theorem escan_any (s : ByteArray) (w : World) (hs : s.size ≤ 140737488355000) : Calls Try.prog 24 #[.string s] w (EscAns (scanP (bt s) s.size 0) w) := by
  obtain ⟨W, hW⟩ : ∃ W, w.alloc (.cells #[.pointer none, .slice none 0 0] 67) = W := ⟨_, rfl⟩
  have hb0 : Below w.heap.size w W := by rw [← hW]; exact (Below.refl _ _).alloc (Nat.le_refl _) _
  have hd : Sd w.heap.size w.heap.size [] w W := ⟨.inl ⟨Nat.le_refl _, .slice none 0 0, by rw [← hW]; exact heap_alloc_last _ _, World.ownsRow_nil _ _ _ _, fun h => by cases h⟩, hb0.size, hb0⟩
  have HC := Lib.hid (eread_any s hd hs)
  have HST : Hid (∀ l W', Sd w.heap.size w.heap.size l w W' → Calls Try.prog 36 #[.pointer (some ⟨w.heap.size, 0, none⟩)] W' fun e w' => e = .returned (.string ⟨l.toArray⟩) ∧ Below w.heap.size W' w') := Lib.hid fun l W' h => string_any w.heap.size w.heap.size l W' h.d h.lt
  have HW := Lib.hid hW
  unfold EscAns
  unfold sayV at HC
  clear hd hb0 hW
  cases hr : scanP (bt s) s.size 0 with
  | no q e =>
    have he : e ≠ 0 := by have := eser_scan hr; omega
    rw [hr] at HC
    unfold SdAns at HC
    simp only at HC
    have k1 : ((e : Int) != 0) = true := by simp; omega
    clear hr HST he
    go_enter Try.func24, Try.ntmps24
    go_wp2_with fail
    rw [HW.out]
    refine HC.out.mono ?_
    rintro r w1 ⟨rfl, h1⟩
    have H1 := Lib.hid h1
    clear h1 HC
    go_wp2_with fail
    exact bodyPost_ret (v := .tuple #[.string ⟨#[]⟩, .int .i64 (q : Int), .int .i64 (e : Int)]) (by simp [results, Try.results24, go_sem]) rfl ⟨rfl, H1.out⟩
  | ok l k =>
    rw [hr] at HC
    unfold SdAns at HC
    simp only at HC
    clear hr
    go_enter Try.func24, Try.ntmps24
    go_wp2_with fail
    rw [HW.out]
    refine HC.out.mono ?_
    rintro r w1 ⟨rfl, h1⟩
    have H1 := Lib.hid (HST.out _ _ h1)
    have H2 := Lib.hid h1.b
    clear h1 HC HST
    go_wp2_with fail
    refine H1.out.mono ?_
    rintro r w2 ⟨rfl, b2⟩
    have H3 := Lib.hid (H2.out.trans b2)
    clear b2 H1 H2
    go_wp2_with fail
    exact bodyPost_ret (v := .tuple #[.string ⟨l.toArray⟩, .int .i64 (k : Int), .int .i64 0]) (by simp [results, Try.results24, go_sem]) rfl ⟨rfl, by first | exact H3.out | exact H3.out.drew⟩
end Go.Proofs.Ytaopjeobapnhbaa.nn
namespace Go.Proofs.Ytaopjeobapnhbaa.nn
open Go.RowKit

/-- what holds at the head of twice's loop -/
def TwRel (base : Nat) (w0 wr : World) (s : Value) (i b b0 : Nat) (f : Nat → Nat) : Prop :=
  ∃ f' : Nat → Nat, wr.ownsRow base 107 1 s i (vl .u32 f' i) ∧ Below base w0 wr ∧ base ≤ wr.heap.size ∧ Lt (2 ^ 32) f' i ∧ sm (2 ^ 32) f' i + b * (2 ^ 32) ^ i = 2 * sm (2 ^ 32) f i + b0

theorem TwRel.step {base : Nat} {w0 wr w1 : World} {v : Value} {i b b0 : Nat} {f f' : Nat → Nat} (o : Obj) (hb : b ≤ 1) (h2 : Below base w0 wr) (h3 : base ≤ wr.heap.size) (h4 : Lt (2 ^ 32) f' i)
    (h6 : sm (2 ^ 32) f' i + b * (2 ^ 32) ^ i = 2 * sm (2 ^ 32) f i + b0)
    (ho : w1.ownsRow base 107 1 v (i + 1) (vl .u32 (jn f' i (fun _ => f i * 2 % 4294967296 + b)) (i + 1))) (hb1 : Below base (wr.alloc o) w1) : TwRel base w0 w1 v (i + 1) (f i / 2147483648) b0 f := by
  have hb2 := (h2.alloc h3 o).trans hb1
  have hs := hb1.size
  rw [hsz] at hs
  refine ⟨_, ho, hb2, by omega, h4.jn (m := 1) (fun _ _ => by show f i * 2 % 4294967296 + b < 2 ^ 32; omega), ?_⟩
  have e1 : sm (2 ^ 32) (fun _ => f i * 2 % 4294967296 + b) 1 = f i * 2 % 4294967296 + b := by simp [sm]
  have er : sm (2 ^ 32) f (i + 1) = sm (2 ^ 32) f i + f i * (2 ^ 32) ^ i := rfl
  rw [sm_jn, e1, er, pow_s (2 ^ 32) i]
  have e := congrArg (· * (2 ^ 32) ^ i) (show f i * 2 % 4294967296 + b + f i / 2147483648 * 2 ^ 32 = 2 * f i + b by omega)
  simp only [Nat.add_mul] at e
  have e2 : f i / 2147483648 * ((2 ^ 32) ^ i * 2 ^ 32) = f i / 2147483648 * 2 ^ 32 * (2 ^ 32) ^ i := by ac_rfl
  have e3 : 2 * (f i * (2 ^ 32) ^ i) = 2 * f i * (2 ^ 32) ^ i := by ac_rfl
  rw [e2, Nat.mul_add, e3, Nat.add_mul]
  omega

end Go.Proofs.Ytaopjeobapnhbaa.nn
namespace Go.Proofs.Ytaopjeobapnhbaa.nn
open Go.RowKit

/-- the value v is a number in memory, perhaps with zero limbs at its end; at most m limbs -/
def U (w : World) (v : Value) (X m : Nat) : Prop := ∃ A n c f, v = .slice A n c ∧ n ≤ c ∧ c ≤ maxLen ∧ Rd w .u32 A n f ∧ Lt (2 ^ 32) f n ∧ sm (2 ^ 32) f n = X ∧ n ≤ m
section
variable {w w' : World} {v u : Value} {X Y m m' : Nat}
theorem U.below (h : U w v X m) (hb : Below w.heap.size w w') : U w' v X m := by
  obtain ⟨A, n, c, f, rfl, h1, h2, h3, h4, h5, h6⟩ := h
  exact ⟨A, n, c, f, rfl, h1, h2, h3.below hb, h4, h5, h6⟩
theorem U.drewN (h : U w v X m) (j : Nat) : U (w.drewN j) v X m := by
  obtain ⟨A, n, c, f, rfl, h1, h2, h3, h4, h5, h6⟩ := h
  exact ⟨A, n, c, f, rfl, h1, h2, h3.drewN j, h4, h5, h6⟩
theorem U.alloc (h : U w v X m) (o : Obj) : U (w.alloc o) v X m := by
  obtain ⟨A, n, c, f, rfl, h1, h2, h3, h4, h5, h6⟩ := h
  exact ⟨A, n, c, f, rfl, h1, h2, h3.alloc o, h4, h5, h6⟩
theorem U.wide (h : U w v X m) (hm : m ≤ m') : U w v X m' := by
  obtain ⟨A, n, c, f, rfl, h1, h2, h3, h4, h5, h6⟩ := h
  exact ⟨A, n, c, f, rfl, h1, h2, h3, h4, h5, Nat.le_trans h6 hm⟩
theorem U.of (h : N w v X) (hX : X < 2 ^ (32 * m)) : U w v X m := by
  obtain ⟨A, n, c, f, rfl, h1⟩ := h
  refine ⟨A, n, c, f, rfl, h1.le, h1.cap, h1.rd, h1.lt, h1.val, ?_⟩
  rcases Nat.lt_or_ge m n with h2 | h2
  · obtain ⟨j, rfl⟩ : ∃ j, n = j + 1 := ⟨n - 1, by omega⟩
    rcases h1.trm with h3 | h3
    · omega
    · have h4 := sm_ge (B := 2 ^ 32) (f := f) (n := j) (by simpa using h3)
      rw [h1.val, ← Nat.pow_mul] at h4
      have h5 : 2 ^ (32 * m) ≤ 2 ^ (32 * j) := Nat.pow_le_pow_right (by decide) (by omega)
      omega
  · exact h2
end
end Go.Proofs.Ytaopjeobapnhbaa.nn
namespace Go.Proofs.Ytaopjeobapnhbaa.nn
open Go.RowKit

theorem U.lt {w : World} {v : Value} {X m : Nat} (h : U w v X m) : X < 2 ^ (32 * m) := by
  obtain ⟨A, n, c, f, rfl, h1, h2, h3, h4, h5, h6⟩ := h
  have := sm_lt h4
  rw [h5, ← Nat.pow_mul] at this
  exact Nat.lt_of_lt_of_le this (Nat.pow_le_pow_right (by decide) (by omega))
end Go.Proofs.Ytaopjeobapnhbaa.nn
namespace Go.Proofs.Ytaopjeobapnhbaa.nn
open Go.RowKit

theorem at_no {s : ByteArray} {a c : Nat} (ha : a < s.size) (h : at_ s a c = false) : ((bt s a : Int) == (c : Int)) = false := by
  have := of_decide_eq_false h
  rw [beq_eq_false_iff_ne]
  intro g
  exact this ⟨ha, by omega⟩

end Go.Proofs.Ytaopjeobapnhbaa.nn
namespace Go.Proofs.Ytaopjeobapnhbaa.nn
open Go.RowKit

/-! what a text says -/
def scD (s : ByteArray) : ByteArray := cW s ++ cF s
def scZ (s : ByteArray) : Int := plZ (cN s) (cX s) (cF s)
def scLong (s : ByteArray) : Prop := 800 < (cW s).size + (cF s).size ∨ 4 < (cX s).size
def scNeg (s : ByteArray) : Bool := at_ s 0 45
def scN (s : ByteArray) : Nat := dv (bt (scD s)) (scD s).size
def ScIs (s : ByteArray) (V E : Nat) : Prop :=
  (cOk s = false ∧ V = 0 ∧ E = 4) ∨ (cOk s = true ∧ scLong s ∧ V = 0 ∧ E = 2) ∨
  (cOk s = true ∧ ¬ scLong s ∧ (scN s = 0 ∨ scZ s < -2000) ∧ V = sB (scNeg s) ∧ E = 0) ∨
  (cOk s = true ∧ ¬ scLong s ∧ scN s ≠ 0 ∧ 2000 < scZ s ∧ V = 0 ∧ E = 8) ∨
  (cOk s = true ∧ ¬ scLong s ∧ scN s ≠ 0 ∧ -2000 ≤ scZ s ∧ scZ s ≤ 2000 ∧ ∃ b, RN (scD s) (scZ s) b ∧ V = roV (scNeg s) b ∧ E = roE b)
theorem ScIs.uniq {s : ByteArray} {V E V' E' : Nat} (h : ScIs s V E) (h' : ScIs s V' E') : V = V' ∧ E = E' := by
  rcases h with ⟨a1, a2, a3⟩ | ⟨a1, a2, a3, a4⟩ | ⟨a1, a2, a3, a4, a5⟩ | ⟨a1, a2, a3, a4, a5, a6⟩ | ⟨a1, a2, a3, a4, a5, b, hb, a6, a7⟩ <;>
  rcases h' with ⟨b1, b2, b3⟩ | ⟨b1, b2, b3, b4⟩ | ⟨b1, b2, b3, b4, b5⟩ | ⟨b1, b2, b3, b4, b5, b6⟩ | ⟨b1, b2, b3, b4, b5, b', hb', b6, b7⟩
  all_goals first
    | exact ⟨a2.trans b2.symm, a3.trans b3.symm⟩
    | exact ⟨a3.trans b3.symm, a4.trans b4.symm⟩
    | exact ⟨a4.trans b4.symm, a5.trans b5.symm⟩
    | exact ⟨a5.trans b5.symm, a6.trans b6.symm⟩
    | (have e := near_uniq (rY_pos _) hb hb'; subst e; exact ⟨a6.trans b6.symm, a7.trans b7.symm⟩)
    | (exfalso; rw [a1] at b1; cases b1; done)
    | (exfalso; exact a2 b2)
    | (exfalso; exact b2 a2)
    | (exfalso; omega)

end Go.Proofs.Ytaopjeobapnhbaa.nn
namespace Go.Proofs.Ytaopjeobapnhbaa.nn
open Go.RowKit

/-- the boxed parts of a call, at block g -/
structure Bq (w : World) (g : Nat) (neg : Bool) (Wt F : ByteArray) (ng : Bool) (X : ByteArray) (W : World) : Prop where
  c0 : W.cell? ⟨g, 0, none⟩ = some (.bool neg)
  c1 : W.cell? ⟨g, 1, none⟩ = some (.string Wt)
  c2 : W.cell? ⟨g, 2, none⟩ = some (.string F)
  c3 : W.cell? ⟨g, 3, none⟩ = some (.bool ng)
  c4 : W.cell? ⟨g, 4, none⟩ = some (.string X)
  b : Below w.heap.size w W
  z : g < W.heap.size
theorem Bq.on {w W W' : World} {g : Nat} {neg ng : Bool} {Wt F X : ByteArray} (h : Bq w g neg Wt F ng X W) (hB : Below W.heap.size W W') : Bq w g neg Wt F ng X W' :=
  ⟨(hB.cell (p := ⟨_, _, none⟩) h.z).trans h.c0, (hB.cell (p := ⟨_, _, none⟩) h.z).trans h.c1, (hB.cell (p := ⟨_, _, none⟩) h.z).trans h.c2, (hB.cell (p := ⟨_, _, none⟩) h.z).trans h.c3, (hB.cell (p := ⟨_, _, none⟩) h.z).trans h.c4, h.b.trans (hB.mono h.b.size), Nat.lt_of_lt_of_le h.z hB.size⟩
theorem Bq.drew {w W : World} {g : Nat} {neg ng : Bool} {Wt F X : ByteArray} (h : Bq w g neg Wt F ng X W) : Bq w g neg Wt F ng X W.drew := h.on (Below.drew (Below.refl _ _))
theorem Bq.new {w w1 : World} (neg ng : Bool) (Wt F X : ByteArray) (T : TypeId) (hb : Below w.heap.size w w1) : Bq w w1.heap.size neg Wt F ng X (w1.alloc (.cells #[.bool neg, .string Wt, .string F, .bool ng, .string X] T)) :=
  ⟨by simp, by simp, by simp, by simp, by simp, hb.alloc hb.size _, by simp⟩
theorem Bq.all {w W : World} {g : Nat} {neg ng : Bool} {Wt F X : ByteArray} (h : Bq w g neg Wt F ng X W) : W.cell? ⟨g, 0, none⟩ = some (.bool neg) ∧ W.cell? ⟨g, 1, none⟩ = some (.string Wt) ∧ W.cell? ⟨g, 2, none⟩ = some (.string F) ∧ W.cell? ⟨g, 3, none⟩ = some (.bool ng) ∧ W.cell? ⟨g, 4, none⟩ = some (.string X) ∧ Bq w g neg Wt F ng X W := ⟨h.c0, h.c1, h.c2, h.c3, h.c4, h⟩

end Go.Proofs.Ytaopjeobapnhbaa.nn
namespace Go.Proofs.Ytaopjeobapnhbaa.nn
open Go.RowKit

/-- the number of digits that is asked for behind the point -/
def n1 (s : ByteArray) : Nat := if cDot s then rn s (cB s + 1) else rn s (cA s)
theorem byte_of {s : ByteArray} {a : Nat} (h : a < s.size) : ∃ y, s[a].toNat = y ∧ bt s a = y ∧ y < 256 := ⟨_, rfl, bt_at h, s[a].toNat_lt⟩

end Go.Proofs.Ytaopjeobapnhbaa.nn
namespace Go.Proofs.Ytaopjeobapnhbaa.nn
open Go.RowKit

set_option maxRecDepth 100000 in
set_option maxHeartbeats 1000000 in
theorem nrun_any (s : ByteArray) (a : Nat) (w : World) (hs : s.size ≤ 4611686018427387904) (ha : a ≤ s.size) :
    Calls Try.prog 30 #[.string s, .int .i64 (a : Int)] w fun e w' => e = .returned (.int .i64 (rn s a : Int)) ∧ w = w' := by
  go_enter Try.func30, Try.ntmps30
  go_wp2
  go_loop [5] (fun s5 => ∃ i : Nat, a + i ≤ s.size ∧ s5 = .int .i64 (i : Int) ∧ Hid (dgs (fun j => bt s (a + j)) i = true)) (fun s5 => s.size - a - (intOf s5).toNat)
  case atStart => exact ⟨0, by omega, rfl, Lib.hid rfl⟩
  case round =>
    obtain ⟨i, hi, rfl, hd⟩ := hrel
    by_cases hlt : a + i < s.size
    · have hx := bt_at hlt
      obtain ⟨x, hxx⟩ : ∃ x, s[a + i].toNat = x := ⟨_, rfl⟩
      have hx256 : x < 256 := by rw [← hxx]; exact s[a + i].toNat_lt
      rw [hxx] at hx
      have t1 : ((a : Int) + (i : Int)).toNat = a + i := by omega
      by_cases hy : 48 ≤ x ∧ x ≤ 57
      · have HD : Hid (dgs (fun j => bt s (a + j)) (i + 1) = true) := Lib.hid (by rw [dgs, hd.out, hx]; exact decide_eq_true hy)
        obtain ⟨h1, h2⟩ := hy
        clear hx
        go_wp2
        go_round
        case rel => exact ⟨i + 1, by omega, by go_num, HD⟩
        case measure => simp [intOf]; omega
      · have HD : Hid (rn s a = i) := Lib.hid (dc_eq (by omega) hd.out (.inr (by show dg (bt s (a + i)) = false; rw [hx]; exact decide_eq_false hy)))
        clear hx
        by_cases h1 : 48 ≤ x
        · have h2 : 57 < x := by omega
          clear hy
          go_wp2
          go_ret
          exact ⟨ret_int (by rw [HD.out]), rfl⟩
        · clear hy
          go_wp2
          go_ret
          exact ⟨ret_int (by rw [HD.out]), rfl⟩
    · have HD : Hid (rn s a = i) := Lib.hid (dc_eq (by omega) hd.out (.inl (by omega)))
      go_wp2
      go_ret
      exact ⟨ret_int (by rw [HD.out]), rfl⟩
/-- the error of a digit that is not there -/
def nbE (s : ByteArray) (a : Nat) : Nat := if s.size ≤ a then 3 else 4
set_option maxRecDepth 100000 in
set_option maxHeartbeats 1000000 in
theorem nbad_any (s : ByteArray) (a : Nat) (w : World) (_ : s.size ≤ 4611686018427387904) (ha : a ≤ s.size) :
    Calls Try.prog 31 #[.string s, .int .i64 (a : Int)] w fun e w' => e = .returned (.tuple #[.int .i64 (a : Int), .int .i64 (nbE s a : Int)]) ∧ w = w' := by
  unfold nbE
  by_cases h : s.size ≤ a
  · obtain rfl : a = s.size := by omega
    rw [if_pos h]
    go_enter Try.func31, Try.ntmps31
    go_wp2_with fail
    go_ret2
    exact ⟨rfl, rfl⟩
  · rw [if_neg h]
    go_enter Try.func31, Try.ntmps31
    go_wp2_with fail
    go_ret2
    exact ⟨rfl, rfl⟩
/-- what is told of a number at the beginning -/
def NmAns (s : ByteArray) (w : World) (e : Ending) (w' : World) : Prop := ∃ p E : Nat, e = .returned (.tuple #[.int .i64 (p : Int), .int .i64 (E : Int)]) ∧ NmIs s p E ∧ Below w.heap.size w w'
/-- behind the whole part -/
structure Beh (s : ByteArray) (p q : Nat) : Prop where
  at_ : At s p q
  st : q = 2 ∨ q = 3 ∨ q = 5
  dg : p < s.size → q ≠ 2 → nn.dg (bt s p) = false
theorem Beh.first {s : ByteArray} {a q : Nat} (h : At s a q) (hq : q = 0 ∨ q = 1) (hn : 0 < rn s a) : ∃ q', Beh s (a + (if bt s a = 48 then 1 else rn s a)) q' ∧ (q' = 2 ∨ q' = 3) := by
  obtain ⟨h1, h2⟩ := h.first hq hn
  by_cases e : bt s a = 48
  · rw [if_pos e]
    exact ⟨2, ⟨h1 e, .inl rfl, fun _ g => absurd rfl g⟩, .inl rfl⟩
  · rw [if_neg e]
    exact ⟨3, ⟨h2 e, .inr (.inl rfl), fun hl _ => by
      rcases (rn_facts s a).2 with g | g
      · have := rn_le s a; have := h.1; omega
      · exact g⟩, .inr rfl⟩
theorem Beh.point {s : ByteArray} {p q : Nat} (h : Beh s p q) (hq : q = 2 ∨ q = 3) (hd : nn.at_ s p 46 = true) : At s (p + 1) 4 := by
  obtain ⟨h1, h2⟩ := at_le hd
  refine h.at_.step h1 h2 ?_
  rcases hq with rfl | rfl <;> rfl
theorem Beh.frac {s : ByteArray} {p : Nat} (h : At s p 4) (hn : 0 < rn s p) : Beh s (p + rn s p) 5 := by
  refine ⟨h.digits (.inl ⟨rfl, rfl⟩) hn, .inr (.inr rfl), fun hl _ => ?_⟩
  rcases (rn_facts s p).2 with g | g
  · have := rn_le s p; have := h.1; omega
  · exact g
theorem Beh.exp {s : ByteArray} {p q : Nat} (h : Beh s p q) (hd : (nn.at_ s p 101 || nn.at_ s p 69) = true) : At s (p + 1) 6 := by
  rw [Bool.or_eq_true] at hd
  have hq := h.st
  rcases hd with hd | hd
  · obtain ⟨h1, h2⟩ := at_le hd
    refine h.at_.step h1 h2 ?_
    rcases hq with rfl | rfl | rfl <;> rfl
  · obtain ⟨h1, h2⟩ := at_le hd
    refine h.at_.step h1 h2 ?_
    rcases hq with rfl | rfl | rfl <;> rfl
theorem Beh.fine {s : ByteArray} {p q : Nat} (h : Beh s p q) (hd : (nn.at_ s p 101 || nn.at_ s p 69) = false) (hp : (q = 2 ∨ q = 3) → nn.at_ s p 46 = false) : NmIs s p 0 := by
  rw [Bool.or_eq_false_iff] at hd
  refine h.at_.fine (by have := h.st; omega) h.dg (fun hl hq e => ?_) (fun hl _ => ⟨fun e => ?_, fun e => ?_⟩)
  · have := of_decide_eq_false (hp hq); exact this ⟨hl, e⟩
  · have := of_decide_eq_false hd.1; exact this ⟨hl, e⟩
  · have := of_decide_eq_false hd.2; exact this ⟨hl, e⟩
theorem At.signed {s : ByteArray} {p : Nat} (h : At s p 6) (hd : (nn.at_ s p 43 || nn.at_ s p 45) = true) : At s (p + 1) 7 := by
  rw [Bool.or_eq_true] at hd
  rcases hd with hd | hd
  · obtain ⟨h1, h2⟩ := at_le hd
    exact h.step h1 h2 rfl
  · obtain ⟨h1, h2⟩ := at_le hd
    exact h.step h1 h2 rfl
theorem At.last {s : ByteArray} {p q : Nat} (h : At s p q) (hq : q = 6 ∨ q = 7) (hn : 0 < rn s p) : NmIs s (p + rn s p) 0 := by
  refine (h.digits (.inr ⟨hq, rfl⟩) hn).fine (.inr (.inr (.inr rfl))) (fun hl _ => ?_) (fun _ g => by omega) (fun _ g => absurd rfl g)
  rcases (rn_facts s p).2 with g | g
  · have := rn_le s p; have := h.1; omega
  · exact g
theorem at_neg {s : ByteArray} : At s (cA s) (if nn.at_ s 0 45 = true then 1 else 0) := by
  unfold cA
  cases h : nn.at_ s 0 45 with
  | true =>
    obtain ⟨h1, h2⟩ := at_le h
    exact (At.zero s).step h1 h2 rfl
  | false => exact At.zero s

set_option maxRecDepth 100000 in
set_option maxHeartbeats 8000000 in
theorem nscan_any (s : ByteArray) (w : World) (hs : s.size ≤ 4611686018427387904) :
    Calls Try.prog 18 #[.string s] w (NmAns s w) := by
  have a1 := cA_le s
  have HR := Lib.hid (fun a W (ha : a ≤ s.size) => nrun_any s a W hs ha)
  have HBD := Lib.hid (fun a W (ha : a ≤ s.size) => nbad_any s a W hs ha)
  have HA0 := Lib.hid (at_neg (s := s))
  have HB0 := Lib.hid (Below.refl w.heap.size w)
  by_cases h0 : s.size = 0
  · have hr : rn s 0 = 0 := by have := rn_le s 0; omega
    have R0 := Lib.hid (fun W => HR.out 0 W (by omega))
    have B0 := Lib.hid (fun W => HBD.out 0 W (by omega))
    rw [hr] at R0
    have HN : Hid (NmIs s 0 (nbE s 0)) := Lib.hid ((At.zero s).bad (.inl rfl) hr (fun _ h => by omega) (fun h => by omega))
    obtain rfl := nil_text h0
    clear hr h0 HA0 a1 hs
    go_enter Try.func18, Try.ntmps18
    go_wp2_with fail
    refine (R0.out _).mono ?_
    rintro e w' ⟨rfl, rfl⟩
    go_wp2_with fail
    refine (B0.out _).mono ?_
    rintro e w' ⟨rfl, rfl⟩
    go_wp2_with fail
    go_ret2
    exact ⟨0, _, rfl, HN.out, HB0.out⟩
  have hpos : 0 < s.size := by omega
  obtain ⟨x, hxx, hx, hx256⟩ := byte_of hpos
  have hne := not_nil_text hpos
  have hneg : ((x : Int) == 45) = at_ s 0 45 := by
    unfold at_
    rw [hx]
    by_cases h : x = 45
    · rw [decide_eq_true ⟨hpos, h⟩]; subst h; rfl
    · rw [decide_eq_false (fun g => h g.2), beq_eq_false_iff_ne]; omega
  have hA : cA s = if at_ s 0 45 = true then 1 else 0 := rfl
  have HX0 : Hid (at_ s 0 45 = false → bt s 0 ≠ 45) := Lib.hid fun h g => of_decide_eq_false h ⟨hpos, g⟩
  obtain ⟨neg, hng⟩ : ∃ b, at_ s 0 45 = b := ⟨_, rfl⟩
  rw [hng] at hneg hA HA0 HX0
  obtain ⟨a, ha⟩ : ∃ a, cA s = a := ⟨_, rfl⟩
  rw [ha] at hA HA0 a1
  have HA := Lib.hid hA
  clear hA hx hng ha h0
  go_enter Try.func18, Try.ntmps18
  go_upto_if 12 with (fail)
  go_cut [4] (fun s4 wx => s4 = .int .i64 (a : Int) ∧ wx = w)
  case first =>
    cases neg
    all_goals
      go_wp2_with fail
      go_meet
      exact ⟨by rw [HA.out]; rfl, rfl⟩
  case rest =>
    obtain ⟨rfl, hww⟩ := hcut
    obtain rfl : w = wc := hww.symm
    clear hxx hne hneg
    obtain ⟨k0, hk0⟩ : ∃ n, rn s a = n := ⟨_, rfl⟩
    have hkl := rn_le s a
    have R0 := Lib.hid (fun W => HR.out a W a1)
    rw [hk0] at R0 hkl
    by_cases hz : k0 = 0
    · have HN : Hid (NmIs s a (nbE s a)) := Lib.hid (by
        refine HA0.out.bad (by cases neg <;> simp) (by rw [hk0, hz]) (fun g hl => ?_) (fun g => by cases neg <;> simp at g)
        cases neg with
        | true => simp at g
        | false =>
          have h := HA.out
          rw [if_neg (by decide)] at h
          rw [h]
          exact HX0.out rfl)
      have B0 := Lib.hid (fun W => HBD.out a W a1)
      subst hz
      clear hk0 HR HBD
      go_wp2_with fail
      refine (R0.out _).mono ?_
      rintro e w' ⟨rfl, rfl⟩
      go_wp2_with fail
      refine (B0.out _).mono ?_
      rintro e w' ⟨rfl, rfl⟩
      go_wp2_with fail
      go_ret2
      exact ⟨a, _, rfl, HN.out, HB0.out⟩
    · have hz' : ((k0 : Int) == 0) = false := by rw [beq_eq_false_iff_ne]; omega
      have hal : a < s.size := by omega
      obtain ⟨y, hyy, hy, hy256⟩ := byte_of hal
      have HB1 := Lib.hid (Beh.first HA0.out (by cases neg <;> simp) (show 0 < rn s a by omega))
      rw [hk0, hy] at HB1
      obtain ⟨k1, hk1⟩ : ∃ n, (if y = 48 then 1 else k0) = n := ⟨_, rfl⟩
      rw [hk1] at HB1
      have HK1 := Lib.hid hk1
      have hk1l : a + k1 ≤ s.size := by rw [← hk1]; split <;> omega
      have h48 : ((y : Int) == 48) = decide (y = 48) := by
        by_cases h : y = 48
        · subst h; rfl
        · rw [decide_eq_false h, beq_eq_false_iff_ne]; omega
      clear hk0 hk1 hy
      go_wp2_with fail
      refine (R0.out _).mono ?_
      rintro e w' ⟨rfl, rfl⟩
      go_upto_if 26 with (fail)
      clear hz'
      go_cut [5] (fun s5 wx => s5 = .int .i64 (k1 : Int) ∧ wx = w)
      case first =>
        by_cases h : y = 48
        · subst h
          go_wp2_with fail
          go_meet
          exact ⟨by rw [← HK1.out]; rfl, rfl⟩
        · rw [decide_eq_false h]
          go_wp2_with fail
          go_meet
          exact ⟨by rw [← HK1.out, if_neg h], rfl⟩
      case rest =>
        obtain ⟨rfl, hww⟩ := hcut
        obtain rfl : w = wc := hww.symm
        obtain ⟨p, hp⟩ : ∃ p, a + k1 = p := ⟨_, rfl⟩
        have kp : (a : Int) + (k1 : Int) = (p : Int) := by omega
        rw [hp] at HB1 hk1l
        obtain ⟨q, hB, hq⟩ := HB1.out
        have HQ := Lib.hid (And.intro hB hq)
        clear hyy h48 hB hq HB1 hp hz
        go_upto_region 10 with fail
        clear kp
        go_cut [39] (fun s39 wx => s39 = .bool (at_ s p 46) ∧ wx = w)
        case first =>
          by_cases hbl : p < s.size
          · obtain ⟨z, hzz, hz, hz256⟩ := byte_of hbl
            by_cases h46 : z = 46
            · subst h46
              have hdt : Hid (at_ s p 46 = true) := Lib.hid (decide_eq_true ⟨hbl, hz⟩)
              clear hz
              go_wp2_with fail
              go_meet
              exact ⟨by rw [hdt.out], rfl⟩
            · have hdt : Hid (at_ s p 46 = false) := Lib.hid (decide_eq_false (fun g => h46 (hz.symm.trans g.2)))
              have hne46 : ((z : Int) == 46) = false := by rw [beq_eq_false_iff_ne]; omega
              clear hz h46
              go_wp2_with fail
              go_meet
              exact ⟨by rw [hdt.out], rfl⟩
          · have hdt : Hid (at_ s p 46 = false) := Lib.hid (decide_eq_false (fun g => hbl g.1))
            go_wp2_with fail
            go_meet
            exact ⟨by rw [hdt.out], rfl⟩
        case rest =>
          obtain ⟨rfl, hww⟩ := hcut
          obtain rfl : w = wc := hww.symm
          go_upto_if 39 with (fail)
          go_cut [4] (fun s4 wx => (∃ c q', s4 = .int .i64 ((c : Nat) : Int) ∧ c ≤ s.size ∧ Hid (Beh s c q' ∧ ((q' = 2 ∨ q' = 3) → at_ s c 46 = false))) ∧ wx = w)
          case first =>
            cases hdt : at_ s p 46 with
            | true =>
              have hA4 := Beh.point HQ.out.1 HQ.out.2 hdt
              have h1 : p + 1 ≤ s.size := hA4.1
              have R1 := Lib.hid (fun W => HR.out (p + 1) W h1)
              have hml := rn_le s (p + 1)
              have HF := Lib.hid (fun h => Beh.frac hA4 h)
              have HZ := Lib.hid (fun h => hA4.bad (.inr (.inr (.inl rfl))) h (fun g => by omega) (fun g => by omega))
              obtain ⟨m, hm⟩ : ∃ m, rn s (p + 1) = m := ⟨_, rfl⟩
              rw [hm] at R1 hml HF HZ
              have R1' : Hid (∀ W, Calls Try.prog 30 #[.string s, .int .i64 ((p : Int) + 1)] W fun e w' => e = .returned (.int .i64 (m : Int)) ∧ W = w') := R1
              have B1' : Hid (∀ W, Calls Try.prog 31 #[.string s, .int .i64 ((p : Int) + 1)] W fun e w' => e = .returned (.tuple #[.int .i64 ((p + 1 : Nat) : Int), .int .i64 (nbE s (p + 1) : Int)]) ∧ W = w') := Lib.hid (fun W => HBD.out (p + 1) W h1)
              clear hA4 hm R1 hdt HR HBD
              by_cases hm0 : m = 0
              · have HN : Hid (NmIs s (p + 1) (nbE s (p + 1))) := Lib.hid (HZ.out hm0)
                subst hm0
                clear HZ HF
                go_wp2_with fail
                refine (R1'.out _).mono ?_
                rintro e w' ⟨rfl, rfl⟩
                go_wp2_with fail
                refine (B1'.out _).mono ?_
                rintro e w' ⟨rfl, rfl⟩
                go_wp2_with fail
                go_ret2
                exact ⟨p + 1, _, rfl, HN.out, HB0.out⟩
              · have hm' : ((m : Int) == 0) = false := by rw [beq_eq_false_iff_ne]; omega
                have HF2 := Lib.hid (HF.out (by omega))
                clear HF HZ
                go_wp2_with fail
                refine (R1'.out _).mono ?_
                rintro e w' ⟨rfl, rfl⟩
                go_wp2_with fail
                go_meet
                exact ⟨⟨p + 1 + m, 5, by go_num, by omega, Lib.hid ⟨HF2.out, fun g => by omega⟩⟩, rfl⟩
            | false =>
              have HDT := Lib.hid hdt
              clear hdt
              go_wp2_with fail
              go_meet
              exact ⟨⟨p, q, rfl, hk1l, Lib.hid ⟨HQ.out.1, fun _ => HDT.out⟩⟩, rfl⟩
          case rest =>
            obtain ⟨⟨c, q', rfl, hcs, hBQ⟩, hww⟩ := hcut
            obtain rfl : w = wc := hww.symm
            clear HQ hk1l
            go_upto_region 15 with fail
            go_cut [71] (fun s71 wx => s71 = .bool (at_ s c 101 || at_ s c 69) ∧ wx = w)
            case first =>
              by_cases hcl : c < s.size
              · obtain ⟨z, hzz, hz, hz256⟩ := byte_of hcl
                by_cases h1 : z = 101
                · subst h1
                  have hdt : Hid ((at_ s c 101 || at_ s c 69) = true) := Lib.hid (by rw [show at_ s c 101 = true from decide_eq_true ⟨hcl, hz⟩]; rfl)
                  clear hz
                  go_wp2_with fail
                  go_meet
                  exact ⟨by rw [hdt.out], rfl⟩
                · have g1 : at_ s c 101 = false := decide_eq_false (fun g => h1 (hz.symm.trans g.2))
                  have hne1 : ((z : Int) == 101) = false := by rw [beq_eq_false_iff_ne]; omega
                  by_cases h2 : z = 69
                  · subst h2
                    have hdt : Hid ((at_ s c 101 || at_ s c 69) = true) := Lib.hid (by rw [show at_ s c 69 = true from decide_eq_true ⟨hcl, hz⟩, Bool.or_true])
                    clear hz h1 g1
                    go_wp2_with fail
                    go_meet
                    exact ⟨by rw [hdt.out], rfl⟩
                  · have hdt : Hid ((at_ s c 101 || at_ s c 69) = false) := Lib.hid (by rw [g1, show at_ s c 69 = false from decide_eq_false (fun g => h2 (hz.symm.trans g.2))]; rfl)
                    have hne2 : ((z : Int) == 69) = false := by rw [beq_eq_false_iff_ne]; omega
                    clear hz h1 h2 g1
                    go_wp2_with fail
                    go_meet
                    exact ⟨by rw [hdt.out], rfl⟩
              · have hdt : Hid ((at_ s c 101 || at_ s c 69) = false) := Lib.hid (by rw [show at_ s c 101 = false from decide_eq_false (fun g => hcl g.1), show at_ s c 69 = false from decide_eq_false (fun g => hcl g.1)]; rfl)
                go_wp2_with fail
                go_meet
                exact ⟨by rw [hdt.out], rfl⟩
            case rest =>
              obtain ⟨rfl, hww⟩ := hcut
              obtain rfl : w = wc := hww.symm
              cases hE : (at_ s c 101 || at_ s c 69) with
              | false =>
                have HN : Hid (NmIs s c 0) := Lib.hid (hBQ.out.1.fine hE hBQ.out.2)
                clear hE
                go_wp2_with fail
                go_ret2
                exact ⟨c, 0, rfl, HN.out, HB0.out⟩
              | true =>
                have h6 := hBQ.out.1.exp hE
                have hc1 : c + 1 ≤ s.size := h6.1
                have H6 := Lib.hid h6
                obtain ⟨r, hr⟩ : ∃ r, c + 1 = r := ⟨_, rfl⟩
                have kr : (c : Int) + 1 = (r : Int) := by omega
                rw [hr] at H6 hc1
                clear hE h6 hr
                go_upto_region 17 with fail
                clear kr
                go_cut [89] (fun s89 wx => s89 = .bool (at_ s r 43 || at_ s r 45) ∧ wx = w)
                case first =>
                  by_cases hcl : r < s.size
                  · obtain ⟨z, hzz, hz, hz256⟩ := byte_of hcl
                    by_cases h1 : z = 43
                    · subst h1
                      have hdt : Hid ((at_ s r 43 || at_ s r 45) = true) := Lib.hid (by rw [show at_ s r 43 = true from decide_eq_true ⟨hcl, hz⟩]; rfl)
                      clear hz
                      go_wp2_with fail
                      go_meet
                      exact ⟨by rw [hdt.out], rfl⟩
                    · have g1 : at_ s r 43 = false := decide_eq_false (fun g => h1 (hz.symm.trans g.2))
                      have hne1 : ((z : Int) == 43) = false := by rw [beq_eq_false_iff_ne]; omega
                      by_cases h2 : z = 45
                      · subst h2
                        have hdt : Hid ((at_ s r 43 || at_ s r 45) = true) := Lib.hid (by rw [show at_ s r 45 = true from decide_eq_true ⟨hcl, hz⟩, Bool.or_true])
                        clear hz h1 g1
                        go_wp2_with fail
                        go_meet
                        exact ⟨by rw [hdt.out], rfl⟩
                      · have hdt : Hid ((at_ s r 43 || at_ s r 45) = false) := Lib.hid (by rw [g1, show at_ s r 45 = false from decide_eq_false (fun g => h2 (hz.symm.trans g.2))]; rfl)
                        have hne2 : ((z : Int) == 45) = false := by rw [beq_eq_false_iff_ne]; omega
                        clear hz h1 h2 g1
                        go_wp2_with fail
                        go_meet
                        exact ⟨by rw [hdt.out], rfl⟩
                  · have hdt : Hid ((at_ s r 43 || at_ s r 45) = false) := Lib.hid (by rw [show at_ s r 43 = false from decide_eq_false (fun g => hcl g.1), show at_ s r 45 = false from decide_eq_false (fun g => hcl g.1)]; rfl)
                    go_wp2_with fail
                    go_meet
                    exact ⟨by rw [hdt.out], rfl⟩
                case rest =>
                  obtain ⟨rfl, hww⟩ := hcut
                  obtain rfl : w = wc := hww.symm
                  go_upto_if 89 with (fail)
                  go_cut [4] (fun s4 wx => (∃ t q2, s4 = .int .i64 ((t : Nat) : Int) ∧ t ≤ s.size ∧ Hid (At s t q2 ∧ (q2 = 6 ∨ q2 = 7) ∧ (q2 = 6 → t < s.size → bt s t ≠ 45 ∧ bt s t ≠ 43))) ∧ wx = w)
                  case first =>
                    cases hS : (at_ s r 43 || at_ s r 45) with
                    | true =>
                      have h7 := H6.out.signed hS
                      have hr1 : r + 1 ≤ s.size := h7.1
                      have H7 := Lib.hid h7
                      clear hS h7
                      go_wp2_with fail
                      go_meet
                      exact ⟨⟨r + 1, 7, by go_num, hr1, Lib.hid ⟨H7.out, .inr rfl, fun g => by omega⟩⟩, rfl⟩
                    | false =>
                      rw [Bool.or_eq_false_iff] at hS
                      have HS := Lib.hid hS
                      clear hS
                      go_wp2_with fail
                      go_meet
                      exact ⟨⟨r, 6, rfl, hc1, Lib.hid ⟨H6.out, .inl rfl, fun _ hl => ⟨fun g => of_decide_eq_false HS.out.2 ⟨hl, g⟩, fun g => of_decide_eq_false HS.out.1 ⟨hl, g⟩⟩⟩⟩, rfl⟩
                  case rest =>
                    obtain ⟨⟨t, q2, rfl, hts, hT⟩, hww⟩ := hcut
                    obtain rfl : w = wc := hww.symm
                    have R2 := Lib.hid (fun W => HR.out t W hts)
                    have B2 := Lib.hid (fun W => HBD.out t W hts)
                    have hml := rn_le s t
                    have HZ := Lib.hid (fun h => hT.out.1.bad (by have := hT.out.2.1; omega) h (fun g => by have := hT.out.2.1; omega) hT.out.2.2)
                    have HL := Lib.hid (fun h => hT.out.1.last hT.out.2.1 h)
                    obtain ⟨m, hm⟩ : ∃ m, rn s t = m := ⟨_, rfl⟩
                    rw [hm] at R2 hml HZ HL
                    clear hm HR HBD
                    by_cases hm0 : m = 0
                    · have HN : Hid (NmIs s t (nbE s t)) := Lib.hid (HZ.out hm0)
                      subst hm0
                      clear HZ HL
                      go_wp2_with fail
                      refine (R2.out _).mono ?_
                      rintro e w' ⟨rfl, rfl⟩
                      go_wp2_with fail
                      refine (B2.out _).mono ?_
                      rintro e w' ⟨rfl, rfl⟩
                      go_wp2_with fail
                      go_ret2
                      exact ⟨t, _, rfl, HN.out, HB0.out⟩
                    · have hm' : ((m : Int) == 0) = false := by rw [beq_eq_false_iff_ne]; omega
                      have HN := Lib.hid (HL.out (by omega))
                      clear HL HZ
                      go_wp2_with fail
                      refine (R2.out _).mono ?_
                      rintro e w' ⟨rfl, rfl⟩
                      go_wp2_with fail
                      go_ret2
                      exact ⟨t + m, 0, by go_num, HN.out, HB0.out⟩
end Go.Proofs.Ytaopjeobapnhbaa.nn
