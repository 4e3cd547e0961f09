/- The walks of the document's widths, Parts, Class. -/
import Derived.Test.YtkgejncolchobaaProg
import Derived.WalkKit
import Derived.Lib.Hide
import Derived.Deep.QuietTactic
import Derived.BigQuiet
import Derived.IntWalk
import Derived.Test.YtkgejncolchobaaBits
import Derived.Test.YtkgejncolchobaaFb
namespace Go.Proofs.Ytkgejncolchobaa.nn
open Go.RowKit

theorem ne_int {c k : Int} (h : c ≠ k) : (c == k) = false := by simp [h]
set_option maxRecDepth 100000 in
theorem widths_any (k : Nat) (w : World) (hk : k = 16 ∨ k = 32 ∨ k = 64) :
    Calls Try.prog 29 #[.int .i64 (k : Int)] w fun e w' => e = .returned (.tuple #[.int .i64 (xb k : Int), .int .i64 (fb k : Int)]) ∧ w = w' := by
  rcases hk with rfl | rfl | rfl
  all_goals
    go_enter Try.func29, Try.ntmps29
    go_wp2
    go_ret2
    exact ⟨rfl, rfl⟩
set_option maxRecDepth 100000 in
theorem widths_no (k : Int) (w : World) (hk : ¬ wOk k) :
    Calls Try.prog 29 #[.int .i64 k] w fun e w' => e = .returned (.tuple #[.int .i64 0, .int .i64 0]) ∧ w = w' := by
  unfold wOk at hk
  have q0 := ne_int (c := k) (k := 16) (by omega)
  have q1 := ne_int (c := k) (k := 32) (by omega)
  have q2 := ne_int (c := k) (k := 64) (by omega)
  clear hk
  go_enter Try.func29, Try.ntmps29
  go_wp2
  go_ret2
  exact ⟨rfl, rfl⟩
def PaAns (w : Int) (x : Nat) (W : World) (e : Ending) (W' : World) : Prop := e = .returned (.tuple #[.bool (paS w x), .int .i64 (paX w x : Int), .int .u64 (paF w x : Int), .int .i64 (paE w x : Int)]) ∧ ∃ n, W' = W.drewN n
theorem beq_nat_div {x d : Nat} : ((x : Int) / (d : Int) == 1) = decide (x / d = 1) := by
  rw [← Int.natCast_ediv]
  by_cases h : x / d = 1
  · rw [h]; rfl
  · rw [decide_eq_false h]; simp; omega
theorem pa_fin {k : Nat} {x : Nat} {b : Bool} {i j : Int} (h : fits (k : Int) x) (h1 : b = sg k x) (h2 : i = (ex k x : Int)) (h3 : j = (fr k x : Int)) :
    Ending.returned (.tuple #[.bool b, .int .i64 i, .int .u64 j, .int .i64 0]) = .returned (.tuple #[.bool (paS (k : Int) x), .int .i64 (paX (k : Int) x : Int), .int .u64 (paF (k : Int) x : Int), .int .i64 (paE (k : Int) x : Int)]) := by
  unfold paS paX paF paE
  rw [if_pos h, if_pos h, if_pos h, if_pos h, Int.toNat_natCast, h1, h2, h3]
  rfl
theorem pa_no {k : Int} {x : Nat} (h : ¬ fits k x) : Ending.returned (.tuple #[.bool false, .int .i64 0, .int .u64 0, .int .i64 1]) = .returned (.tuple #[.bool (paS k x), .int .i64 (paX k x : Int), .int .u64 (paF k x : Int), .int .i64 (paE k x : Int)]) := by
  unfold paS paX paF paE
  rw [if_neg h, if_neg h, if_neg h, if_neg h]
  rfl
set_option maxRecDepth 100000 in
set_option maxHeartbeats 1000000 in
theorem rparts_any (k : Int) (x : Nat) (w : World) (hx : x < 18446744073709551616) :
    Calls Try.prog 13 #[.int .i64 k, .int .u64 (x : Int)] w (PaAns k x w) := by
  by_cases hk : wOk k
  · unfold wOk at hk
    rcases hk with rfl | rfl | rfl
    · have HW := Lib.hid (fun w => widths_any 16 w (by omega))
      rw [show xb 16 = 5 from rfl, show fb 16 = 10 from rfl] at HW
      by_cases h : x < 65536
      · have q1 : ((x : Int) / 65536 != 0) = false := by simp; omega
        have hok : fits (16 : Int) x := ⟨by unfold wOk; omega, fun _ => h⟩
        have hd : ((x : Int) / 32768 == 1) = sg 16 x := by
          unfold sg
          rw [show xb 16 + fb 16 = 15 from rfl, show (2 : Nat) ^ 15 = 32768 from rfl]
          exact beq_nat_div
        have hm : bits .and .i64 ((x : Int) / 1024) 31 = (ex 16 x : Int) := by
          unfold ex
          rw [show xb 16 = 5 from rfl, show fb 16 = 10 from rfl, show (2 : Nat) ^ 10 = 1024 from rfl]
          rw [show ((x : Int) / 1024) = ((x / 1024 : Nat) : Int) by omega]
          exact (i64_and_nat (x / 1024) 31 (by omega) (by decide)).trans (by rw [and_mask (x / 1024) 5])
        have hf : bits .and .u64 (x : Int) 1023 = (fr 16 x : Int) := by
          unfold fr
          rw [show fb 16 = 10 from rfl]
          exact (u64_and_nat x 1023 (by omega) (by decide)).trans (by rw [and_mask x 10])
        have HD := Lib.hid hd
        have HM := Lib.hid hm
        have HF := Lib.hid hf
        have HOK := Lib.hid hok
        clear hd hm hf hok
        go_enter Try.func13, Try.ntmps13
        go_wp2_with fail
        refine (HW.out _).mono ?_
        rintro e w1 ⟨rfl, rfl⟩
        go_wp2_with fail
        clear q1
        go_quiet (fail)
        go_wp2_with fail
        exact bodyPost_ret (v := .tuple #[.bool ((x : Int) / 32768 == 1), .int .i64 (bits .and .i64 ((x : Int) / 1024) 31), .int .u64 (bits .and .u64 (x : Int) 1023), .int .i64 0]) (by simp [results, Try.results13, go_sem]) rfl ⟨pa_fin HOK.out HD.out HM.out HF.out, nq, rfl⟩
      · have q1 : ((x : Int) / 65536 != 0) = true := by simp; omega
        have HNO : Hid (¬ fits (16 : Int) x) := Lib.hid fun h' => h (h'.2 (by decide))
        go_enter Try.func13, Try.ntmps13
        go_wp2_with fail
        refine (HW.out _).mono ?_
        rintro e w1 ⟨rfl, rfl⟩
        go_wp2_with fail
        exact bodyPost_ret (v := .tuple #[.bool false, .int .i64 0, .int .u64 0, .int .i64 1]) (by simp [results, Try.results13, go_sem]) rfl ⟨pa_no HNO.out, 0, rfl⟩
    · have HW := Lib.hid (fun w => widths_any 32 w (by omega))
      rw [show xb 32 = 8 from rfl, show fb 32 = 23 from rfl] at HW
      by_cases h : x < 4294967296
      · have q1 : ((x : Int) / 4294967296 != 0) = false := by simp; omega
        have hok : fits (32 : Int) x := ⟨by unfold wOk; omega, fun _ => h⟩
        have hd : ((x : Int) / 2147483648 == 1) = sg 32 x := by
          unfold sg
          rw [show xb 32 + fb 32 = 31 from rfl, show (2 : Nat) ^ 31 = 2147483648 from rfl]
          exact beq_nat_div
        have hm : bits .and .i64 ((x : Int) / 8388608) 255 = (ex 32 x : Int) := by
          unfold ex
          rw [show xb 32 = 8 from rfl, show fb 32 = 23 from rfl, show (2 : Nat) ^ 23 = 8388608 from rfl]
          rw [show ((x : Int) / 8388608) = ((x / 8388608 : Nat) : Int) by omega]
          exact (i64_and_nat (x / 8388608) 255 (by omega) (by decide)).trans (by rw [and_mask (x / 8388608) 8])
        have hf : bits .and .u64 (x : Int) 8388607 = (fr 32 x : Int) := by
          unfold fr
          rw [show fb 32 = 23 from rfl]
          exact (u64_and_nat x 8388607 (by omega) (by decide)).trans (by rw [and_mask x 23])
        have HD := Lib.hid hd
        have HM := Lib.hid hm
        have HF := Lib.hid hf
        have HOK := Lib.hid hok
        clear hd hm hf hok
        go_enter Try.func13, Try.ntmps13
        go_wp2_with fail
        refine (HW.out _).mono ?_
        rintro e w1 ⟨rfl, rfl⟩
        go_wp2_with fail
        clear q1
        go_quiet (fail)
        go_wp2_with fail
        exact bodyPost_ret (v := .tuple #[.bool ((x : Int) / 2147483648 == 1), .int .i64 (bits .and .i64 ((x : Int) / 8388608) 255), .int .u64 (bits .and .u64 (x : Int) 8388607), .int .i64 0]) (by simp [results, Try.results13, go_sem]) rfl ⟨pa_fin HOK.out HD.out HM.out HF.out, nq, rfl⟩
      · have q1 : ((x : Int) / 4294967296 != 0) = true := by simp; omega
        have HNO : Hid (¬ fits (32 : Int) x) := Lib.hid fun h' => h (h'.2 (by decide))
        go_enter Try.func13, Try.ntmps13
        go_wp2_with fail
        refine (HW.out _).mono ?_
        rintro e w1 ⟨rfl, rfl⟩
        go_wp2_with fail
        exact bodyPost_ret (v := .tuple #[.bool false, .int .i64 0, .int .u64 0, .int .i64 1]) (by simp [results, Try.results13, go_sem]) rfl ⟨pa_no HNO.out, 0, rfl⟩
    · have HW := Lib.hid (fun w => widths_any 64 w (by omega))
      rw [show xb 64 = 11 from rfl, show fb 64 = 52 from rfl] at HW
      have hok : fits (64 : Int) x := ⟨by unfold wOk; omega, fun h => absurd h (by decide)⟩
      have hd : ((x : Int) / 9223372036854775808 == 1) = sg 64 x := by
        unfold sg
        rw [show xb 64 + fb 64 = 63 from rfl, show (2 : Nat) ^ 63 = 9223372036854775808 from rfl]
        exact beq_nat_div
      have hm : bits .and .i64 ((x : Int) / 4503599627370496) 2047 = (ex 64 x : Int) := by
        unfold ex
        rw [show xb 64 = 11 from rfl, show fb 64 = 52 from rfl, show (2 : Nat) ^ 52 = 4503599627370496 from rfl]
        rw [show ((x : Int) / 4503599627370496) = ((x / 4503599627370496 : Nat) : Int) by omega]
        exact (i64_and_nat (x / 4503599627370496) 2047 (by omega) (by decide)).trans (by rw [and_mask (x / 4503599627370496) 11])
      have hf : bits .and .u64 (x : Int) 4503599627370495 = (fr 64 x : Int) := by
        unfold fr
        rw [show fb 64 = 52 from rfl]
        exact (u64_and_nat x 4503599627370495 (by omega) (by decide)).trans (by rw [and_mask x 52])
      have HD := Lib.hid hd
      have HM := Lib.hid hm
      have HF := Lib.hid hf
      have HOK := Lib.hid hok
      clear hd hm hf hok
      go_enter Try.func13, Try.ntmps13
      go_wp2_with fail
      refine (HW.out _).mono ?_
      rintro e w1 ⟨rfl, rfl⟩
      go_wp2_with fail
      go_quiet (fail)
      go_wp2_with fail
      exact bodyPost_ret (v := .tuple #[.bool ((x : Int) / 9223372036854775808 == 1), .int .i64 (bits .and .i64 ((x : Int) / 4503599627370496) 2047), .int .u64 (bits .and .u64 (x : Int) 4503599627370495), .int .i64 0]) (by simp [results, Try.results13, go_sem]) rfl ⟨pa_fin HOK.out HD.out HM.out HF.out, nq, rfl⟩
  · have HW := Lib.hid (fun w => widths_no k w hk)
    have HNO : Hid (¬ fits k x) := Lib.hid fun h' => hk h'.1
    clear hk
    go_enter Try.func13, Try.ntmps13
    go_wp2_with fail
    refine (HW.out _).mono ?_
    rintro e w1 ⟨rfl, rfl⟩
    go_wp2_with fail
    exact bodyPost_ret (v := .tuple #[.bool false, .int .i64 0, .int .u64 0, .int .i64 1]) (by simp [results, Try.results13, go_sem]) rfl ⟨pa_no HNO.out, 0, rfl⟩
end Go.Proofs.Ytkgejncolchobaa.nn
