/- The walk of pointOf: the code point of just its bytes. -/
import Derived.Test.YtakbahhoiggmhaaTakeAll
import Derived.Test.YtakbahhoiggmhaaBits
import Derived.Deep.CutBlock
namespace Go.Proofs.Ytakbahhoiggmhaa.nn
open Go.RowKit

/-- the bits of the first byte of k, and what j more bytes make of them -/
def hdv (f : Nat → Nat) (k : Nat) : Nat := if k = 1 then f 0 else f 0 % 2 ^ (7 - k)
def pv (f : Nat → Nat) (k : Nat) : Nat → Nat
  | 0 => hdv f k
  | j + 1 => pv f k j * 64 + f (j + 1) % 64

theorem pv_lt (f : Nat → Nat) (k : Nat) (h : f 0 < 256) : pv f k 0 < 256 ∧ pv f k 1 < 256 * 64 ∧ pv f k 2 < 256 * 64 * 64 ∧ pv f k 3 < 256 * 64 * 64 * 64 := by
  have h0 : pv f k 0 < 256 := by
    unfold pv hdv
    split
    · exact h
    · exact Nat.lt_of_le_of_lt (Nat.mod_le _ _) h
  have h1 : pv f k 1 = pv f k 0 * 64 + f 1 % 64 := rfl
  have h2 : pv f k 2 = pv f k 1 * 64 + f 2 % 64 := rfl
  have h3 : pv f k 3 = pv f k 2 * 64 + f 3 % 64 := rfl
  omega

theorem pv_le (f : Nat → Nat) (k : Nat) (h : f 0 < 256) {j : Nat} (hj : j < 4) : pv f k j < 67108864 := by
  have := pv_lt f k h
  match j, hj with
  | 0, _ | 1, _ | 2, _ | 3, _ => omega
theorem hd_mask {x k : Nat} (hx : x < 256) (h2 : 2 ≤ k) (h4 : k ≤ 4) : bits .and .i64 (x : Int) (127 / 2 ^ k) = ((x % 2 ^ (7 - k) : Nat) : Int) := by
  match k, h2, h4 with
  | 2, _, _ => exact (i64_and_nat x 31 (by omega) (by decide)).trans (by rw [and_mask x 5])
  | 3, _, _ => exact (i64_and_nat x 15 (by omega) (by decide)).trans (by rw [and_mask x 4])
  | 4, _, _ => exact (i64_and_nat x 7 (by omega) (by decide)).trans (by rw [and_mask x 3])

set_option maxRecDepth 100000 in
set_option maxHeartbeats 1000000 in
theorem pointOf_any (s : ByteArray) (w : World) (h1 : 1 ≤ s.size) (h4 : s.size ≤ 4) :
    Calls Try.prog 27 #[.string s] w fun r w' => r = .returned (.int .i64 (pv (bt s) s.size (s.size - 1) : Int)) ∧ w = w' := by
  have h0 : bt s 0 = (s[0]'(by omega)).toNat := bt_at (by omega)
  have hx := bt_lt s 0
  have E1 : wrap64 ((s[0]'(by omega)).toNat : Int) = (bt s 0 : Int) := by rw [← h0]; exact wrap64_nat (by omega)
  by_cases hk : s.size = 1
  · have E2 : pv (bt s) 1 0 = bt s 0 := rfl
    rw [hk]
    have H2 := Lib.hid E2
    clear E2 h0
    go_enter Try.func27, Try.ntmps27
    go_wp2
    go_loop [3, 4] (fun s3 s4 => s3 = .int .i64 (bt s 0 : Int) ∧ s4 = .int .i64 1) (fun _ _ => 0)
    case atStart => exact ⟨by rw [E1], rfl⟩
    case round =>
      obtain ⟨rfl, rfl⟩ := hrel
      go_wp2
      go_ret
      exact ⟨ret_n H2.out.symm, rfl⟩
  · have E2 : bits .and .i64 (bt s 0 : Int) (127 / 2 ^ s.size) = (pv (bt s) s.size 0 : Int) := by
      rw [hd_mask hx (by omega) h4]
      unfold pv hdv
      rw [if_neg hk]
    clear h0
    go_enter Try.func27, Try.ntmps27
    go_wp2
    clear E1 E2
    go_loop [3, 4] (fun s3 s4 => ∃ j : Nat, j < s.size ∧ s3 = .int .i64 (pv (bt s) s.size j : Int) ∧ s4 = .int .i64 ((j : Int) + 1)) (fun _ s4 => s.size - (intOf s4).toNat)
    case atStart => exact ⟨0, by omega, rfl, rfl⟩
    case round =>
      obtain ⟨j, hj, rfl, rfl⟩ := hrel
      by_cases hlt : j + 1 < s.size
      · have hb := bt_at hlt
        have hbl := bt_lt s (j + 1)
        have hv := pv_le (bt s) s.size hx (j := j) (by omega)
        have H3 : Hid (pv (bt s) s.size (j + 1) = pv (bt s) s.size j * 64 + bt s (j + 1) % 64) := Lib.hid rfl
        obtain ⟨b, hbb⟩ : ∃ b, bt s (j + 1) = b := ⟨_, rfl⟩
        obtain ⟨v, hvv⟩ : ∃ v, pv (bt s) s.size j = v := ⟨_, rfl⟩
        rw [hbb] at hb hbl
        rw [hvv] at hv
        have E3 : s[j + 1].toNat = b := hb.symm
        have E4 : bits .and .u8 (b : Int) 63 = (b : Int) % 64 := u8_63 b hbl
        have hq : b % 64 < 64 := Nat.mod_lt _ (by decide)
        have E6 : bits .or .i64 ((v : Int) * 64) ((b : Int) % 64) = ((v * 64 + b % 64 : Nat) : Int) := i64_join v (b % 64) (Nat.lt_trans hv (by decide)) hq
        have E5 : wrap64 ((b : Int) % 64) = (b : Int) % 64 := wrap64_nat (Nat.lt_trans hq (by decide))
        have HV := Lib.hid (And.intro hbb hvv)
        rw [hvv]
        clear hb hbb hvv
        go_wp2
        clear E5 E4 E6
        go_round
        case rel => exact ⟨j + 1, hlt, by rw [H3.out, HV.out.1, HV.out.2]; first | rfl | go_num, by go_num⟩
        case measure => simp [intOf]; omega
      · obtain rfl : j = s.size - 1 := by omega
        go_wp2
        go_ret
        exact ⟨rfl, rfl⟩
end Go.Proofs.Ytakbahhoiggmhaa.nn
