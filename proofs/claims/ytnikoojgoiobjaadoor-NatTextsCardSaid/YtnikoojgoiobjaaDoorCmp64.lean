/- The walks of trim and compare at 64 bits. -/
import Derived.Test.YtnikoojgoiobjaaDoorCmp
namespace Go.Proofs.YtnikoojgoiobjaaDoor.nn
open Go.RowKit

set_option maxHeartbeats 400000 in
theorem trim64_any (A : Option Addr) (n c : Nat) (f : Nat → Nat) (w : World) (hA : Rd w .u64 A n f) (hn : n ≤ c) (hc : c ≤ maxLen) :
    Calls Tryd.prog 49 #[.slice A n c] w fun e w' => e = .returned (.slice A (tr f n) c) ∧ w = w' := by
  unfold maxLen at hc
  go_enter Tryd.func49, Tryd.ntmps49
  go_wp2
  go_loop [0] (fun s => ∃ m : Nat, m ≤ n ∧ s = .slice A m c ∧ Hid (tr f m = tr f n)) (fun s => match s with | .slice _ m _ => m | _ => 0)
  case atStart => exact ⟨n, Nat.le_refl _, rfl, Lib.hid rfl⟩
  case round =>
    obtain ⟨m, hm, rfl, ht⟩ := hrel
    by_cases h0 : 0 < m
    · obtain ⟨b, off, rfl, _, hcell⟩ := hA (by omega)
      have hx := hcell (m - 1) (by omega)
      clear hcell
      by_cases hz : f (m - 1) = 0
      · have ht' := tr_last f h0 hz
        have H : Hid (tr f (m - 1) = tr f n) := Lib.hid (ht'.trans ht.out)
        rw [hz] at hx
        clear hz ht' ht
        go_wp2
        go_round
        case rel => exact ⟨m - 1, by omega, by go_num, H⟩
        case measure => simp; omega
      · have H := Lib.hid hz
        have hz' : 1 ≤ f (m - 1) := by omega
        clear hz
        go_wp2
        go_ret
        exact ⟨ret_sl ((tr_stop f (.inr H.out)).symm.trans ht.out), rfl⟩
    · obtain rfl : m = 0 := by omega
      go_wp2
      go_ret
      exact ⟨ret_sl ht.out, rfl⟩
end Go.Proofs.YtnikoojgoiobjaaDoor.nn
