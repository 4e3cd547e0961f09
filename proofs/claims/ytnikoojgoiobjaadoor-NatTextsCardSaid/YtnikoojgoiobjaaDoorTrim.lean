/- The walk of trim at 32 bits: it returns the same place with the length that has no zero limb at the end. -/
import Derived.Test.YtnikoojgoiobjaaDoorProg
import Derived.WalkKit
import Derived.Lib.Hide
import Derived.Test.YtnikoojgoiobjaaDoorMem
namespace Go.Proofs.YtnikoojgoiobjaaDoor.nn
open Go.RowKit

theorem ret_sl {A : Option Addr} {n m c : Nat} (h : n = m) : Ending.returned (.slice A n c) = .returned (.slice A m c) := by rw [h]
theorem tr_last (f : Nat → Nat) {m : Nat} (h0 : 0 < m) (h : f (m - 1) = 0) : tr f (m - 1) = tr f m := by
  obtain ⟨j, rfl⟩ : ∃ j, m = j + 1 := ⟨m - 1, by omega⟩
  rw [Nat.add_sub_cancel] at h ⊢
  rw [tr_zero f h]
theorem tr_stop (f : Nat → Nat) {m : Nat} (h : m = 0 ∨ f (m - 1) ≠ 0) : tr f m = m := tr_of_trm f m h

set_option maxHeartbeats 400000 in
theorem trim_any (A : Option Addr) (n c : Nat) (f : Nat → Nat) (w : World) (hA : Rd w .u32 A n f) (hn : n ≤ c) (hc : c ≤ maxLen) :
    Calls Tryd.prog 30 #[.slice A n c] w fun e w' => e = .returned (.slice A (tr f n) c) ∧ w = w' := by
  unfold maxLen at hc
  go_enter Tryd.func30, Tryd.ntmps30
  go_wp2
  go_loop [0] (fun s => ∃ m : Nat, m ≤ n ∧ s = .slice A m c ∧ Hid (tr f m = tr f n)) (fun s => match s with | .slice _ m _ => m | _ => 0)
  case atStart => exact ⟨n, Nat.le_refl _, rfl, Lib.hid rfl⟩
  case round =>
    obtain ⟨m, hm, rfl, ht⟩ := hrel
    by_cases h0 : 0 < m
    · obtain ⟨b, off, rfl, _, hcell⟩ := hA (by omega)
      have hx := hcell (m - 1) (by omega)
      clear hcell
      by_cases hz : f (m - 1) = 0
      · have ht' := tr_last f h0 hz
        have H : Hid (tr f (m - 1) = tr f n) := Lib.hid (ht'.trans ht.out)
        rw [hz] at hx
        clear hz ht' ht
        go_wp2
        go_round
        case rel => exact ⟨m - 1, by omega, by go_num, H⟩
        case measure => simp; omega
      · have H := Lib.hid hz
        have hz' : 1 ≤ f (m - 1) := by omega
        clear hz
        go_wp2
        go_ret
        exact ⟨ret_sl ((tr_stop f (.inr H.out)).symm.trans ht.out), rfl⟩
    · obtain rfl : m = 0 := by omega
      go_wp2
      go_ret
      exact ⟨ret_sl ht.out, rfl⟩

end Go.Proofs.YtnikoojgoiobjaaDoor.nn
