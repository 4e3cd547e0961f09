/- The walks of trim and compare at 64 bits. -/
import Derived.Test.YtfdgpfkjpjhmjaaCmp
namespace Go.Proofs.Ytfdgpfkjpjhmjaa.nn
open Go.RowKit

set_option maxHeartbeats 400000 in
theorem trim64_any (A : Option Addr) (n c : Nat) (f : Nat → Nat) (w : World) (hA : Rd w .u64 A n f) (hn : n ≤ c) (hc : c ≤ maxLen) :
    Calls Try.prog 66 #[.slice A n c] w fun e w' => e = .returned (.slice A (tr f n) c) ∧ w = w' := by
  unfold maxLen at hc
  go_enter Try.func66, Try.ntmps66
  go_wp2
  go_loop [0] (fun s => ∃ m : Nat, m ≤ n ∧ s = .slice A m c ∧ Hid (tr f m = tr f n)) (fun s => match s with | .slice _ m _ => m | _ => 0)
  case atStart => exact ⟨n, Nat.le_refl _, rfl, Lib.hid rfl⟩
  case round =>
    obtain ⟨m, hm, rfl, ht⟩ := hrel
    by_cases h0 : 0 < m
    · obtain ⟨b, off, rfl, _, hcell⟩ := hA (by omega)
      have hx := hcell (m - 1) (by omega)
      clear hcell
      by_cases hz : f (m - 1) = 0
      · have ht' := tr_last f h0 hz
        have H : Hid (tr f (m - 1) = tr f n) := Lib.hid (ht'.trans ht.out)
        rw [hz] at hx
        clear hz ht' ht
        go_wp2
        go_round
        case rel => exact ⟨m - 1, by omega, by go_num, H⟩
        case measure => simp; omega
      · have H := Lib.hid hz
        have hz' : 1 ≤ f (m - 1) := by omega
        clear hz
        go_wp2
        go_ret
        exact ⟨ret_sl ((tr_stop f (.inr H.out)).symm.trans ht.out), rfl⟩
    · obtain rfl : m = 0 := by omega
      go_wp2
      go_ret
      exact ⟨ret_sl ht.out, rfl⟩
set_option maxHeartbeats 400000 in
theorem compare64_any (A B : Option Addr) (n m c d : Nat) (f g : Nat → Nat) (w : World) (hA : Rd w .u64 A n f) (hB : Rd w .u64 B m g)
    (lf : Lt (2 ^ 64) f n) (lg : Lt (2 ^ 64) g m) (tf : Trm f n) (tg : Trm g m) (hn : n ≤ maxLen) (hm : m ≤ maxLen) :
    Calls Try.prog 60 #[.slice A n c, .slice B m d] w fun e w' => e = .returned (.int .i64 (cm (sm (2 ^ 64) f n) (sm (2 ^ 64) g m))) ∧ ∃ j, w' = w.drewN j := by
  unfold maxLen at hn hm
  rcases Nat.lt_trichotomy n m with h | h | h
  · have H := Lib.hid (cm_lt (sm_len (by decide) lf tg h))
    clear tf tg lf lg hA hB
    go_enter Try.func60, Try.ntmps60
    go_wp2
    go_ret
    exact ⟨ret_int H.out.symm, 0, rfl⟩
  · subst h
    clear tf tg
    have lf' := Lib.hid lf
    have lg' := Lib.hid lg
    clear lf lg
    go_enter Try.func60, Try.ntmps60
    go_wp2
    go_loopw [5] (fun s wr => ∃ t : Nat, t ≤ n ∧ s = .int .i64 ((t : Int) - 1) ∧ Hid (∀ i, t ≤ i → i < n → f i = g i) ∧ ∃ j, wr = w.drewN j) (fun s _ => (intOf s + 1).toNat)
    case atStart => exact ⟨n, Nat.le_refl _, rfl, Lib.hid (fun i h1 h2 => absurd h1 (by omega)), 0, rfl⟩
    case round =>
      obtain ⟨t, ht, rfl, hs, j, rfl⟩ := hrel
      by_cases h0 : 0 < t
      · obtain ⟨b, off, rfl, _, hcell⟩ := hA (by omega)
        have hx := hcell (t - 1) (by omega)
        obtain ⟨b', off', rfl, _, hcell'⟩ := hB (by omega)
        have hy := hcell' (t - 1) (by omega)
        clear hcell hcell' hA hB
        rcases Nat.lt_trichotomy (f (t - 1)) (g (t - 1)) with h | h | h
        · have H := Lib.hid (cm_lt (sm_top lf'.out (by omega) (fun i h1 h2 => hs.out i (by omega) h2) h))
          have hb : ((f (t - 1) : Int) != (g (t - 1) : Int)) = true := by rw [bne_iff_ne]; omega
          go_wp2
          go_quiet (fail)
          go_wp2
          go_quiet (fail)
          go_wp2
          go_ret
          exact ⟨ret_int H.out.symm, dr3 _ _ _ _⟩
        · have H : Hid (∀ i, t - 1 ≤ i → i < n → f i = g i) := Lib.hid (fun i h1 h2 => by
            by_cases e : i = t - 1
            · rw [e]; exact h
            · exact hs.out i (by omega) h2)
          rw [← h] at hy
          clear h
          go_wp2
          go_quiet (fail)
          go_wp2
          go_roundw
          case rel => exact ⟨t - 1, by omega, by go_num, H, _, rfl⟩
          case measure => simp [intOf]; omega
        · have H := Lib.hid (cm_gt (sm_top lg'.out (by omega) (fun i h1 h2 => (hs.out i (by omega) h2).symm) h))
          have hb : ((f (t - 1) : Int) != (g (t - 1) : Int)) = true := by rw [bne_iff_ne]; omega
          go_wp2
          go_quiet (fail)
          go_wp2
          go_quiet (fail)
          go_wp2
          go_ret
          exact ⟨ret_int H.out.symm, dr3 _ _ _ _⟩
      · obtain rfl : t = 0 := by omega
        have H := Lib.hid (cm_eq (sm_congr (2 ^ 64) (fun i hi => hs.out i (by omega) hi)))
        go_wp2
        go_ret
        exact ⟨ret_int H.out.symm, _, rfl⟩
  · have H := Lib.hid (cm_gt (sm_len (by decide) lg tf h))
    clear tf tg lf lg hA hB
    go_enter Try.func60, Try.ntmps60
    go_wp2
    go_ret
    exact ⟨ret_int H.out.symm, 0, rfl⟩
end Go.Proofs.Ytfdgpfkjpjhmjaa.nn
