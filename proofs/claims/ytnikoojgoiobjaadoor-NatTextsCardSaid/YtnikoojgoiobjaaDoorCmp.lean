/- The walks of compare and Cmp at 32 bits: -1, 0, 1 as the values of the two numbers compare. -/
import Derived.Test.YtnikoojgoiobjaaDoorTrim
import Derived.Deep.QuietTactic
import Derived.BigQuiet
import Derived.Deep.RegionHeld3
namespace Go.Proofs.YtnikoojgoiobjaaDoor.nn
open Go.RowKit

/-- how two numbers compare -/
def cm (a b : Nat) : Int := if a < b then -1 else if a = b then 0 else 1
theorem cm_lt {a b : Nat} (h : a < b) : cm a b = -1 := by simp [cm, h]
theorem cm_gt {a b : Nat} (h : b < a) : cm a b = 1 := by rw [cm, if_neg (by omega), if_neg (by omega)]
theorem cm_eq {a b : Nat} (h : a = b) : cm a b = 0 := by rw [cm, if_neg (by omega), if_pos h]
theorem dr3 (w : World) (a b c : Nat) : ∃ j, ((w.drewN a).drewN b).drewN c = w.drewN j := ⟨a + b + c, by rw [World.drewN_drewN, World.drewN_drewN, Nat.add_assoc]⟩
theorem ret_int {k : IntKind} {a b : Int} (h : a = b) : Ending.returned (.int k a) = .returned (.int k b) := by rw [h]

set_option maxHeartbeats 400000 in
theorem compare_any (A B : Option Addr) (n m c d : Nat) (f g : Nat → Nat) (w : World) (hA : Rd w .u32 A n f) (hB : Rd w .u32 B m g)
    (lf : Lt (2 ^ 32) f n) (lg : Lt (2 ^ 32) g m) (tf : Trm f n) (tg : Trm g m) (hn : n ≤ maxLen) (hm : m ≤ maxLen) :
    Calls Tryd.prog 43 #[.slice A n c, .slice B m d] w fun e w' => e = .returned (.int .i64 (cm (sm (2 ^ 32) f n) (sm (2 ^ 32) g m))) ∧ ∃ j, w' = w.drewN j := by
  unfold maxLen at hn hm
  rcases Nat.lt_trichotomy n m with h | h | h
  · have H := Lib.hid (cm_lt (sm_len (by decide) lf tg h))
    clear tf tg lf lg hA hB
    go_enter Tryd.func43, Tryd.ntmps43
    go_wp2
    go_ret
    exact ⟨ret_int H.out.symm, 0, rfl⟩
  · subst h
    clear tf tg
    have lf' := Lib.hid lf
    have lg' := Lib.hid lg
    clear lf lg
    go_enter Tryd.func43, Tryd.ntmps43
    go_wp2
    go_loopw [5] (fun s wr => ∃ t : Nat, t ≤ n ∧ s = .int .i64 ((t : Int) - 1) ∧ Hid (∀ i, t ≤ i → i < n → f i = g i) ∧ ∃ j, wr = w.drewN j) (fun s _ => (intOf s + 1).toNat)
    case atStart => exact ⟨n, Nat.le_refl _, rfl, Lib.hid (fun i h1 h2 => absurd h1 (by omega)), 0, rfl⟩
    case round =>
      obtain ⟨t, ht, rfl, hs, j, rfl⟩ := hrel
      by_cases h0 : 0 < t
      · obtain ⟨b, off, rfl, _, hcell⟩ := hA (by omega)
        have hx := hcell (t - 1) (by omega)
        obtain ⟨b', off', rfl, _, hcell'⟩ := hB (by omega)
        have hy := hcell' (t - 1) (by omega)
        clear hcell hcell' hA hB
        rcases Nat.lt_trichotomy (f (t - 1)) (g (t - 1)) with h | h | h
        · have H := Lib.hid (cm_lt (sm_top lf'.out (by omega) (fun i h1 h2 => hs.out i (by omega) h2) h))
          have hb : ((f (t - 1) : Int) != (g (t - 1) : Int)) = true := by rw [bne_iff_ne]; omega
          go_wp2
          go_quiet (fail)
          go_wp2
          go_quiet (fail)
          go_wp2
          go_ret
          exact ⟨ret_int H.out.symm, dr3 _ _ _ _⟩
        · have H : Hid (∀ i, t - 1 ≤ i → i < n → f i = g i) := Lib.hid (fun i h1 h2 => by
            by_cases e : i = t - 1
            · rw [e]; exact h
            · exact hs.out i (by omega) h2)
          rw [← h] at hy
          clear h
          go_wp2
          go_quiet (fail)
          go_wp2
          go_roundw
          case rel => exact ⟨t - 1, by omega, by go_num, H, _, rfl⟩
          case measure => simp [intOf]; omega
        · have H := Lib.hid (cm_gt (sm_top lg'.out (by omega) (fun i h1 h2 => (hs.out i (by omega) h2).symm) h))
          have hb : ((f (t - 1) : Int) != (g (t - 1) : Int)) = true := by rw [bne_iff_ne]; omega
          go_wp2
          go_quiet (fail)
          go_wp2
          go_quiet (fail)
          go_wp2
          go_ret
          exact ⟨ret_int H.out.symm, dr3 _ _ _ _⟩
      · obtain rfl : t = 0 := by omega
        have H := Lib.hid (cm_eq (sm_congr (2 ^ 32) (fun i hi => hs.out i (by omega) hi)))
        go_wp2
        go_ret
        exact ⟨ret_int H.out.symm, _, rfl⟩
  · have H := Lib.hid (cm_gt (sm_len (by decide) lg tf h))
    clear tf tg lf lg hA hB
    go_enter Tryd.func43, Tryd.ntmps43
    go_wp2
    go_ret
    exact ⟨ret_int H.out.symm, 0, rfl⟩

set_option maxHeartbeats 400000 in
theorem Cmp_any (A B : Option Addr) (n m c d : Nat) (f g : Nat → Nat) (w : World) (hA : Rd w .u32 A n f) (hB : Rd w .u32 B m g)
    (lf : Lt (2 ^ 32) f n) (lg : Lt (2 ^ 32) g m) (hnc : n ≤ c) (hmd : m ≤ d) (hc : c ≤ maxLen) (hd : d ≤ maxLen) :
    Calls Tryd.prog 19 #[.slice A n c, .slice B m d] w fun e w' => e = .returned (.int .i64 (cm (sm (2 ^ 32) f n) (sm (2 ^ 32) g m))) ∧ ∃ j, w' = w.drewN j := by
  have h1 := tr_le f n
  have h2 := tr_le g m
  have H := compare_any A B (tr f n) (tr g m) c d f g w (hA.mono h1) (hB.mono h2) (lf.mono h1) (lg.mono h2) (tr_trm _ _) (tr_trm _ _) (by omega) (by omega)
  rw [sm_tr, sm_tr] at H
  have H' := Lib.hid H
  clear H
  unfold maxLen at hc hd
  go_enter Tryd.func19, Tryd.ntmps19
  go_wp2_with (first
    | (go_at_call_of 30 (Value.slice A n c); refine (trim_any _ _ _ _ _ hA hnc (by unfold maxLen; omega)).mono ?_; rintro e w' ⟨rfl, rfl⟩)
    | (go_at_call_of 30 (Value.slice B m d); refine (trim_any _ _ _ _ _ hB hmd (by unfold maxLen; omega)).mono ?_; rintro e w' ⟨rfl, rfl⟩)
    | (go_at_call 43; refine H'.out.mono ?_; rintro e w' ⟨rfl, j, rfl⟩))
  go_ret
  exact ⟨rfl, j, rfl⟩

end Go.Proofs.YtnikoojgoiobjaaDoor.nn
