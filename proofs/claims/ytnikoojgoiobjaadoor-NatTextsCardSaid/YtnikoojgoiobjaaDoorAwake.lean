/- The walk of the laws' awake: it returns true. -/
import Derived.Test.YtnikoojgoiobjaaDoorAdd
namespace Go.Proofs.YtnikoojgoiobjaaDoor.nn
open Go.RowKit

theorem num_small {w : World} {A : Option Addr} {n c : Nat} {f : Nat → Nat} {R : Nat} (h : Num w A n c f R) (h0 : 0 < R) (h1 : R < 2 ^ 32) : n = 1 ∧ f 0 = R := by
  obtain ⟨_, _, _, lf, tf, hv⟩ := h
  rcases n with _ | _ | n
  · simp [sm] at hv; omega
  · simp [sm] at hv; exact ⟨rfl, hv⟩
  · exfalso
    rcases tf with tf | tf
    · omega
    · have h2 := sm_ge (B := 2 ^ 32) (f := f) (n := n + 1) (by simpa using tf)
      have h3 : (2 ^ 32) ^ 1 ≤ (2 ^ 32) ^ (n + 1) := Nat.pow_le_pow_right (by decide) (by omega)
      simp only [Nat.pow_one] at h3
      omega

theorem hsz (w : World) (o : Obj) : (w.alloc o).heap.size = w.heap.size + 1 := by simp
theorem small_big {N : Nat} (h : N < 2 ^ 32) : N < big := by
  have : pw 1 ≤ big := pw_mono (by omega)
  simp only [pw, Nat.pow_one] at this
  omega

set_option maxHeartbeats 400000 in
theorem awake_any (w : World) : Calls Tryd.prog 14 #[] w fun e w' => e = .returned (.bool true) ∧ Below w.heap.size w w' := by
  have ha : Rd (w.alloc (.cells #[.int .u32 2] 45)) .u32 (some ⟨w.heap.size, 0, none⟩) 1 (fun _ => 2) := rd_one w .u32 2 45
  have hb : Rd ((w.alloc (.cells #[.int .u32 2] 45)).alloc (.cells #[.int .u32 3] 45)) .u32 (some ⟨w.heap.size + 1, 0, none⟩) 1 (fun _ => 3) := by
    have := rd_one (w.alloc (.cells #[.int .u32 2] 45)) .u32 3 45
    rw [hsz] at this
    exact this
  have hbb := rds_one ((w.alloc (.cells #[.int .u32 2] 45)).alloc (.cells #[.int .u32 3] 45)) _ 1 1 _ 22 hb (by omega) (by simp [maxLen])
  have hadd := add_any _ 1 1 _ _ 1 1 _ _ _ _ _ ((ha.alloc (.cells #[.int .u32 3] 45)).alloc (.cells #[.slice (some ⟨w.heap.size + 1, 0, none⟩) 1 1] 22)) (by omega) (by simp [maxLen]) (fun _ _ => by decide) hbb (by omega) (by simp [maxLen])
    (fun _ _ _ _ => by decide) (by omega)
  have e1 : addR 1 (fun _ => 2) 1 (fun _ => 1) (fun _ _ => 3) = 5 := by
    have h5 := fitR_lt (small_big (N := 5) (by decide))
    have : ¬ (4096 < tr (fun _ => 2) 1 ∨ lg (fun _ => 1) (fun _ _ => 3) 1 = true) := by decide
    rw [addR, if_neg this]
    exact h5
  have e2 : addE 1 (fun _ => 2) 1 (fun _ => 1) (fun _ _ => 3) = 0 := by
    have h5 := fitE_lt (small_big (N := 5) (by decide))
    have : ¬ (4096 < tr (fun _ => 2) 1 ∨ lg (fun _ => 1) (fun _ _ => 3) 1 = true) := by decide
    rw [addE, if_neg this]
    exact h5
  rw [e1, e2, hsz, hsz] at hadd
  have HA := Lib.hid hadd
  clear hadd e1 e2 ha hb hbb
  go_enter Tryd.func14, Tryd.ntmps14
  go_wp2_with fail
  refine HA.out.mono ?_
  rintro e w1 ⟨A, n, c, f, rfl, hnum, hb⟩
  obtain ⟨h1, h2⟩ := num_small hnum (by decide) (by decide)
  have hr := hnum.rd
  have hcap := hnum.cap
  unfold maxLen at hcap
  obtain rfl : n = 1 := h1
  obtain ⟨b, off, rfl, hbl, hc⟩ := hr (by omega)
  have hx := hc 0 (by omega)
  rw [h2, Nat.add_zero] at hx
  have hend : Below w.heap.size w w1 := ((((Below.refl _ _).alloc (Nat.le_refl _) _).alloc (by rw [hsz]; omega) _).alloc (by rw [hsz, hsz]; omega) _).trans (hb.mono (by rw [hsz, hsz, hsz]; omega))
  clear hc h2 hnum hb hr HA
  go_wp2
  go_ret
  exact ⟨rfl, hend⟩
end Go.Proofs.YtnikoojgoiobjaaDoor.nn
