/- The walk of takeOut: in place it takes a number out of one that is a limb longer, as often as it is in it. -/
import Derived.Test.YtfdgpfkjpjhmjaaGuess
import Derived.Test.YtfdgpfkjpjhmjaaSubTimes
import Derived.Test.YtfdgpfkjpjhmjaaAddInto64
namespace Go.Proofs.Ytfdgpfkjpjhmjaa.nn
open Go.RowKit

/-- behind takeOut -/
def TakeEnd (w w' : World) (g : Nat) (e : TypeId) (cur : Array Value) (off n : Nat) (A D : Nat) (e' : Ending) : Prop :=
  ∃ (f' : Nat → Nat) (cur' : Array Value), e' = .returned (.int .u64 ((A / D : Nat) : Int)) ∧ Wrote w w' g e cur cur' off (n + 1) ∧ Ints cur' .u64 off (n + 1) f' ∧ Lt W64 f' (n + 1) ∧ sm W64 f' (n + 1) = A % D

theorem take_none {A D t S : Nat} (hD : 0 < D) (h1 : A / D ≤ t) (hs : S + t * D = A) : t = A / D ∧ S = A % D := by
  have h2 : t ≤ A / D := (Nat.le_div_iff_mul_le hD).2 (by omega)
  have h3 : t = A / D := by omega
  have h4 := Nat.div_add_mod A D
  rw [← h3, Nat.mul_comm] at h4
  exact ⟨h3, by omega⟩

theorem take_back {A D t S S2 c P : Nat} (hD : 0 < D) (h2 : t ≤ A / D + 1) (hs : S + t * D = A + P) (hS : S < P) (_hP : D < P) (hb : S2 + c * P = S + D) (hS2 : S2 < P) (hc : c ≤ 1) : 1 ≤ t ∧ t - 1 = A / D ∧ S2 = A % D := by
  have h3 : ¬ t ≤ A / D := fun h => by
    have := (Nat.le_div_iff_mul_le hD).1 h
    omega
  have h4 : t = A / D + 1 := by omega
  have h5 := Nat.div_add_mod A D
  have h6 := Nat.mod_lt A hD
  rw [Nat.mul_comm] at h5
  rw [h4, Nat.add_mul, Nat.one_mul] at hs
  generalize A / D = q at *
  generalize A % D = r at *
  refine ⟨by omega, by omega, ?_⟩
  rcases (by omega : c = 0 ∨ c = 1) with rfl | rfl
  · omega
  · omega

set_option maxHeartbeats 1000000 in
theorem takeOut_any (g off n c : Nat) (e : TypeId) (cur : Array Value) (f : Nat → Nat) (B : Option Addr) (d : Nat) (h : Nat → Nat) (w : World)
    (hb : Bk w g e cur) (hi : Ints cur .u64 off (n + 1) f) (hB : Rd w .u64 B n h) (hne : ∀ b o, B = some ⟨b, o, none⟩ → 0 < n → b ≠ g) (lf : Lt W64 f (n + 1)) (lh : Lt W64 h n) (hn2 : 2 ≤ n) (hn : n + 1 ≤ maxLen)
    (htop : W64 ≤ 2 * h (n - 1)) (hlt : sm W64 f (n + 1) < sm W64 h n * W64) :
    Calls Try.prog 64 #[.slice (some ⟨g, off, none⟩) (n + 1 : Nat) c, .slice B n d] w fun e' w' => TakeEnd w w' g e cur off n (sm W64 f (n + 1)) (sm W64 h n) e' := by
  have HNE := Lib.hid hne
  have LF := Lib.hid lf
  have LH := Lib.hid lh
  have HN2 := Lib.hid (And.intro hn2 hn)
  have hg := guess_any (some ⟨g, off, none⟩) B n c d f h w (hi.rd hb) hB lf lh hn2 hn (by unfold W64 at htop; omega)
  have hw64 : 0 < W64 := by decide
  have hr := guess_right (B := W64) (P := W64 ^ (n - 2)) (x2 := f n) (x1 := f (n - 1)) (x0 := f (n - 2)) (y1 := h (n - 1)) (y0 := h (n - 2)) (a := sm W64 f (n - 2)) (b := sm W64 h (n - 2)) (A := sm W64 f (n + 1)) (D := sm W64 h n)
    (by
      obtain ⟨m, rfl⟩ : ∃ m, n = m + 2 := ⟨n - 2, by omega⟩
      have e1 : sm W64 f (m + 2 + 1) = sm W64 f m + f m * W64 ^ m + f (m + 1) * W64 ^ (m + 1) + f (m + 2) * W64 ^ (m + 2) := rfl
      rw [e1, show m + 2 - 2 = m from rfl, show m + 2 - 1 = m + 1 from rfl, Nat.pow_succ W64 (m + 1), Nat.pow_succ W64 m]
      simp only [Nat.add_mul]
      have a1 : f (m + 1) * (W64 ^ m * W64) = f (m + 1) * W64 * W64 ^ m := by ac_rfl
      have a2 : f (m + 2) * (W64 ^ m * W64 * W64) = f (m + 2) * W64 * W64 * W64 ^ m := by ac_rfl
      rw [a1, a2]
      omega)
    (by
      obtain ⟨m, rfl⟩ : ∃ m, n = m + 2 := ⟨n - 2, by omega⟩
      have e1 : sm W64 h (m + 2) = sm W64 h m + h m * W64 ^ m + h (m + 1) * W64 ^ (m + 1) := rfl
      rw [e1, show m + 2 - 2 = m from rfl, show m + 2 - 1 = m + 1 from rfl, Nat.pow_succ W64 m]
      simp only [Nat.add_mul]
      have a1 : h (m + 1) * (W64 ^ m * W64) = h (m + 1) * W64 * W64 ^ m := by ac_rfl
      rw [a1]
      omega)
    (sm_lt (lf.mono (by omega))) (sm_lt (lh.mono (by omega))) (lf _ (by omega)) (lf _ (by omega)) (lh _ (by omega)) htop (lh _ (by omega)) hlt (by decide)
  obtain ⟨t, ht⟩ : ∃ t, gs W64 (f n) (f (n - 1)) (f (n - 2)) (h (n - 1)) (h (n - 2)) = t := ⟨_, rfl⟩
  rw [ht] at hr hg
  have HG := Lib.hid hg
  have HR := Lib.hid hr
  have hD0 : Hid (0 < sm W64 h n) := Lib.hid (by
    rcases Nat.eq_zero_or_pos (sm W64 h n) with h0 | h0
    · rw [h0] at hlt; omega
    · exact h0)
  have hDP : Hid (sm W64 h n < W64 ^ (n + 1)) := Lib.hid (Nat.lt_of_lt_of_le (sm_lt lh) (Nat.pow_le_pow_right hw64 (by omega)))
  have b1 : t ≤ 18446744073709551615 := by have := hr.2.2; unfold W64 at this; omega
  clear hg hr ht hne lf lh hw64 htop hlt hn2 hn
  have hw0 := Wrote.refl hb off (n + 1)
  go_enter Try.func64, Try.ntmps64
  go_wp2_with fail
  refine HG.out.mono ?_
  rintro e' w1 ⟨rfl, j, rfl⟩
  go_wp2_with fail
  refine (subTimes_any g off n c e cur f B d h t _ (hb.drewN j) hi (hB.drewN j) HNE.out LF.out LH.out HR.out.2.2 HN2.out.2).mono ?_
  rintro e' w2 ⟨b, f1, cur1, rfl, hb1, hw1, hi1, l1, v1⟩
  have hw01 := (hw0.drewN j).trans hw1
  have HB2 := (hB.drewN j).wrote hw1 HNE.out
  have HV := Lib.hid v1
  have HS := Lib.hid (sm_lt l1)
  have HI := Lib.hid hi1
  have HL := Lib.hid l1
  have HW := Lib.hid hw01
  have HBK := Lib.hid hw1.blk
  clear hi1 l1 v1 hw01 hw1 hw0 hb hi
  rcases (by omega : b = 0 ∨ b = 1) with rfl | rfl
  · have hv := HV.out
    rw [Nat.zero_mul, Nat.add_zero] at hv
    have HT := Lib.hid (take_none hD0.out HR.out.1 hv)
    clear hv
    go_wp2
    go_ret
    rw [HT.out.1] at *
    exact ⟨f1, cur1, rfl, HW.out, HI.out, HL.out, HT.out.2⟩
  · go_wp2_with fail
    refine (addInto64_any g off (n + 1) c e cur1 f1 B n d h w2 HBK.out HI.out HB2 HNE.out (by omega) HL.out LH.out HN2.out.2).mono ?_
    rintro e' w3 ⟨k, rfl, hk, f2, cur2, hw2, hi2, l2, v2⟩
    have HT := Lib.hid (take_back hD0.out HR.out.2.1 (by have := HV.out; rwa [Nat.one_mul] at this) HS.out hDP.out v2 (sm_lt l2) hk)
    have HW2 := Lib.hid (HW.out.trans hw2)
    have HI2 := Lib.hid hi2
    have HL2 := Lib.hid l2
    have bt : 1 ≤ t := HT.out.1
    clear hw2 hi2 l2 v2 hk
    go_wp2
    go_ret
    exact ⟨f2, cur2, by rw [← HT.out.2.1]; exact congrArg (fun z => Ending.returned (Value.int .u64 z)) (by omega), HW2.out, HI2.out, HL2.out, HT.out.2.2⟩
end Go.Proofs.Ytfdgpfkjpjhmjaa.nn
