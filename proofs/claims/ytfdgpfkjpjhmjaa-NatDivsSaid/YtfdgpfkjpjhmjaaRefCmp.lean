/- The walks of the document's Cmp and of the laws' limbs. -/
import Derived.Test.YtfdgpfkjpjhmjaaRefAdd
namespace Go.Proofs.Ytfdgpfkjpjhmjaa.nn
open Go.RowKit

theorem drew_below {B : Nat} {a w : World} (h : Below B a w) (j : Nat) : Below B a (w.drewN j) := ⟨h.os, h.tape, h.output, h.size, h.block⟩

theorem rtrim_at (A : Option Addr) (n c p : Nat) (f : Nat → Nat) (w : World) (hp : tr f n = p) (hA : Rd w .u32 A n f) (hn : n ≤ c) (hreach : n * 4 ≤ 140737488355328) :
    Calls Try.prog 41 #[.slice A n c] w fun e w' => ∃ A' c', e = .returned (.slice A' p c') ∧ Rd w' .u32 A' p f ∧ Below w.heap.size w w' := by
  subst hp
  refine (rtrim_any A n c f w hA hn hreach).mono ?_
  rintro e w' ⟨v, rfl, ho, hb⟩
  obtain ⟨A', c', rfl, _, _, hr⟩ := Rd.of_own ho
  exact ⟨A', c', rfl, hr, hb⟩

set_option maxHeartbeats 1000000 in
theorem rcmp_any (A B : Option Addr) (n m c d : Nat) (f g : Nat → Nat) (w : World) (hA : Rd w .u32 A n f) (hB : Rd w .u32 B m g)
    (lf : Lt (2 ^ 32) f n) (lg : Lt (2 ^ 32) g m) (hnc : n ≤ c) (hmd : m ≤ d) (hn : n * 4 ≤ 140737488351232) (hm : m * 4 ≤ 140737488351232) :
    Calls Try.prog 15 #[.slice A n c, .slice B m d] w fun e w' => e = .returned (.int .i64 (cm (sm (2 ^ 32) f n) (sm (2 ^ 32) g m))) ∧ Below w.heap.size w w' := by
  have ef := tr_le f n
  have eg := tr_le g m
  have lf' := Lib.hid (lf.mono ef)
  have lg' := Lib.hid (lg.mono eg)
  have tf := Lib.hid (tr_trm f n)
  have tg := Lib.hid (tr_trm g m)
  rw [← sm_tr (2 ^ 32) f n, ← sm_tr (2 ^ 32) g m]
  clear lf lg
  obtain ⟨p, hp⟩ : ∃ p, tr f n = p := ⟨_, rfl⟩
  obtain ⟨q, hq⟩ : ∃ q, tr g m = q := ⟨_, rfl⟩
  rw [hp] at ef lf' tf
  rw [hq] at eg lg' tg
  rw [hp, hq]
  have HP := Lib.hid hp
  have HQ := Lib.hid hq
  clear hp hq
  rcases Nat.lt_trichotomy p q with h | h | h
  · have H := Lib.hid (cm_lt (sm_len (by decide) lf'.out tg.out h))
    go_enter Try.func15, Try.ntmps15
    go_wp2_with (first
      | (go_at_call_of 41 (Value.slice A n c); refine (rtrim_at _ _ _ p f _ HP.out hA hnc (by omega)).mono ?_; rintro e w1 ⟨A1, c1, rfl, hr1, hb1⟩)
      | (go_at_call_of 41 (Value.slice B m d); refine (rtrim_at _ _ _ q g _ HQ.out (hB.below hb1) hmd (by omega)).mono ?_; rintro e w2 ⟨A2, c2, rfl, hr2, hb2⟩))
    go_ret
    exact ⟨ret_int H.out.symm, hb1.trans (hb2.mono hb1.size)⟩
  · subst h
    go_enter Try.func15, Try.ntmps15
    go_wp2_with (first
      | (go_at_call_of 41 (Value.slice A n c); refine (rtrim_at _ _ _ p f _ HP.out hA hnc (by omega)).mono ?_; rintro e w1 ⟨A1, c1, rfl, hr1, hb1⟩)
      | (go_at_call_of 41 (Value.slice B m d); refine (rtrim_at _ _ _ p g _ HQ.out (hB.below hb1) hmd (by omega)).mono ?_; rintro e w2 ⟨A2, c2, rfl, hr2, hb2⟩))
    have hr1' := hr1.below hb2
    have hb := hb1.trans (hb2.mono hb1.size)
    clear hr1 hb1 hb2 hA hB
    go_loopw [7] (fun s wr => ∃ t : Nat, t ≤ p ∧ s = .int .i64 ((t : Int) - 1) ∧ Hid (∀ i, t ≤ i → i < p → f i = g i) ∧ ∃ j, wr = w2.drewN j) (fun s _ => (intOf s + 1).toNat)
    case atStart => exact ⟨p, Nat.le_refl _, rfl, Lib.hid (fun i h1 h2 => absurd h1 (by omega)), 0, rfl⟩
    case round =>
      obtain ⟨t, ht, rfl, hs, j, rfl⟩ := hrel
      by_cases h0 : 0 < t
      · obtain ⟨b, off, rfl, _, hcell⟩ := hr1' (by omega)
        have hx := hcell (t - 1) (by omega)
        obtain ⟨b', off', rfl, _, hcell'⟩ := hr2 (by omega)
        have hy := hcell' (t - 1) (by omega)
        clear hcell hcell' hr1' hr2
        rcases Nat.lt_trichotomy (f (t - 1)) (g (t - 1)) with h | h | h
        · have H := Lib.hid (cm_lt (sm_top lf'.out (by omega) (fun i h1 h2 => hs.out i (by omega) h2) h))
          go_wp2
          go_quiet (fail)
          go_wp2
          go_ret
          exact ⟨ret_int H.out.symm, drew_below (drew_below hb _) _⟩
        · have H : Hid (∀ i, t - 1 ≤ i → i < p → f i = g i) := Lib.hid (fun i h1 h2 => by
            by_cases e : i = t - 1
            · rw [e]; exact h
            · exact hs.out i (by omega) h2)
          rw [← h] at hy
          clear h
          go_wp2
          go_quiet (fail)
          go_wp2
          go_quiet (fail)
          go_wp2
          go_roundw
          case rel => exact ⟨t - 1, by omega, by go_num, H, _, rfl⟩
          case measure => simp [intOf]; omega
        · have H := Lib.hid (cm_gt (sm_top lg'.out (by omega) (fun i h1 h2 => (hs.out i (by omega) h2).symm) h))
          go_wp2
          go_quiet (fail)
          go_wp2
          go_quiet (fail)
          go_wp2
          go_ret
          exact ⟨ret_int H.out.symm, drew_below (drew_below (drew_below hb _) _) _⟩
      · obtain rfl : t = 0 := by omega
        have H := Lib.hid (cm_eq (sm_congr (2 ^ 32) (fun i hi => hs.out i (by omega) hi)))
        go_wp2
        go_ret
        exact ⟨ret_int H.out.symm, drew_below hb _⟩
  · have H := Lib.hid (cm_gt (sm_len (by decide) lg'.out tf.out h))
    go_enter Try.func15, Try.ntmps15
    go_wp2_with (first
      | (go_at_call_of 41 (Value.slice A n c); refine (rtrim_at _ _ _ p f _ HP.out hA hnc (by omega)).mono ?_; rintro e w1 ⟨A1, c1, rfl, hr1, hb1⟩)
      | (go_at_call_of 41 (Value.slice B m d); refine (rtrim_at _ _ _ q g _ HQ.out (hB.below hb1) hmd (by omega)).mono ?_; rintro e w2 ⟨A2, c2, rfl, hr2, hb2⟩))
    go_ret
    exact ⟨ret_int H.out.symm, hb1.trans (hb2.mono hb1.size)⟩

set_option maxHeartbeats 400000 in
theorem limbs_any (A B : Option Addr) (n m c d : Nat) (f g : Nat → Nat) (R : Nat) (w : World) (hA : Num w A n c f R) (hB : Num w B m d g R) :
    Calls Try.prog 13 #[.slice A n c, .slice B m d] w fun e w' => e = .returned (.bool true) ∧ ∃ j, w' = w.drewN j := by
  obtain rfl : n = m := sm_inj_len (by decide) hA.lt hB.lt hA.trm hB.trm (by rw [hA.val, hB.val])
  have hs := Lib.hid (sm_inj (by decide) hA.lt hB.lt (by rw [hA.val, hB.val]))
  have hn : n ≤ 9223372036854775807 := by have := hA.le; have := hA.cap; unfold maxLen at this; omega
  have hr1 := hA.rd
  have hr2 := hB.rd
  clear hA hB
  go_enter Try.func13, Try.ntmps13
  go_wp2
  go_loopw [5] (fun s wr => ∃ i : Nat, i ≤ n ∧ s = .int .i64 i ∧ ∃ j, wr = w.drewN j) (fun s _ => n - (intOf s).toNat)
  case atStart => exact ⟨0, Nat.zero_le _, rfl, 0, rfl⟩
  case round =>
    obtain ⟨i, hi, rfl, j, rfl⟩ := hrel
    by_cases hlt : i < n
    · obtain ⟨b, off, rfl, _, hcell⟩ := hr1 (by omega)
      have hx := hcell i hlt
      obtain ⟨b', off', rfl, _, hcell'⟩ := hr2 (by omega)
      have hy := hcell' i hlt
      rw [← hs.out i hlt] at hy
      clear hcell hcell' hr1 hr2
      go_wp2
      go_quiet (fail)
      go_wp2
      go_roundw
      case rel => exact ⟨i + 1, by omega, by go_num, _, rfl⟩
      case measure => simp [intOf]; omega
    · obtain rfl : i = n := by omega
      go_wp2
      go_ret
      exact ⟨rfl, j, rfl⟩
end Go.Proofs.Ytfdgpfkjpjhmjaa.nn
