/- The walks of Bytes (how long its answer is) and of the law NatPowers: it returns true. -/
import Derived.Test.YtfdgpfkjpjhmjaaShifts
import Derived.Test.YtfdgpfkjpjhmjaaSub
import Derived.Lib.MinMax
namespace Go.Proofs.Ytfdgpfkjpjhmjaa.nn
open Go.RowKit

theorem info_u8 : (Try.prog.info? 5).map (fun i => (i.zero, i.size, i.bytes)) = some (some (.int .u8 0), 1, 1) := by kernel_rfl

set_option maxHeartbeats 1000000 in
theorem bytesLen_any (A : Option Addr) (n c : Nat) (f : Nat → Nat) (w : World) (hA : Rd w .u32 A n f) (lf : Lt (2 ^ 32) f n) (hn : n ≤ c) (hc : c ≤ maxLen) (hreach : n * 4 ≤ 140737488355328) :
    Calls Try.prog 32 #[.slice A n c] w fun e w' => (∃ B d, e = .returned (.slice B ((bl (sm (2 ^ 32) f n) + 7) / 8) d)) ∧ Below w.heap.size w w' := by
  obtain ⟨i0, hi, hz0, hz1, hz2⟩ := info_parts info_u8
  have HB := Lib.hid (bits_any A n c f w hA lf hn hc hreach)
  have hbl : bl (sm (2 ^ 32) f n) ≤ 32 * n := by
    have h1 := sm_lt lf
    rw [← Nat.pow_mul] at h1
    exact bl_le h1
  obtain ⟨K, hK⟩ : ∃ K, bl (sm (2 ^ 32) f n) = K := ⟨_, rfl⟩
  rw [hK] at HB hbl ⊢
  obtain ⟨N, hN⟩ : ∃ N, (K + 7) / 8 = N := ⟨_, rfl⟩
  have e1 : ((K : Int) + 7) / 8 = (N : Int) := by omega
  have hN4 : N ≤ 4 * n := by omega
  rw [hN]
  have hNK := Lib.hid hN
  clear hK hN
  go_enter Try.func32, Try.ntmps32
  go_wp2_with (first
    | (go_at_call 30; refine HB.out.mono ?_; rintro e w' ⟨rfl, rfl⟩)
    | (refine wpList_make_full _ rfl _ _ 51 rfl w.heap.size 5 i0 _ 1 Try.underlying51 hi hz0 hz1 .i64 .i64 _ _ N rfl rfl ?c1 ?c2 ?c3 ?c4 ?c5 ?_; rotate_left 5; intro w1 hown1 hg1))
  case c1 => exact e1
  case c2 => exact e1
  case c3 => rw [hz2]; omega
  case c4 => unfold maxLen; omega
  case c5 => omega
  clear e1
  have hb1 : Below w.heap.size w w1 := (Below.refl _ _).grown (row := none) hg1 (Nat.le_refl _) (fun k hk => by cases hk)
  have hA1 := hA.below hb1
  have hrow : ∃ cur, Bk w1 w.heap.size 5 cur ∧ cur.size = N := by
    rcases hown1.2 with ⟨h, _⟩ | ⟨g', cap', cur, h, _, hh, _, _, hs, _⟩
    · cases h
    · simp only [Value.slice.injEq, Option.some.injEq, Addr.mk.injEq, and_true, true_and] at h
      obtain ⟨rfl, rfl⟩ := h
      exact ⟨cur, hh, by omega⟩
  obtain ⟨cur, hbk, hcs⟩ := hrow
  have HCS := Lib.hid hcs
  have hne : Hid (∀ b o, A = some ⟨b, o, none⟩ → 0 < n → b ≠ w.heap.size) := Lib.hid fun b o e h0 => by have := hA.lt e h0; omega
  clear hown1 hcs hg1
  go_loopw [15] (fun s wr => ∃ i : Nat, i ≤ N ∧ s = .int .i64 i ∧ ∃ cur', Wrote w1 wr w.heap.size 5 cur cur' 0 N) (fun s _ => N - (intOf s).toNat)
  case atStart => exact ⟨0, Nat.zero_le _, rfl, cur, Wrote.refl hbk 0 N⟩
  case round =>
    obtain ⟨i, hi', rfl, cur', hw⟩ := hrel
    by_cases hlt : i < N
    · obtain ⟨b, off, rfl, _, hcell⟩ := (hA1.wrote hw hne.out) (by omega)
      have hx := hcell ((N - 1 - i) / 4) (by omega)
      have hsz' : i < cur'.size := by rw [hw.size, HCS.out]; exact hlt
      have hy := (Bk.cell hw.blk i).trans (Array.getElem?_eq_getElem hsz')
      have hf := Bk.frozen hw.blk i
      have hstep := fun u => hw.set_ i hlt u
      simp only [Nat.zero_add] at hstep
      have HS := Lib.hid hstep
      clear hcell hstep
      go_wp2
      go_roundw
      case rel => exact ⟨i + 1, by omega, by go_num, _, HS.out _⟩
      case measure => simp [intOf]; omega
    · obtain rfl : i = N := by omega
      have hbw := hb1.grown hw.grown hb1.size (fun k hk => by injection hk with hk; exact Nat.le_of_eq hk)
      go_wp2
      go_ret
      exact ⟨⟨_, _, rfl⟩, hbw⟩
/-- a number below so many limbs has no more -/
theorem num_lim {w : World} {A : Option Addr} {n c m : Nat} {f : Nat → Nat} {R : Nat} (h : Num w A n c f R) (hR : R < (2 ^ 32) ^ m) : n ≤ m := by
  rcases Nat.lt_or_ge m n with h1 | h1
  · exfalso
    obtain ⟨_, _, _, _, tf, hv⟩ := h
    obtain ⟨j, rfl⟩ : ∃ j, n = j + 1 := ⟨n - 1, by omega⟩
    rcases tf with tf | tf
    · omega
    · have h2 := sm_ge (B := 2 ^ 32) (f := f) (n := j) (by simpa using tf)
      have h3 : (2 ^ 32) ^ m ≤ (2 ^ 32) ^ j := Nat.pow_le_pow_right (by decide) (by omega)
      omega
  · exact h1

theorem shl_lim {S n k m : Nat} (h : S < (2 ^ 32) ^ n) (hk : k ≤ 32 * m) : S * 2 ^ k < (2 ^ 32) ^ (n + m) := by
  have h2 : 2 ^ k ≤ (2 ^ 32) ^ m := by rw [← Nat.pow_mul]; exact Nat.pow_le_pow_right (by omega) hk
  rw [Nat.pow_add]
  exact Nat.lt_of_le_of_lt (Nat.mul_le_mul_left _ h2) (Nat.mul_lt_mul_of_pos_right h (Nat.pow_pos (Nat.two_pow_pos 32)))

theorem num_bits {w : World} {A : Option Addr} {n c m K : Nat} {f : Nat → Nat} {R : Nat} (h : Num w A n c f R) (hR : R < (2 ^ 32) ^ m) (hm : m ≤ 100000) (hK : bl R = K) :
    Calls Try.prog 30 #[.slice A n c] w fun e w' => e = .returned (.int .i64 (K : Nat)) ∧ w = w' := by
  have hl := num_lim h hR
  have := bits_any A n c f w h.rd h.lt h.le h.cap (by omega)
  rw [h.val, hK] at this
  exact this

set_option maxHeartbeats 1000000 in
theorem powers_long (A : Option Addr) (n c z : Nat) (w : World) (hn : 1000 < n) (hm : n ≤ maxLen) :
    Calls Try.prog 10 #[.slice A n c, .int .u16 z] w fun e w' => e = .returned (.bool true) ∧ Below w.heap.size w w' := by
  unfold maxLen at hm
  go_enter Try.func10, Try.ntmps10
  go_wp2_with (go_at_call 16; refine (awake_any _).mono ?_; rintro e w6 ⟨rfl, hb6⟩)
  go_ret
  exact ⟨rfl, hb6⟩

/-- an answer without an error, of K bits -/
def BitsAns (w w' : World) (e : Ending) (K : Nat) : Prop :=
  ∃ A n c, e = .returned (.tuple #[.slice A n c, .int .i64 0]) ∧ Below w.heap.size w w' ∧ ∀ W, Below w'.heap.size w' W → Calls Try.prog 30 #[.slice A n c] W fun e W' => e = .returned (.int .i64 (K : Nat)) ∧ W = W'
/-- an answer of N bytes -/
def LenAns (w w' : World) (e : Ending) (N : Nat) : Prop := ∃ B d, e = .returned (.slice B N d) ∧ Below w.heap.size w w'

set_option maxHeartbeats 1000000 in
set_option maxRecDepth 100000 in
theorem powers_walk (A : Option Addr) (n c z k K Kx Ky N : Nat) (w : World) (hs : n ≤ 1000) (hz : z < 65536) (ek : (z : Int) % 5000 = (k : Int)) (_k5 : k < 5000) (hK : K ≤ 40000) (hN : ((K : Int) + 7) / 8 = (N : Int)) (hwant : K = 0 ∧ Kx = 0 ∨ 0 < K ∧ Kx = K + k) (hy : Ky = K - k)
    (HB : Hid (Calls Try.prog 30 #[.slice A n c] w fun e w' => e = .returned (.int .i64 (K : Nat)) ∧ w = w'))
    (HSL : Hid (Calls Try.prog 26 #[.slice A n c, .int .i64 k] w fun e w' => BitsAns w w' e Kx))
    (HSR : Hid (∀ W, Below w.heap.size w W → Calls Try.prog 28 #[.slice A n c, .int .i64 k] W fun e w' => BitsAns W w' e Ky))
    (HBY : Hid (∀ W, Below w.heap.size w W → Calls Try.prog 32 #[.slice A n c] W fun e w' => LenAns W w' e N)) :
    Calls Try.prog 10 #[.slice A n c, .int .u16 z] w fun e w' => e = .returned (.bool true) ∧ Below w.heap.size w w' := by
  have hm : max ((K : Int) - (k : Int)) 0 = (Ky : Int) := by
    rw [Int.max_def]
    split <;> omega
  clear hy
  rcases hwant with ⟨h1, h2⟩ | ⟨h1, rfl⟩
  · have h3 : K ≤ 0 := by omega
    have h4 : ((Kx : Int) == 0) = true := by rw [h2]; rfl
    clear h1 h2
    go_enter Try.func10, Try.ntmps10
    go_wp2_with fail
    refine HB.out.mono ?_
    rintro e w' ⟨rfl, rfl⟩
    go_wp2_with fail
    refine HSL.out.mono ?_
    rintro e w2 ⟨A2, n2, c2, rfl, hb2, hB2⟩
    have H2 := Lib.hid hB2
    clear hB2
    go_wp2_with fail
    refine (HSR.out _ hb2).mono ?_
    rintro e w3 ⟨A3, n3, c3, rfl, hb3, hB3⟩
    have H3 := Lib.hid hB3
    clear hB3
    have hb23 := hb2.trans (hb3.mono hb2.size)
    go_wp2_with fail
    refine (H2.out _ hb3).mono ?_
    rintro e w' ⟨rfl, rfl⟩
    go_wp2_with fail
    refine (H3.out _ (Below.refl _ _)).mono ?_
    rintro e w' ⟨rfl, rfl⟩
    go_wp2_with fail
    refine (HBY.out _ hb23).mono ?_
    rintro e w4 ⟨B4, d4, rfl, hb4⟩
    have hb24 := hb23.trans (hb4.mono hb23.size)
    go_wp2_with fail
    refine (awake_any _).mono ?_
    rintro e w6 ⟨rfl, hb6⟩
    go_wp2
    go_ret
    exact ⟨rfl, hb24.trans (hb6.mono hb24.size)⟩
  · have h4 : (((K + k : Nat) : Int) == (K : Int) + (k : Int)) = true := by rw [beq_iff_eq]; omega
    go_enter Try.func10, Try.ntmps10
    go_wp2_with fail
    refine HB.out.mono ?_
    rintro e w' ⟨rfl, rfl⟩
    go_wp2_with fail
    refine HSL.out.mono ?_
    rintro e w2 ⟨A2, n2, c2, rfl, hb2, hB2⟩
    have H2 := Lib.hid hB2
    clear hB2
    go_wp2_with fail
    refine (HSR.out _ hb2).mono ?_
    rintro e w3 ⟨A3, n3, c3, rfl, hb3, hB3⟩
    have H3 := Lib.hid hB3
    clear hB3
    have hb23 := hb2.trans (hb3.mono hb2.size)
    go_wp2_with fail
    refine (H2.out _ hb3).mono ?_
    rintro e w' ⟨rfl, rfl⟩
    go_wp2_with fail
    refine (H3.out _ (Below.refl _ _)).mono ?_
    rintro e w' ⟨rfl, rfl⟩
    go_wp2_with fail
    refine (HBY.out _ hb23).mono ?_
    rintro e w4 ⟨B4, d4, rfl, hb4⟩
    have hb24 := hb23.trans (hb4.mono hb23.size)
    go_wp2_with fail
    refine (awake_any _).mono ?_
    rintro e w6 ⟨rfl, hb6⟩
    go_wp2
    go_ret
    exact ⟨rfl, hb24.trans (hb6.mono hb24.size)⟩
theorem res_bits {w w' : World} {e : Ending} {R m K : Nat} (h : Res w w' e R 0) (hR : R < (2 ^ 32) ^ m) (hm : m ≤ 100000) (hK : bl R = K) : BitsAns w w' e K := by
  obtain ⟨A, n, c, f, e1, hn, hb⟩ := h
  exact ⟨A, n, c, e1, hb, fun W hW => num_bits (A := A) (n := n) (c := c) (f := f) ⟨hn.le, hn.cap, hn.rd.below hW, hn.lt, hn.trm, hn.val⟩ hR hm hK⟩

theorem powers_any (A : Option Addr) (n c z : Nat) (f : Nat → Nat) (w : World) (hA : Rd w .u32 A n f) (lf : Lt (2 ^ 32) f n) (hn : n ≤ c) (hc : c ≤ maxLen) (hz : z < 65536) :
    Calls Try.prog 10 #[.slice A n c, .int .u16 z] w fun e w' => e = .returned (.bool true) ∧ Below w.heap.size w w' := by
  rcases Nat.lt_or_ge 1000 n with hs | hs
  · exact powers_long A n c z w hs (Nat.le_trans hn hc)
  · obtain ⟨k, hk⟩ : ∃ k, z % 5000 = k := ⟨_, rfl⟩
    have k5 : k < 5000 := by omega
    have hle := tr_le f n
    have hS := sm_lt lf
    have hSl := shl_lim (k := k) (m := 157) hS (by omega)
    have hblS : bl (sm (2 ^ 32) f n) ≤ 32 * n := by
      have h1 := hS
      rw [← Nat.pow_mul] at h1
      exact bl_le h1
    have hSr : sm (2 ^ 32) f n / 2 ^ k < (2 ^ 32) ^ n := Nat.lt_of_le_of_lt (Nat.div_le_self _ _) hS
    obtain ⟨K, hK⟩ : ∃ K, bl (sm (2 ^ 32) f n) = K := ⟨_, rfl⟩
    have hBd := bl_div (sm (2 ^ 32) f n) k
    rw [hK] at hBd hblS
    obtain ⟨Kx, hKx, hwant⟩ : ∃ Kx, bl (sm (2 ^ 32) f n * 2 ^ k) = Kx ∧ (K = 0 ∧ Kx = 0 ∨ 0 < K ∧ Kx = K + k) := by
      by_cases h0 : sm (2 ^ 32) f n = 0
      · rw [h0, bl_zero] at hK
        exact ⟨0, by rw [h0, Nat.zero_mul]; rfl, .inl ⟨hK.symm, rfl⟩⟩
      · exact ⟨K + k, by rw [bl_mul h0, hK], .inr ⟨by have := (bl_ge h0).2; omega, rfl⟩⟩
    have hSL := shl_any A n c k f w hA lf hn hc (by omega) (by omega) (by omega)
    have e1 : shlR n f k = sm (2 ^ 32) f n * 2 ^ k := by
      unfold shlR
      rw [hK, Int.toNat_natCast]
      split
      · rcases hwant with ⟨h1, h2⟩ | ⟨h1, h2⟩
        · have h0 : sm (2 ^ 32) f n = 0 := by
            by_cases h : sm (2 ^ 32) f n = 0
            · exact h
            · have := (bl_ge h).2; omega
          rw [h0, Nat.zero_mul]
        · exfalso
          have h0 : sm (2 ^ 32) f n ≠ 0 := by intro h; rw [h, bl_zero] at hK; omega
          omega
      · rfl
    have e2 : shlE n f k = 0 := by
      unfold shlE
      rw [hK, if_neg (by omega), if_neg (by omega)]
      split
      · rfl
      · rw [if_neg (by omega)]
    rw [e1, e2] at hSL
    have e3 : shrR n f k = sm (2 ^ 32) f n / 2 ^ k := by unfold shrR; rw [if_neg (by omega), Int.toNat_natCast]
    have e4 : shrE n f k = 0 := by unfold shrE; rw [if_neg (by omega), if_neg (by omega)]
    have hB := bits_any A n c f w hA lf hn hc (by omega)
    rw [hK] at hB
    refine powers_walk A n c z k K Kx (K - k) ((K + 7) / 8) w hs hz (by omega) k5 (by omega) (by omega) hwant rfl (Lib.hid hB) (Lib.hid (hSL.mono fun e w' h => res_bits h hSl (by omega) hKx)) (Lib.hid fun W hW => ?_) (Lib.hid fun W hW => ?_)
    · have h := shr_any A n c k f W (hA.below hW) lf hn hc (by omega)
      rw [e3, e4] at h
      exact h.mono fun e w' h => res_bits h hSr (by omega) hBd
    · have h := bytesLen_any A n c f W (hA.below hW) lf hn hc (by omega)
      rw [hK] at h
      exact h.mono fun e w' ⟨⟨B, d, h1⟩, h2⟩ => ⟨B, d, h1, h2⟩
end Go.Proofs.Ytfdgpfkjpjhmjaa.nn
