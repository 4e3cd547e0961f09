/- The walk of FbitsBack. -/
import Derived.Test.YtkgejncolchobaaFbitsLaws
import Derived.Test.YtkgejncolchobaaFbitsReal3
import Derived.Test.YtkgejncolchobaaFbNum2
namespace Go.Proofs.Ytkgejncolchobaa.nn
open Go.RowKit

theorem u64_mask16 (a : Nat) (ha : a < 18446744073709551616) : bits .and .u64 (a : Int) 65535 = ((a % 65536 : Nat) : Int) :=
  (u64_and_nat a 65535 ha (by decide)).trans (by rw [show (65535 : Nat) = 2 ^ 16 - 1 by decide, and_mask a 16])
theorem u64_mask32 (a : Nat) (ha : a < 18446744073709551616) : bits .and .u64 (a : Int) 4294967295 = ((a % 4294967296 : Nat) : Int) :=
  (u64_and_nat a 4294967295 ha (by decide)).trans (by rw [show (4294967295 : Nat) = 2 ^ 32 - 1 by decide, and_mask a 32])
theorem fiV_lt {n : Nat} {neg : Bool} (hn : n < 18446744073709551616) : fiV neg (fiN neg n) < 18446744073709551616 := by
  by_cases h0 : fiN neg n = 0
  · rw [h0, fi_zero.2]; decide
  · by_cases hO : fiO (fiN neg n) = true
    · have hb : fiN neg n ≤ 2 ^ 64 := by
        have p64 : (2 : Nat) ^ 64 = 18446744073709551616 := by decide
        unfold fiN
        rw [p64]
        cases neg <;> simp <;> omega
      obtain ⟨q, _, _, _, _, _, _, _, _, a9⟩ := fi_xa (neg := neg) h0 hO hb
      exact a9
    · rw [fi_none h0 (by simpa using hO)]; decide
/-- what the law's calls answer, of a width k and the bits b of it -/
structure BackH (k : Int) (x b : Nat) (neg : Bool) (n : Nat) (X Z Q : Nat) (oz oq : Bool) : Prop where
  h1 : ∀ w, Calls Try.prog 15 #[.int .i64 k, .int .u64 (b : Int)] w fun e W' => e = .returned (.tuple #[.int .u64 (X : Int), .int .i64 0]) ∧ Below w.heap.size w W'
  h2 : ∀ w, Calls Try.prog 17 #[.int .i64 k, .int .u64 (X : Int)] w fun e W' => e = .returned (.tuple #[.int .u64 (b : Int), .bool true, .int .i64 0]) ∧ Below w.heap.size w W'
  h3 : ∀ w, Calls Try.prog 17 #[.int .i64 k, .int .u64 (x : Int)] w fun e W' => e = .returned (.tuple #[.int .u64 (Z : Int), .bool oz, .int .i64 0]) ∧ Below w.heap.size w W'
  h4 : oz = true → ∀ w, Calls Try.prog 15 #[.int .i64 k, .int .u64 (Z : Int)] w fun e W' => e = .returned (.tuple #[.int .u64 (x : Int), .int .i64 0]) ∧ Below w.heap.size w W'
  h5 : ∀ w, Calls Try.prog 23 #[.bool neg, .int .u64 (n : Int)] w fun e W' => e = .returned (.tuple #[.int .u64 (Q : Int), .bool oq]) ∧ Below w.heap.size w W'
  h6 : oq = true → ∀ w, Calls Try.prog 21 #[.int .u64 (Q : Int)] w fun e W' => e = .returned (.tuple #[.bool neg, .int .u64 (n : Int), .bool true]) ∧ Below w.heap.size w W'
  x : X < 18446744073709551616
  z : Z < 18446744073709551616
  q : Q < 18446744073709551616
theorem backH {k : Int} {x b : Nat} {neg : Bool} {n : Nat} (hf : fits k b) (hb : b < 18446744073709551616) (hx : x < 18446744073709551616) (hn : n < 18446744073709551616) : ∃ X Z Q oz oq, BackH k x b neg n X Z Q oz oq := by
  obtain ⟨a1, a2, a3⟩ := wi_back hf hb
  have ne : nrE k = 0 := if_pos hf.1
  have hz : nrV k x < 18446744073709551616 := by
    cases h : nrO k x with
    | true => exact (nr_forth hf.1 hx h).1
    | false =>
      have hk := hf.1
      unfold wOk at hk
      unfold nrO at h
      rw [if_pos hf.1] at h
      unfold nrV
      rw [if_pos hf.1]
      by_cases h6 : k = 64
      · rw [if_pos h6]; exact hx
      · rw [if_neg h6] at h ⊢
        unfold nwA
        rw [h, if_neg (by decide)]
        decide
  refine ⟨wiV k b, nrV k x, fiV neg (fiN neg n), nrO k x, fiO (fiN neg n), ?_, ?_, ?_, ?_, ?_, ?_, a1, hz, fiV_lt hn⟩
  · intro w
    have h := fwiden_any k b w hb
    unfold WiAns at h
    rw [show paE k b = 0 from if_pos hf] at h
    exact h
  · intro w
    have h := fnarrow_any k (wiV k b) w a1
    unfold NrAns at h
    rw [ne, a2, a3] at h
    exact h
  · intro w
    have h := fnarrow_any k x w hx
    unfold NrAns at h
    rw [ne] at h
    exact h
  · intro hO w
    obtain ⟨b1, b2, b3, _⟩ := nr_forth hf.1 hx hO
    have h := fwiden_any k (nrV k x) w b1
    unfold WiAns at h
    rw [show paE k (nrV k x) = 0 from if_pos b2, b3] at h
    exact h
  · intro w
    exact ffromInt_any neg n w hn
  · intro hO w
    have h := fint_any (fiV neg (fiN neg n)) w (fiV_lt hn)
    unfold InAns at h
    rw [fi_int hn hO] at h
    exact h
set_option maxRecDepth 100000 in
set_option maxHeartbeats 4000000 in
theorem back_any (u : Nat) (hu : u < 256) (x : Nat) (hx : x < 18446744073709551616) (neg : Bool) (n : Nat) (hn : n < 18446744073709551616) (w : World) :
    Calls Try.prog 6 #[.int .u8 (u : Int), .int .u64 (x : Int), .bool neg, .int .u64 (n : Int)] w fun r w' => r = .returned (.bool true) ∧ Below w.heap.size w w' := by
  have hu3 : u % 3 = 0 ∨ u % 3 = 1 ∨ u % 3 = 2 := by omega
  rcases hu3 with hu3 | hu3 | hu3
  · have q0 : (u : Int) % 3 = 0 := by omega
    have t1 := u64_mask16 x hx
    obtain ⟨b, hbb⟩ : ∃ b, x % 65536 = b := ⟨_, rfl⟩
    rw [hbb] at t1
    have hb : b < 65536 := by omega
    have hb2 : b < 18446744073709551616 := by omega
    clear hbb
    obtain ⟨X, Z, Q, oz, oq, H⟩ := backH (k := 16) (b := b) (neg := neg) (n := n) (fits16.2 hb) hb2 hx hn
    have H1 := Lib.hid H.h1
    have H2 := Lib.hid H.h2
    have H3 := Lib.hid H.h3
    have h4 := H.h4
    have H5 := Lib.hid H.h5
    have h6 := H.h6
    have hX := H.x
    have hZ := H.z
    have hQ := H.q
    clear H
    cases oz
    · clear h4
      cases oq
      · clear h6
        go_enter Try.func6, Try.ntmps6
        go_wp2_with fail
        refine (H1.out _).mono ?_
        rintro r w1 ⟨rfl, b1⟩
        have c1 := Lib.hid b1
        clear b1
        go_wp2_with fail
        refine (H2.out _).mono ?_
        rintro r w2 ⟨rfl, b2⟩
        have c2 := Lib.hid (c1.out.trans (b2.mono c1.out.size))
        clear b2 c1
        go_wp2_with fail
        refine (H3.out _).mono ?_
        rintro r w3 ⟨rfl, b3⟩
        have c3 := Lib.hid (c2.out.trans (b3.mono c2.out.size))
        clear b3 c2
        go_wp2_with fail
        refine (H5.out _).mono ?_
        rintro r w5 ⟨rfl, b5⟩
        have c5 := Lib.hid (c3.out.trans (b5.mono c3.out.size))
        clear b5 c3
        go_wp2_with fail
        refine (awake5_any _).mono ?_
        rintro r w9 ⟨rfl, b9⟩
        have c9 := Lib.hid (c5.out.trans (b9.mono c5.out.size))
        clear b9 c5
        go_wp2_with fail
        go_ret
        exact ⟨rfl, c9.out⟩
      · have H6 := Lib.hid (h6 rfl)
        clear h6
        go_enter Try.func6, Try.ntmps6
        go_wp2_with fail
        refine (H1.out _).mono ?_
        rintro r w1 ⟨rfl, b1⟩
        have c1 := Lib.hid b1
        clear b1
        go_wp2_with fail
        refine (H2.out _).mono ?_
        rintro r w2 ⟨rfl, b2⟩
        have c2 := Lib.hid (c1.out.trans (b2.mono c1.out.size))
        clear b2 c1
        go_wp2_with fail
        refine (H3.out _).mono ?_
        rintro r w3 ⟨rfl, b3⟩
        have c3 := Lib.hid (c2.out.trans (b3.mono c2.out.size))
        clear b3 c2
        go_wp2_with fail
        refine (H5.out _).mono ?_
        rintro r w5 ⟨rfl, b5⟩
        have c5 := Lib.hid (c3.out.trans (b5.mono c3.out.size))
        clear b5 c3
        go_wp2_with fail
        refine (H6.out _).mono ?_
        rintro r w6 ⟨rfl, b6⟩
        have c6 := Lib.hid (c5.out.trans (b6.mono c5.out.size))
        clear b6 c5
        go_wp2_with fail
        refine (awake5_any _).mono ?_
        rintro r w9 ⟨rfl, b9⟩
        have c9 := Lib.hid (c6.out.trans (b9.mono c6.out.size))
        clear b9 c6
        go_wp2_with fail
        go_ret
        exact ⟨rfl, c9.out⟩
    · have H4 := Lib.hid (h4 rfl)
      clear h4
      cases oq
      · clear h6
        go_enter Try.func6, Try.ntmps6
        go_wp2_with fail
        refine (H1.out _).mono ?_
        rintro r w1 ⟨rfl, b1⟩
        have c1 := Lib.hid b1
        clear b1
        go_wp2_with fail
        refine (H2.out _).mono ?_
        rintro r w2 ⟨rfl, b2⟩
        have c2 := Lib.hid (c1.out.trans (b2.mono c1.out.size))
        clear b2 c1
        go_wp2_with fail
        refine (H3.out _).mono ?_
        rintro r w3 ⟨rfl, b3⟩
        have c3 := Lib.hid (c2.out.trans (b3.mono c2.out.size))
        clear b3 c2
        go_wp2_with fail
        refine (H4.out _).mono ?_
        rintro r w4 ⟨rfl, b4⟩
        have c4 := Lib.hid (c3.out.trans (b4.mono c3.out.size))
        clear b4 c3
        go_wp2_with fail
        refine (H5.out _).mono ?_
        rintro r w5 ⟨rfl, b5⟩
        have c5 := Lib.hid (c4.out.trans (b5.mono c4.out.size))
        clear b5 c4
        go_wp2_with fail
        refine (awake5_any _).mono ?_
        rintro r w9 ⟨rfl, b9⟩
        have c9 := Lib.hid (c5.out.trans (b9.mono c5.out.size))
        clear b9 c5
        go_wp2_with fail
        go_ret
        exact ⟨rfl, c9.out⟩
      · have H6 := Lib.hid (h6 rfl)
        clear h6
        go_enter Try.func6, Try.ntmps6
        go_wp2_with fail
        refine (H1.out _).mono ?_
        rintro r w1 ⟨rfl, b1⟩
        have c1 := Lib.hid b1
        clear b1
        go_wp2_with fail
        refine (H2.out _).mono ?_
        rintro r w2 ⟨rfl, b2⟩
        have c2 := Lib.hid (c1.out.trans (b2.mono c1.out.size))
        clear b2 c1
        go_wp2_with fail
        refine (H3.out _).mono ?_
        rintro r w3 ⟨rfl, b3⟩
        have c3 := Lib.hid (c2.out.trans (b3.mono c2.out.size))
        clear b3 c2
        go_wp2_with fail
        refine (H4.out _).mono ?_
        rintro r w4 ⟨rfl, b4⟩
        have c4 := Lib.hid (c3.out.trans (b4.mono c3.out.size))
        clear b4 c3
        go_wp2_with fail
        refine (H5.out _).mono ?_
        rintro r w5 ⟨rfl, b5⟩
        have c5 := Lib.hid (c4.out.trans (b5.mono c4.out.size))
        clear b5 c4
        go_wp2_with fail
        refine (H6.out _).mono ?_
        rintro r w6 ⟨rfl, b6⟩
        have c6 := Lib.hid (c5.out.trans (b6.mono c5.out.size))
        clear b6 c5
        go_wp2_with fail
        refine (awake5_any _).mono ?_
        rintro r w9 ⟨rfl, b9⟩
        have c9 := Lib.hid (c6.out.trans (b9.mono c6.out.size))
        clear b9 c6
        go_wp2_with fail
        go_ret
        exact ⟨rfl, c9.out⟩
  · have q0 : (u : Int) % 3 = 1 := by omega
    have t1 := u64_mask32 x hx
    obtain ⟨b, hbb⟩ : ∃ b, x % 4294967296 = b := ⟨_, rfl⟩
    rw [hbb] at t1
    have hb : b < 4294967296 := by omega
    have hb2 : b < 18446744073709551616 := by omega
    clear hbb
    obtain ⟨X, Z, Q, oz, oq, H⟩ := backH (k := 32) (b := b) (neg := neg) (n := n) (fits32.2 hb) hb2 hx hn
    have H1 := Lib.hid H.h1
    have H2 := Lib.hid H.h2
    have H3 := Lib.hid H.h3
    have h4 := H.h4
    have H5 := Lib.hid H.h5
    have h6 := H.h6
    have hX := H.x
    have hZ := H.z
    have hQ := H.q
    clear H
    cases oz
    · clear h4
      cases oq
      · clear h6
        go_enter Try.func6, Try.ntmps6
        go_wp2_with fail
        refine (H1.out _).mono ?_
        rintro r w1 ⟨rfl, b1⟩
        have c1 := Lib.hid b1
        clear b1
        go_wp2_with fail
        refine (H2.out _).mono ?_
        rintro r w2 ⟨rfl, b2⟩
        have c2 := Lib.hid (c1.out.trans (b2.mono c1.out.size))
        clear b2 c1
        go_wp2_with fail
        refine (H3.out _).mono ?_
        rintro r w3 ⟨rfl, b3⟩
        have c3 := Lib.hid (c2.out.trans (b3.mono c2.out.size))
        clear b3 c2
        go_wp2_with fail
        refine (H5.out _).mono ?_
        rintro r w5 ⟨rfl, b5⟩
        have c5 := Lib.hid (c3.out.trans (b5.mono c3.out.size))
        clear b5 c3
        go_wp2_with fail
        refine (awake5_any _).mono ?_
        rintro r w9 ⟨rfl, b9⟩
        have c9 := Lib.hid (c5.out.trans (b9.mono c5.out.size))
        clear b9 c5
        go_wp2_with fail
        go_ret
        exact ⟨rfl, c9.out⟩
      · have H6 := Lib.hid (h6 rfl)
        clear h6
        go_enter Try.func6, Try.ntmps6
        go_wp2_with fail
        refine (H1.out _).mono ?_
        rintro r w1 ⟨rfl, b1⟩
        have c1 := Lib.hid b1
        clear b1
        go_wp2_with fail
        refine (H2.out _).mono ?_
        rintro r w2 ⟨rfl, b2⟩
        have c2 := Lib.hid (c1.out.trans (b2.mono c1.out.size))
        clear b2 c1
        go_wp2_with fail
        refine (H3.out _).mono ?_
        rintro r w3 ⟨rfl, b3⟩
        have c3 := Lib.hid (c2.out.trans (b3.mono c2.out.size))
        clear b3 c2
        go_wp2_with fail
        refine (H5.out _).mono ?_
        rintro r w5 ⟨rfl, b5⟩
        have c5 := Lib.hid (c3.out.trans (b5.mono c3.out.size))
        clear b5 c3
        go_wp2_with fail
        refine (H6.out _).mono ?_
        rintro r w6 ⟨rfl, b6⟩
        have c6 := Lib.hid (c5.out.trans (b6.mono c5.out.size))
        clear b6 c5
        go_wp2_with fail
        refine (awake5_any _).mono ?_
        rintro r w9 ⟨rfl, b9⟩
        have c9 := Lib.hid (c6.out.trans (b9.mono c6.out.size))
        clear b9 c6
        go_wp2_with fail
        go_ret
        exact ⟨rfl, c9.out⟩
    · have H4 := Lib.hid (h4 rfl)
      clear h4
      cases oq
      · clear h6
        go_enter Try.func6, Try.ntmps6
        go_wp2_with fail
        refine (H1.out _).mono ?_
        rintro r w1 ⟨rfl, b1⟩
        have c1 := Lib.hid b1
        clear b1
        go_wp2_with fail
        refine (H2.out _).mono ?_
        rintro r w2 ⟨rfl, b2⟩
        have c2 := Lib.hid (c1.out.trans (b2.mono c1.out.size))
        clear b2 c1
        go_wp2_with fail
        refine (H3.out _).mono ?_
        rintro r w3 ⟨rfl, b3⟩
        have c3 := Lib.hid (c2.out.trans (b3.mono c2.out.size))
        clear b3 c2
        go_wp2_with fail
        refine (H4.out _).mono ?_
        rintro r w4 ⟨rfl, b4⟩
        have c4 := Lib.hid (c3.out.trans (b4.mono c3.out.size))
        clear b4 c3
        go_wp2_with fail
        refine (H5.out _).mono ?_
        rintro r w5 ⟨rfl, b5⟩
        have c5 := Lib.hid (c4.out.trans (b5.mono c4.out.size))
        clear b5 c4
        go_wp2_with fail
        refine (awake5_any _).mono ?_
        rintro r w9 ⟨rfl, b9⟩
        have c9 := Lib.hid (c5.out.trans (b9.mono c5.out.size))
        clear b9 c5
        go_wp2_with fail
        go_ret
        exact ⟨rfl, c9.out⟩
      · have H6 := Lib.hid (h6 rfl)
        clear h6
        go_enter Try.func6, Try.ntmps6
        go_wp2_with fail
        refine (H1.out _).mono ?_
        rintro r w1 ⟨rfl, b1⟩
        have c1 := Lib.hid b1
        clear b1
        go_wp2_with fail
        refine (H2.out _).mono ?_
        rintro r w2 ⟨rfl, b2⟩
        have c2 := Lib.hid (c1.out.trans (b2.mono c1.out.size))
        clear b2 c1
        go_wp2_with fail
        refine (H3.out _).mono ?_
        rintro r w3 ⟨rfl, b3⟩
        have c3 := Lib.hid (c2.out.trans (b3.mono c2.out.size))
        clear b3 c2
        go_wp2_with fail
        refine (H4.out _).mono ?_
        rintro r w4 ⟨rfl, b4⟩
        have c4 := Lib.hid (c3.out.trans (b4.mono c3.out.size))
        clear b4 c3
        go_wp2_with fail
        refine (H5.out _).mono ?_
        rintro r w5 ⟨rfl, b5⟩
        have c5 := Lib.hid (c4.out.trans (b5.mono c4.out.size))
        clear b5 c4
        go_wp2_with fail
        refine (H6.out _).mono ?_
        rintro r w6 ⟨rfl, b6⟩
        have c6 := Lib.hid (c5.out.trans (b6.mono c5.out.size))
        clear b6 c5
        go_wp2_with fail
        refine (awake5_any _).mono ?_
        rintro r w9 ⟨rfl, b9⟩
        have c9 := Lib.hid (c6.out.trans (b9.mono c6.out.size))
        clear b9 c6
        go_wp2_with fail
        go_ret
        exact ⟨rfl, c9.out⟩
  · have q0 : (u : Int) % 3 = 2 := by omega
    have hb2 := hx
    obtain ⟨X, Z, Q, oz, oq, H⟩ := backH (k := 64) (b := x) (neg := neg) (n := n) (fits64 _) hb2 hx hn
    have H1 := Lib.hid H.h1
    have H2 := Lib.hid H.h2
    have H3 := Lib.hid H.h3
    have h4 := H.h4
    have H5 := Lib.hid H.h5
    have h6 := H.h6
    have hX := H.x
    have hZ := H.z
    have hQ := H.q
    clear H
    cases oz
    · clear h4
      cases oq
      · clear h6
        go_enter Try.func6, Try.ntmps6
        go_wp2_with fail
        refine (H1.out _).mono ?_
        rintro r w1 ⟨rfl, b1⟩
        have c1 := Lib.hid b1
        clear b1
        go_wp2_with fail
        refine (H2.out _).mono ?_
        rintro r w2 ⟨rfl, b2⟩
        have c2 := Lib.hid (c1.out.trans (b2.mono c1.out.size))
        clear b2 c1
        go_wp2_with fail
        refine (H3.out _).mono ?_
        rintro r w3 ⟨rfl, b3⟩
        have c3 := Lib.hid (c2.out.trans (b3.mono c2.out.size))
        clear b3 c2
        go_wp2_with fail
        refine (H5.out _).mono ?_
        rintro r w5 ⟨rfl, b5⟩
        have c5 := Lib.hid (c3.out.trans (b5.mono c3.out.size))
        clear b5 c3
        go_wp2_with fail
        refine (awake5_any _).mono ?_
        rintro r w9 ⟨rfl, b9⟩
        have c9 := Lib.hid (c5.out.trans (b9.mono c5.out.size))
        clear b9 c5
        go_wp2_with fail
        go_ret
        exact ⟨rfl, c9.out⟩
      · have H6 := Lib.hid (h6 rfl)
        clear h6
        go_enter Try.func6, Try.ntmps6
        go_wp2_with fail
        refine (H1.out _).mono ?_
        rintro r w1 ⟨rfl, b1⟩
        have c1 := Lib.hid b1
        clear b1
        go_wp2_with fail
        refine (H2.out _).mono ?_
        rintro r w2 ⟨rfl, b2⟩
        have c2 := Lib.hid (c1.out.trans (b2.mono c1.out.size))
        clear b2 c1
        go_wp2_with fail
        refine (H3.out _).mono ?_
        rintro r w3 ⟨rfl, b3⟩
        have c3 := Lib.hid (c2.out.trans (b3.mono c2.out.size))
        clear b3 c2
        go_wp2_with fail
        refine (H5.out _).mono ?_
        rintro r w5 ⟨rfl, b5⟩
        have c5 := Lib.hid (c3.out.trans (b5.mono c3.out.size))
        clear b5 c3
        go_wp2_with fail
        refine (H6.out _).mono ?_
        rintro r w6 ⟨rfl, b6⟩
        have c6 := Lib.hid (c5.out.trans (b6.mono c5.out.size))
        clear b6 c5
        go_wp2_with fail
        refine (awake5_any _).mono ?_
        rintro r w9 ⟨rfl, b9⟩
        have c9 := Lib.hid (c6.out.trans (b9.mono c6.out.size))
        clear b9 c6
        go_wp2_with fail
        go_ret
        exact ⟨rfl, c9.out⟩
    · have H4 := Lib.hid (h4 rfl)
      clear h4
      cases oq
      · clear h6
        go_enter Try.func6, Try.ntmps6
        go_wp2_with fail
        refine (H1.out _).mono ?_
        rintro r w1 ⟨rfl, b1⟩
        have c1 := Lib.hid b1
        clear b1
        go_wp2_with fail
        refine (H2.out _).mono ?_
        rintro r w2 ⟨rfl, b2⟩
        have c2 := Lib.hid (c1.out.trans (b2.mono c1.out.size))
        clear b2 c1
        go_wp2_with fail
        refine (H3.out _).mono ?_
        rintro r w3 ⟨rfl, b3⟩
        have c3 := Lib.hid (c2.out.trans (b3.mono c2.out.size))
        clear b3 c2
        go_wp2_with fail
        refine (H4.out _).mono ?_
        rintro r w4 ⟨rfl, b4⟩
        have c4 := Lib.hid (c3.out.trans (b4.mono c3.out.size))
        clear b4 c3
        go_wp2_with fail
        refine (H5.out _).mono ?_
        rintro r w5 ⟨rfl, b5⟩
        have c5 := Lib.hid (c4.out.trans (b5.mono c4.out.size))
        clear b5 c4
        go_wp2_with fail
        refine (awake5_any _).mono ?_
        rintro r w9 ⟨rfl, b9⟩
        have c9 := Lib.hid (c5.out.trans (b9.mono c5.out.size))
        clear b9 c5
        go_wp2_with fail
        go_ret
        exact ⟨rfl, c9.out⟩
      · have H6 := Lib.hid (h6 rfl)
        clear h6
        go_enter Try.func6, Try.ntmps6
        go_wp2_with fail
        refine (H1.out _).mono ?_
        rintro r w1 ⟨rfl, b1⟩
        have c1 := Lib.hid b1
        clear b1
        go_wp2_with fail
        refine (H2.out _).mono ?_
        rintro r w2 ⟨rfl, b2⟩
        have c2 := Lib.hid (c1.out.trans (b2.mono c1.out.size))
        clear b2 c1
        go_wp2_with fail
        refine (H3.out _).mono ?_
        rintro r w3 ⟨rfl, b3⟩
        have c3 := Lib.hid (c2.out.trans (b3.mono c2.out.size))
        clear b3 c2
        go_wp2_with fail
        refine (H4.out _).mono ?_
        rintro r w4 ⟨rfl, b4⟩
        have c4 := Lib.hid (c3.out.trans (b4.mono c3.out.size))
        clear b4 c3
        go_wp2_with fail
        refine (H5.out _).mono ?_
        rintro r w5 ⟨rfl, b5⟩
        have c5 := Lib.hid (c4.out.trans (b5.mono c4.out.size))
        clear b5 c4
        go_wp2_with fail
        refine (H6.out _).mono ?_
        rintro r w6 ⟨rfl, b6⟩
        have c6 := Lib.hid (c5.out.trans (b6.mono c5.out.size))
        clear b6 c5
        go_wp2_with fail
        refine (awake5_any _).mono ?_
        rintro r w9 ⟨rfl, b9⟩
        have c9 := Lib.hid (c6.out.trans (b9.mono c6.out.size))
        clear b9 c6
        go_wp2_with fail
        go_ret
        exact ⟨rfl, c9.out⟩
end Go.Proofs.Ytkgejncolchobaa.nn
