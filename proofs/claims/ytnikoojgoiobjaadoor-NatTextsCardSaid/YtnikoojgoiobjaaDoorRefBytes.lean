/- The walk of the document's Bytes. -/
import Derived.Test.YtnikoojgoiobjaaDoorNatBytes
import Derived.Test.YtnikoojgoiobjaaDoorRefCmp
import Derived.Test.YtnikoojgoiobjaaDoorAppend
namespace Go.Proofs.YtnikoojgoiobjaaDoor.nn
open Go.RowKit

/-- how many bytes a number has -/
def nb (N : Nat) : Nat := (bl N + 7) / 8
theorem nb_zero : nb 0 = 0 := rfl
theorem bl_mono {a b : Nat} (h : a ≤ b) : bl a ≤ bl b := bl_le (Nat.lt_of_le_of_lt h (bl_lt b))
theorem nb_mono {a b : Nat} (h : a ≤ b) : nb a ≤ nb b := by have := bl_mono h; unfold nb; omega
theorem nb_lt (N : Nat) : N < 256 ^ nb N := by
  refine Nat.lt_of_lt_of_le (bl_lt N) ?_
  rw [show (256 : Nat) = 2 ^ 8 from rfl, ← Nat.pow_mul]
  exact Nat.pow_le_pow_right (by decide) (by unfold nb; omega)
theorem nb_ge {N : Nat} (h : N ≠ 0) : 256 ^ (nb N - 1) ≤ N ∧ 0 < nb N := by
  obtain ⟨b1, b2⟩ := bl_ge h
  refine ⟨Nat.le_trans ?_ b1, by unfold nb; omega⟩
  rw [show (256 : Nat) = 2 ^ 8 from rfl, ← Nat.pow_mul]
  exact Nat.pow_le_pow_right (by decide) (by unfold nb; omega)
theorem nb_of {N j : Nat} (h1 : 256 ^ j ≤ N) (h2 : N < 256 ^ (j + 1)) : nb N = j + 1 := by
  have h3 : N ≠ 0 := by have := Nat.pow_pos (n := j) (by decide : 0 < 256); omega
  obtain ⟨h4, h5⟩ := nb_ge h3
  have h6 := nb_lt N
  rcases Nat.lt_trichotomy (nb N) (j + 1) with h | h | h
  · have : 256 ^ nb N ≤ 256 ^ j := Nat.pow_le_pow_right (by decide) (by omega)
    omega
  · exact h
  · have : 256 ^ (j + 1) ≤ 256 ^ (nb N - 1) := Nat.pow_le_pow_right (by decide) (by omega)
    omega
theorem nb_step {N0 N1 c : Nat} (h : N0 = N1 * 256 + c) (hc : c < 256) (hN : 0 < nb N1 ∨ c ≠ 0) : nb N0 = nb N1 + 1 := by
  by_cases h0 : N1 = 0
  · subst h0
    rw [nb_zero] at hN ⊢
    refine nb_of (j := 0) ?_ ?_
    · simp; omega
    · omega
  · obtain ⟨h1, h2⟩ := nb_ge h0
    have h3 := nb_lt N1
    obtain ⟨k, hk⟩ : ∃ k, nb N1 = k + 1 := ⟨nb N1 - 1, by omega⟩
    rw [hk] at h1 h3 ⊢
    rw [Nat.add_sub_cancel] at h1
    refine nb_of ?_ ?_
    · rw [Nat.pow_succ]; omega
    · rw [Nat.pow_succ]; omega

/-- the bytes of N stand in a row -/
def Byts (O : Nat → Nat) (N j : Nat) : Prop := j = nb N ∧ ∀ t, t < j → O t = N / 256 ^ (j - 1 - t) % 256
theorem Byts.step {O : Nat → Nat} {N0 N1 c j : Nat} (H : Byts O N1 j) (h : N0 = N1 * 256 + c) (hc : c < 256) (hN : 0 < j ∨ c ≠ 0) : Byts (jn O j (fun _ => c)) N0 (j + 1) := by
  obtain ⟨h1, h2⟩ := H
  refine ⟨by rw [h1, nb_step h hc (by rw [← h1]; exact hN)], fun t ht => ?_⟩
  by_cases e : t = j
  · subst e
    have := jn_hi O (fun _ => c) t 0
    rw [Nat.add_zero] at this
    rw [this, Nat.add_sub_cancel, Nat.sub_self, Nat.pow_zero, Nat.div_one, h]
    omega
  · rw [jn_lo O _ (by omega), h2 t (by omega), Nat.add_sub_cancel]
    obtain ⟨d, hd⟩ : ∃ d, j - t = d + 1 := ⟨j - t - 1, by omega⟩
    rw [hd, show j - 1 - t = d by omega, Nat.pow_succ, Nat.mul_comm (256 ^ d) 256, ← Nat.div_div_eq_div_mul, h, show (N1 * 256 + c) / 256 = N1 by omega]
theorem Byts.skip {O : Nat → Nat} {N0 N1 j : Nat} (H : Byts O N1 j) (h : N0 = N1 * 256) (hN : j = 0) : Byts O N0 j := by
  obtain ⟨h1, _⟩ := H
  subst hN
  have h0 : N1 = 0 := by
    rcases Nat.eq_zero_or_pos N1 with e | e
    · exact e
    · have := (nb_ge (N := N1) (by omega)).2; omega
  subst h0
  rw [h, Nat.zero_mul]
  exact ⟨rfl, fun t ht => absurd ht (by omega)⟩
theorem div256 (N p : Nat) : N / 256 ^ p = N / 256 ^ (p + 1) * 256 + N / 256 ^ p % 256 := by
  rw [Nat.pow_succ, ← Nat.div_div_eq_div_mul]
  omega

def RbRel (base : Nat) (w0 wr : World) (v : Value) (N j : Nat) : Prop :=
  ∃ O, wr.ownsRow base 5 1 v j (vl .u8 O j) ∧ Below base w0 wr ∧ base ≤ wr.heap.size ∧ Byts O N j ∧ ∀ t, t < j → O t < 256

/-- bytes are the answer: just those of N -/
def OutR (w w' : World) (e : Ending) (N : Nat) : Prop :=
  ∃ A c O, e = .returned (.slice A ((bl N + 7) / 8) c) ∧ Rd w' .u8 A ((bl N + 7) / 8) O ∧
    (∀ i, i < (bl N + 7) / 8 → O i = N / 256 ^ ((bl N + 7) / 8 - 1 - i) % 256) ∧ Below w.heap.size w w'

set_option maxRecDepth 100000 in
set_option maxHeartbeats 1000000 in
theorem rbytes_any (A : Option Addr) (n c : Nat) (f : Nat → Nat) (w : World) (hA : Rd w .u32 A n f) (lf : Lt (2 ^ 32) f n) (hn : n ≤ c) (hreach : n * 4 ≤ 140737488351232) :
    Calls Tryd.prog 11 #[.slice A n c] w fun e w' => OutR w w' e (sm (2 ^ 32) f n) := by
  obtain ⟨i0, hi, hz0, hz1, hz2⟩ := info_parts info_u8
  have hle := tr_le f n
  have hsm := sm_tr (2 ^ 32) f n
  obtain ⟨p, hp⟩ : ∃ p, tr f n = p := ⟨_, rfl⟩
  have HT := Lib.hid (rtrim_at A n c p f w hp hA hn (by omega))
  rw [hp] at hle hsm
  have lp := lf.mono hle
  have hN := sm_lt lp
  obtain ⟨N, hNN⟩ : ∃ N, sm (2 ^ 32) f p = N := ⟨_, rfl⟩
  have HBY : Hid (∀ q r, q < p → r < 4 → N / 256 ^ (4 * q + r) % 256 = f q / 2 ^ (8 * r) % 256) := Lib.hid fun q r hq hr => by rw [← hNN]; exact sm_byte lp hq hr
  rw [← hsm, hNN]
  rw [hNN] at hN
  have hN4 : N < 256 ^ (4 * p) := by
    rw [Nat.pow_mul]; exact hN
  have hbl : nb N ≤ 4 * n := by
    have h1 : bl N ≤ 32 * p := bl_le (by rw [Nat.pow_mul 2 32 p]; exact hN)
    unfold nb; omega
  have HN0 : Hid (N / 256 ^ (4 * p) = 0) := Lib.hid (Nat.div_eq_of_lt hN4)
  have HBL := Lib.hid hbl
  have HLP := Lib.hid lp
  clear hp hsm hN hNN hN4 hbl lf lp hA
  go_enter Tryd.func11, Tryd.ntmps11
  go_wp2_with fail
  refine HT.out.mono ?_
  rintro e w1 ⟨A1, c1, rfl, hr1, hb1⟩
  have HR1 := Lib.hid hr1
  have HB1 := Lib.hid hb1
  clear hr1 hb1
  go_wp2_with fail
  go_loopw [4, 5] (fun s4 s5 wr => ∃ (u j : Nat) (A' : Option Addr) (c' : Nat), u ≤ p ∧ s5 = .int .i64 ((u : Int) - 1) ∧ s4 = .slice A' j c' ∧ j ≤ 4 * n ∧ Hid (RbRel w1.heap.size w1 wr (.slice A' j c') (N / 256 ^ (4 * u)) j)) (fun _ s5 _ => (intOf s5 + 1).toNat)
  case atStart => exact ⟨p, 0, none, 0, Nat.le_refl _, rfl, rfl, Nat.zero_le _, Lib.hid ⟨fun _ => 0, World.ownsRow_nil _ _ _ _, Below.refl _ _, Nat.le_refl _, by rw [HN0.out]; exact ⟨rfl, fun t ht => absurd ht (by omega)⟩, fun t ht => absurd ht (by omega)⟩⟩
  case round =>
    obtain ⟨u, j, A', c', hu, rfl, rfl, hj, hrelo⟩ := hrel
    by_cases hu0 : 0 < u
    · obtain ⟨q, rfl⟩ : ∃ q, u = q + 1 := ⟨u - 1, by omega⟩
      have hs0 : (((q + 1 : Nat) : Int) - 1) = (q : Int) := by omega
      rw [hs0]
      clear hs0
      go_wp2_with fail
      go_loopw [4, 6] (fun s4 s6 wr => ∃ (r t j : Nat) (A' : Option Addr) (c' : Nat), r ≤ 4 ∧ 8 * r = t ∧ s6 = .int .i64 ((t : Int) - 8) ∧ s4 = .slice A' j c' ∧ j ≤ 4 * n ∧ Hid (RbRel w1.heap.size w1 wr (.slice A' j c') (N / 256 ^ (4 * q + r)) j)) (fun _ s6 _ => (intOf s6 + 8).toNat)
      case atStart => exact ⟨4, 32, j, A', c', Nat.le_refl _, rfl, rfl, rfl, hj, hrelo⟩
      case round =>
        clear hrelo hj
        obtain ⟨r, t, j, A', c', hr, ht, rfl, rfl, hj, hrel⟩ := hrel
        by_cases hr0 : 0 < r
        · obtain ⟨s, rfl⟩ : ∃ s, r = s + 1 := ⟨r - 1, by omega⟩
          obtain ⟨t', rfl⟩ : ∃ t', t = t' + 8 := ⟨t - 8, by omega⟩
          have ht' : 8 * s = t' := by omega
          have hs0 : (((t' + 8 : Nat) : Int) - 8) = (t' : Int) := by omega
          rw [hs0]
          have t32 : t' < 32 := by omega
          obtain ⟨O, ho, hbw, hsz', hby, hO⟩ := hrel.out
          obtain ⟨b, off, rfl, _, hcell⟩ := (HR1.out.below hbw) (by omega)
          have hx := hcell q (by omega)
          have bx := HLP.out q (by omega)
          have hval := HBY.out q s (by omega) (by omega)
          rw [ht'] at hval
          obtain ⟨cc, hcc⟩ : ∃ cc, f q / 2 ^ t' % 256 = cc := ⟨_, rfl⟩
          rw [hcc] at hval
          have hd := div256 N (4 * q + s)
          rw [hval] at hd
          have hc256 : cc < 256 := by omega
          have HD := Lib.hid hd
          have hz : (f q : Int) / 2 ^ t' % 256 = (cc : Int) := by
            rw [← hcc]
            simp
          have HBW := Lib.hid hbw
          clear hs0 hcell hval hd hcc ht
          have HBY2 := Lib.hid hby
          have HO := Lib.hid hO
          have HTT := Lib.hid ht'
          clear hby hO hbw ht'
          by_cases hj0 : 0 < j
          · have HC : Hid (0 < j ∨ cc ≠ 0) := Lib.hid (.inl hj0)
            go_wp2_with (at_builtin; refine wpList_app rfl (.tmp 35) (.tmp 37) _ rfl w1.heap.size 5 i0 _ 1 Tryd.underlying23 hi hz0 hz1 hz2 rfl .u8 _ j O rfl (ho.alloc _) _ 1 1 (fun _ => cc) rfl (rd_one _ .u8 cc _) (by unfold maxLen; omega) (by omega) (by rw [hsz]; omega) ?_; intro v1 w2 hown1 hb2)
            obtain ⟨A2, c2, rfl, _, _, _⟩ := Rd.of_own hown1
            have hby2 := Byts.step HBY2.out HD.out hc256 HC.out
            have hj2 : j + 1 ≤ 4 * n := by rw [hby2.1]; exact Nat.le_trans (nb_mono (Nat.div_le_self _ _)) HBL.out
            have hrel2 : Hid (RbRel w1.heap.size w1 w2 (.slice A2 (j + 1) c2) (N / 256 ^ (4 * q + s)) (j + 1)) := Lib.hid ⟨_, hown1, (HBW.out.alloc hsz' _).trans hb2, by have := hb2.size; rw [hsz] at this; omega, hby2, fun t ht => by
              by_cases e : t < j
              · rw [jn_lo O _ e]; exact HO.out t e
              · rw [jn, if_neg e]; exact hc256⟩
            clear hown1 hb2 hby2
            go_wp2_with fail
            go_roundw
            case rel => exact ⟨s, t', j + 1, A2, c2, by omega, HTT.out, rfl, rfl, hj2, hrel2⟩
            case measure => simp [intOf]; omega
          · obtain rfl : j = 0 := by omega
            by_cases hcz : cc = 0
            · subst hcz
              have hby2 : Hid (Byts O (N / 256 ^ (4 * q + s)) 0) := Lib.hid (Byts.skip HBY2.out (by rw [HD.out, Nat.add_zero]; rfl) rfl)
              have hrel2 : Hid (RbRel w1.heap.size w1 wr (.slice A' 0 c') (N / 256 ^ (4 * q + s)) 0) := Lib.hid ⟨_, ho, HBW.out, hsz', hby2.out, fun t ht => absurd ht (by omega)⟩
              clear ho hj0
              go_wp2_with fail
              go_roundw
              case rel => exact ⟨s, t', 0, A', c', by omega, HTT.out, rfl, rfl, Nat.zero_le _, hrel2⟩
              case measure => simp [intOf]; omega
            · have HC : Hid (0 < 0 ∨ cc ≠ 0) := Lib.hid (.inr hcz)
              have hcz2 : 0 < cc := by omega
              have hcz3 : ((cc : Int) != 0) = true := by simp; omega
              go_wp2_with (at_builtin; refine wpList_app rfl (.tmp 35) (.tmp 37) _ rfl w1.heap.size 5 i0 _ 1 Tryd.underlying23 hi hz0 hz1 hz2 rfl .u8 _ 0 O rfl (ho.alloc _) _ 1 1 (fun _ => cc) rfl (rd_one _ .u8 cc _) (by unfold maxLen; omega) (by omega) (by rw [hsz]; omega) ?_; intro v1 w2 hown1 hb2)
              obtain ⟨A2, c2, rfl, _, _, _⟩ := Rd.of_own hown1
              have hby2 := Byts.step HBY2.out HD.out hc256 HC.out
              have hj2 : 0 + 1 ≤ 4 * n := by rw [hby2.1]; exact Nat.le_trans (nb_mono (Nat.div_le_self _ _)) HBL.out
              have hrel2 : Hid (RbRel w1.heap.size w1 w2 (.slice A2 (0 + 1) c2) (N / 256 ^ (4 * q + s)) (0 + 1)) := Lib.hid ⟨_, hown1, (HBW.out.alloc hsz' _).trans hb2, by have := hb2.size; rw [hsz] at this; omega, hby2, fun t ht => by
                by_cases e : t < 0
                · rw [jn_lo O _ e]; exact HO.out t e
                · rw [jn, if_neg e]; exact hc256⟩
              clear hown1 hb2 hby2
              go_wp2_with fail
              go_roundw
              case rel => exact ⟨s, t', 0 + 1, A2, c2, by omega, HTT.out, rfl, rfl, hj2, hrel2⟩
              case measure => simp [intOf]; omega
        · obtain rfl : r = 0 := by omega
          obtain rfl : t = 0 := by omega
          go_wp2_with fail
          go_roundw
          case rel => exact ⟨q, j, A', c', by omega, by go_num, rfl, hj, hrel⟩
          case measure => simp [intOf]
    · obtain rfl : u = 0 := by omega
      obtain ⟨O, ho, hbw, hsz', hby, hO⟩ := hrelo.out
      rw [Nat.mul_zero, Nat.pow_zero, Nat.div_one] at hby
      obtain ⟨A2, c2, e2, hc2, hm2, hr2⟩ := Rd.of_own ho
      injection e2 with e2 _ e3
      subst e2
      subst e3
      have HR2 := Lib.hid hr2
      have HBB := Lib.hid (HB1.out.trans (hbw.mono HB1.out.size))
      have HBT := Lib.hid hby
      clear ho hbw hby hr2
      go_wp2_with fail
      go_ret
      obtain ⟨h1, h2⟩ := HBT.out
      subst h1
      exact ⟨_, _, O, rfl, HR2.out, h2, HBB.out⟩
end Go.Proofs.YtnikoojgoiobjaaDoor.nn
