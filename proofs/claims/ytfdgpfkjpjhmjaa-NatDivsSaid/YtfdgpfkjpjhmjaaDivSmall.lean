/- The walk of DivSmall: quotient and rest by one limb, or the error. -/
import Derived.Test.YtfdgpfkjpjhmjaaDiv
namespace Go.Proofs.Ytfdgpfkjpjhmjaa.nn
open Go.RowKit

/-- a number, a limb, and the number of the error -/
def ResS (w w' : World) (e : Ending) (Q r er : Nat) : Prop :=
  ∃ A n c f, e = .returned (.tuple #[.slice A n c, .int .u32 (r : Int), .int .i64 (er : Int)]) ∧ Num w' A n c f Q ∧ Below w.heap.size w w'

/-- what DivSmall answers -/
def smE (n : Nat) (f : Nat → Nat) (d : Nat) : Nat := if 4096 < tr f n then 2 else if d = 0 then 1 else 0
def smQ (n : Nat) (f : Nat → Nat) (d : Nat) : Nat := if 4096 < tr f n then 0 else sm (2 ^ 32) f n / d
def smR (n : Nat) (f : Nat → Nat) (d : Nat) : Nat := if 4096 < tr f n then 0 else if d = 0 then 0 else sm (2 ^ 32) f n % d

set_option maxRecDepth 100000 in
set_option maxHeartbeats 1000000 in
theorem divSmall_any (A : Option Addr) (n c d : Nat) (f : Nat → Nat) (w : World) (hA : Rd w .u32 A n f) (lf : Lt (2 ^ 32) f n) (hnc : n ≤ c) (hcm : c ≤ maxLen) (hd : d < 4294967296) :
    Calls Try.prog 21 #[.slice A n c, .int .u32 d] w fun e w' => ResS w w' e (smQ n f d) (smR n f d) (smE n f d) := by
  have hbw1 : Below w.heap.size w (w.alloc (.cells #[.slice A n c] 22)) := (Below.refl _ _).alloc (Nat.le_refl _) _
  by_cases hl : 4096 < tr f n
  · have H1 : Hid (smQ n f d = 0) := if_pos hl
    have H2 : Hid (smR n f d = 0) := if_pos hl
    have H3 : Hid (smE n f d = 2) := if_pos hl
    have HL := Lib.hid (long_one w A n c f 22 hA hnc hcm true (decide_eq_true hl))
    clear hl
    unfold maxLen at hcm
    go_enter Try.func21, Try.ntmps21
    go_wp2_with (go_at_call 33; refine HL.out.mono ?_; rintro e w2 ⟨rfl, rfl⟩)
    go_ret3
    rw [H1.out, H2.out, H3.out]
    exact ⟨none, 0, 0, _, rfl, num_nil _, hbw1⟩
  · have HL := Lib.hid (long_one w A n c f 22 hA hnc hcm false (decide_eq_false hl))
    rcases Nat.eq_zero_or_pos d with hz | hz
    · subst hz
      have H1 : Hid (smQ n f 0 = 0) := Lib.hid (by unfold smQ; rw [if_neg hl]; exact Nat.div_zero _)
      have H2 : Hid (smR n f 0 = 0) := Lib.hid (by unfold smR; rw [if_neg hl, if_pos rfl])
      have H3 : Hid (smE n f 0 = 1) := Lib.hid (by unfold smE; rw [if_neg hl, if_pos rfl])
      clear hl
      unfold maxLen at hcm
      go_enter Try.func21, Try.ntmps21
      go_wp2_with (go_at_call 33; refine HL.out.mono ?_; rintro e w2 ⟨rfl, rfl⟩)
      go_ret3
      rw [H1.out, H2.out, H3.out]
      exact ⟨none, 0, 0, _, rfl, num_nil _, hbw1⟩
    · have H1 : Hid (smQ n f d = sm (2 ^ 32) f n / d) := Lib.hid (by unfold smQ; rw [if_neg hl])
      have H2 : Hid (smR n f d = sm (2 ^ 32) f n % d) := Lib.hid (by unfold smR; rw [if_neg hl, if_neg (by omega)])
      have H3 : Hid (smE n f d = 0) := Lib.hid (by unfold smE; rw [if_neg hl, if_neg (by omega)])
      have lp := lf.mono (tr_le f n)
      have ep := tr_le f n
      have sp := sm_tr (2 ^ 32) f n
      have HT := trim_any A n c f _ (hA.below hbw1) hnc hcm
      obtain ⟨p, hp⟩ : ∃ p, tr f n = p := ⟨_, rfl⟩
      rw [hp] at lp ep sp hl HT
      rw [← sp] at H1 H2
      have HTT := Lib.hid HT
      have LP := Lib.hid lp
      clear hp sp lf lp HT
      unfold maxLen at hcm
      have hdz : ((d : Int) == 0) = false := by rw [beq_eq_false_iff_ne]; omega
      go_enter Try.func21, Try.ntmps21
      go_wp2_with fail
      refine HL.out.mono ?_
      rintro e w' ⟨rfl, rfl⟩
      go_wp2_with fail
      refine HTT.out.mono ?_
      rintro e w' ⟨rfl, rfl⟩
      go_wp2_with fail
      refine (widen_any A p c f _ ((hA.below hbw1).mono ep) LP.out (by omega)).mono ?_
      rintro e w3 ⟨g3, cur3, f3, rfl, hg3, hk3, hs3, hi3, l3, v3, hb3⟩
      have hbw3 : Below w.heap.size w w3 := hbw1.trans (hb3.mono hbw1.size)
      have hwg : w.heap.size ≤ g3 := Nat.le_trans hbw1.size hg3
      have HB3 := Lib.hid hbw3
      have V3 := Lib.hid v3
      clear hs3 v3 hg3 hb3 hbw3
      go_wp2_with fail
      refine (divideBy_any g3 0 _ _ _ cur3 f3 d w3 hk3 hi3 l3 hz (by unfold W64; omega) (by unfold maxLen; omega)).mono ?_
      rintro e' w4 ⟨r, f4, cur4, rfl, hr, hw4, hi4, l4, v4⟩
      have hbw4 : Below w.heap.size w w4 := HB3.out.grown hw4.grown HB3.out.size (fun k hk => by injection hk with hk; omega)
      have hq : Hid (sm W64 f4 ((p + 1) / 2) = sm W64 f3 ((p + 1) / 2) / d ∧ r = sm W64 f3 ((p + 1) / 2) % d) := Lib.hid (by
        rw [v4, Nat.mul_comm, Nat.mul_add_mod_of_lt' hr hz, Nat.mul_add_div' hr hz]
        exact ⟨rfl, rfl⟩)
      have hr3 := hi4.rd hw4.blk
      have L4 := Lib.hid l4
      have br : r ≤ 4294967295 := by omega
      clear v4 hi4 l4 hw4 hk3 hi3 l3 hr
      go_wp2_with fail
      refine (narrow_any _ _ _ f4 w4 hr3 L4.out (by omega)).mono ?_
      rintro e w5 ⟨A5, n5, c5, f5, rfl, h5, _, hb5⟩
      have hbw5 : Below w.heap.size w w5 := hbw4.trans (hb5.mono hbw4.size)
      have N5 := Lib.hid h5
      clear h5 hb5 hr3
      go_wp2
      go_ret3
      rw [H1.out, H2.out, H3.out]
      refine ⟨A5, n5, c5, f5, ?_, ?_, hbw5⟩
      · rw [← V3.out, ← hq.out.2]
        rfl
      · have h1 := N5.out
        rw [hq.out.1, V3.out] at h1
        exact h1
end Go.Proofs.Ytfdgpfkjpjhmjaa.nn
