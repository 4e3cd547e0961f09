/- The walk of the document's Mul. -/
import Derived.Test.YtfdgpfkjpjhmjaaRefTimes
namespace Go.Proofs.Ytfdgpfkjpjhmjaa.nn
open Go.RowKit

set_option maxRecDepth 100000 in
set_option maxHeartbeats 1000000 in
theorem rmul_any (A B : Option Addr) (n m c d : Nat) (f g : Nat → Nat) (w : World) (hA : Rd w .u32 A n f) (hB : Rd w .u32 B m g) (lf : Lt (2 ^ 32) f n) (lg : Lt (2 ^ 32) g m)
    (hnc : n ≤ c) (hmd : m ≤ d) (hc : c * 4 ≤ 140737488351232) (hd : d * 4 ≤ 140737488351232) :
    Calls Try.prog 20 #[.slice A n c, .slice B m d] w fun e w' => Res w w' e (mulR n m f g) (mulE n m f g) := by
  have h2 := rds_two w A B n c m d f g 22 hA hnc (by unfold maxLen; omega) hB hmd (by unfold maxLen; omega)
  have hlong := rlong_any _ 2 2 _ _ _ _ _ h2 (by simp [maxLen]) (fun i hi => by
    rcases i with _ | _ | i
    · show n * 4 ≤ _; omega
    · show m * 4 ≤ _; omega
    · omega)
  rw [lg_two] at hlong
  have HL0 : Calls Try.prog 38 #[.slice (some ⟨w.heap.size, 0, none⟩) 2 2] (w.alloc (.cells #[.slice A n c, .slice B m d] 22)) fun e w' => e = .returned (.bool (tl2 n m f g)) ∧ Below (w.alloc (.cells #[.slice A n c, .slice B m d] 22)).heap.size (w.alloc (.cells #[.slice A n c, .slice B m d] 22)) w' := hlong
  clear hlong h2
  by_cases hl : tl2 n m f g = true
  · rw [hl] at HL0
    have HL := Lib.hid HL0
    have H1 : Hid (mulR n m f g = 0) := if_pos hl
    have H2 : Hid (mulE n m f g = 2) := if_pos hl
    clear HL0 hl
    go_enter Try.func20, Try.ntmps20
    go_wp2_with (go_at_call 38; refine HL.out.mono ?_; rintro e w2 ⟨rfl, hb2⟩)
    go_ret2
    rw [H1.out, H2.out]
    exact ⟨none, 0, 0, _, rfl, num_nil _, ((Below.refl _ _).alloc (Nat.le_refl _) _).trans (hb2.mono (by rw [hsz]; omega))⟩
  · have hl' : tl2 n m f g = false := by cases h : tl2 n m f g <;> simp_all
    have H1 : Hid (mulR n m f g = fitR (sm (2 ^ 32) f n * sm (2 ^ 32) g m)) := if_neg hl
    have H2 : Hid (mulE n m f g = fitE (sm (2 ^ 32) f n * sm (2 ^ 32) g m)) := if_neg hl
    rw [hl'] at HL0
    have HL := Lib.hid HL0
    have lp := lf.mono (tr_le f n)
    have lq := lg.mono (tr_le g m)
    have sp := sm_tr (2 ^ 32) f n
    have sq := sm_tr (2 ^ 32) g m
    obtain ⟨p, hp⟩ : ∃ p, tr f n = p := ⟨_, rfl⟩
    obtain ⟨q, hq⟩ : ∃ q, tr g m = q := ⟨_, rfl⟩
    have h4096 : p ≤ 4096 ∧ q ≤ 4096 := by
      unfold tl2 at hl'
      simp only [Bool.or_eq_false_iff, decide_eq_false_iff_not] at hl'
      omega
    rw [hp] at lp sp
    rw [hq] at lq sq
    rw [← sp, ← sq] at H1 H2
    have HP := Lib.hid hp
    have HQ := Lib.hid hq
    have LP := Lib.hid lp
    have LQ := Lib.hid lq
    have hn4 : n * 4 ≤ 140737488355328 := by omega
    have hm4 : m * 4 ≤ 140737488355328 := by omega
    clear HL0 hl hl' hp hq sp sq lf lg lp lq
    go_enter Try.func20, Try.ntmps20
    go_wp2_with fail
    refine HL.out.mono ?_
    rintro e w2 ⟨rfl, hb2⟩
    have hbw2 : Below w.heap.size w w2 := ((Below.refl _ _).alloc (Nat.le_refl _) _).trans (hb2.mono (by rw [hsz]; omega))
    clear hb2
    go_wp2_with fail
    refine (rtrim_at A n c p f _ HP.out (hA.below hbw2) hnc hn4).mono ?_
    rintro e w3 ⟨A3, c3, rfl, hr3, hb3⟩
    have hbw3 : Below w.heap.size w w3 := hbw2.trans (hb3.mono hbw2.size)
    clear hb3
    go_wp2_with fail
    refine (rtrim_at B m d q g _ HQ.out (hB.below hbw3) hmd hm4).mono ?_
    rintro e w4 ⟨A4, c4, rfl, hr4, hb4⟩
    have hbw4 : Below w.heap.size w w4 := hbw3.trans (hb4.mono hbw3.size)
    have hr34 := hr3.below hb4
    clear hb4 hr3
    go_wp2_with fail
    refine (times_any A3 A4 p q c3 c4 f g w4 hr34 hr4 LP.out LQ.out (by omega) (by omega)).mono ?_
    rintro e w5 ⟨A5, n5, c5, f5, rfl, hn5, hle5, hb5⟩
    have hbw5 : Below w.heap.size w w5 := hbw4.trans (hb5.mono hbw4.size)
    clear hb5 hr4 hr34
    by_cases hz : 4096 < n5
    · have hf : ¬ sm (2 ^ 32) f p * sm (2 ^ 32) g q < big := by have := trm_long hn5.trm hz; rw [hn5.val] at this; omega
      have e1 := Lib.hid (H1.out.trans (fitR_ge hf))
      have e2 := Lib.hid (H2.out.trans (fitE_ge hf))
      clear hf hn5
      go_wp2
      go_ret2
      rw [e1.out, e2.out]
      exact ⟨none, 0, 0, _, rfl, num_nil _, hbw5⟩
    · have hf : sm (2 ^ 32) f p * sm (2 ^ 32) g q < big := by have := trm_short hn5.lt (by omega : n5 ≤ 4096); rw [hn5.val] at this; exact this
      have e1 := Lib.hid (H1.out.trans (fitR_lt hf))
      have e2 := Lib.hid (H2.out.trans (fitE_lt hf))
      have HN := Lib.hid hn5
      clear hf hn5
      go_wp2
      go_ret2
      rw [e1.out, e2.out]
      exact ⟨A5, n5, c5, f5, rfl, HN.out, hbw5⟩
end Go.Proofs.Ytfdgpfkjpjhmjaa.nn
