/- The walks of Div and DivSmall: quotient and rest, or the error. -/
import Derived.Test.YtfdgpfkjpjhmjaaDivideB
import Derived.Test.YtfdgpfkjpjhmjaaMul
import Derived.Test.YtfdgpfkjpjhmjaaShifts
namespace Go.Proofs.Ytfdgpfkjpjhmjaa.nn
open Go.RowKit

theorem divide_any (A B : Option Addr) (n m c d : Nat) (f h : Nat → Nat) (w : World) (hA : Rd w .u64 A n f) (hB : Rd w .u64 B m h)
    (lf : Lt W64 f n) (lh : Lt W64 h m) (tf : Trm f n) (th : Trm h m) (hn : n ≤ 400000) (hm : m ≤ 400000) (h0 : 0 < sm W64 h m) :
    Calls Try.prog 49 #[.slice A n c, .slice B m d] w fun e w' => Two w w' e (sm W64 f n / sm W64 h m) (sm W64 f n % sm W64 h m) := by
  rcases Nat.lt_or_ge (sm W64 f n) (sm W64 h m) with hlt | hge
  · exact divide_less A B n m c d f h w hA hB lf lh tf th hn hm hlt
  · rcases (by omega : m = 0 ∨ m = 1 ∨ 2 ≤ m) with rfl | rfl | hm2
    · simp [sm] at h0
    · exact divide_one A B n c d f h w hA hB lf lh tf th hn hge
    · exact divide_many A B n m c d f h w hA hB lf lh tf th hn hm hm2 hge

/-- limbs put in pairs are trimmed where the limbs are -/
theorem wide_trm {f f' : Nat → Nat} {p N : Nat} (tf : Trm f p) (hN : N = (p + 1) / 2) (l : Lt W64 f' N) (v : sm W64 f' N = sm (2 ^ 32) f p) : Trm f' N := by
  rcases Nat.eq_zero_or_pos p with h0 | h0
  · left; omega
  · obtain ⟨q, rfl⟩ : ∃ q, p = q + 1 := ⟨p - 1, by omega⟩
    obtain ⟨M, rfl⟩ : ∃ M, N = M + 1 := ⟨N - 1, by omega⟩
    refine trm_of l ?_
    rw [v]
    rcases tf with tf | tf
    · omega
    · have h1 := sm_ge (B := 2 ^ 32) (f := f) (n := q) (by simpa using tf)
      rw [w64_pow]
      exact Nat.le_trans (Nat.pow_le_pow_right (Nat.two_pow_pos 32) (by omega)) h1

/-- two numbers, and the number of the error -/
def Res2 (w w' : World) (e : Ending) (Q R er : Nat) : Prop :=
  ∃ A1 n1 c1 f1 A2 n2 c2 f2, e = .returned (.tuple #[.slice A1 n1 c1, .slice A2 n2 c2, .int .i64 (er : Int)]) ∧ Num w' A1 n1 c1 f1 Q ∧ Num w' A2 n2 c2 f2 R ∧ Below w.heap.size w w'

/-- what Div answers -/
def divE (n m : Nat) (f g : Nat → Nat) : Nat := if tl2 n m f g = true then 2 else if sm (2 ^ 32) g m = 0 then 1 else 0
def divQ (n m : Nat) (f g : Nat → Nat) : Nat := if tl2 n m f g = true then 0 else sm (2 ^ 32) f n / sm (2 ^ 32) g m
def divR (n m : Nat) (f g : Nat → Nat) : Nat := if tl2 n m f g = true then 0 else if sm (2 ^ 32) g m = 0 then 0 else sm (2 ^ 32) f n % sm (2 ^ 32) g m

set_option maxRecDepth 100000 in
set_option maxHeartbeats 1000000 in
theorem div_any (A B : Option Addr) (n m c d : Nat) (f g : Nat → Nat) (w : World) (hA : Rd w .u32 A n f) (hB : Rd w .u32 B m g) (lf : Lt (2 ^ 32) f n) (lg : Lt (2 ^ 32) g m)
    (hnc : n ≤ c) (hmd : m ≤ d) (hcm : c ≤ maxLen) (hd : d * 4 ≤ 140737488351232) :
    Calls Try.prog 24 #[.slice A n c, .slice B m d] w fun e w' => Res2 w w' e (divQ n m f g) (divR n m f g) (divE n m f g) := by
  have hdm : d ≤ maxLen := by unfold maxLen; omega
  by_cases hl : tl2 n m f g = true
  · have H1 : Hid (divQ n m f g = 0) := if_pos hl
    have H2 : Hid (divR n m f g = 0) := if_pos hl
    have H3 : Hid (divE n m f g = 2) := if_pos hl
    have HL := Lib.hid (long_two w A B n m c d f g 22 hA hB hnc hmd hcm hdm true hl)
    clear hl
    unfold maxLen at hcm hdm
    go_enter Try.func24, Try.ntmps24
    go_wp2_with (go_at_call 33; refine HL.out.mono ?_; rintro e w2 ⟨rfl, rfl⟩)
    go_ret3
    rw [H1.out, H2.out, H3.out]
    exact ⟨none, 0, 0, _, none, 0, 0, _, rfl, num_nil _, num_nil _, (Below.refl _ _).alloc (Nat.le_refl _) _⟩
  · have hl' : tl2 n m f g = false := by cases h : tl2 n m f g <;> simp_all
    have HL := Lib.hid (long_two w A B n m c d f g 22 hA hB hnc hmd hcm hdm false hl')
    have hbw1 : Below w.heap.size w (w.alloc (.cells #[.slice A n c, .slice B m d] 22)) := (Below.refl _ _).alloc (Nat.le_refl _) _
    have HBT := Lib.hid (bits_any B m d g _ (hB.below hbw1) lg hmd hdm (by omega))
    by_cases hz : sm (2 ^ 32) g m = 0
    · have H1 : Hid (divQ n m f g = 0) := Lib.hid (by unfold divQ; rw [if_neg hl, hz]; exact Nat.div_zero _)
      have H2 : Hid (divR n m f g = 0) := Lib.hid (by unfold divR; rw [if_neg hl, if_pos hz])
      have H3 : Hid (divE n m f g = 1) := Lib.hid (by unfold divE; rw [if_neg hl, if_pos hz])
      rw [hz, bl_zero] at HBT
      clear hl hl' hz
      unfold maxLen at hcm hdm
      go_enter Try.func24, Try.ntmps24
      go_wp2_with fail
      refine HL.out.mono ?_
      rintro e w' ⟨rfl, rfl⟩
      go_wp2_with fail
      refine HBT.out.mono ?_
      rintro e w' ⟨rfl, rfl⟩
      go_wp2
      go_ret3
      rw [H1.out, H2.out, H3.out]
      exact ⟨none, 0, 0, _, none, 0, 0, _, rfl, num_nil _, num_nil _, hbw1⟩
    · have H1 : Hid (divQ n m f g = sm (2 ^ 32) f n / sm (2 ^ 32) g m) := Lib.hid (by unfold divQ; rw [if_neg hl])
      have H2 : Hid (divR n m f g = sm (2 ^ 32) f n % sm (2 ^ 32) g m) := Lib.hid (by unfold divR; rw [if_neg hl, if_neg hz])
      have H3 : Hid (divE n m f g = 0) := Lib.hid (by unfold divE; rw [if_neg hl, if_neg hz])
      have hbpos := (bl_ge hz).2
      have lp := lf.mono (tr_le f n)
      have lq := lg.mono (tr_le g m)
      have ep := tr_le f n
      have eq := tr_le g m
      have sp := sm_tr (2 ^ 32) f n
      have sq := sm_tr (2 ^ 32) g m
      have tp := tr_trm f n
      have tq := tr_trm g m
      obtain ⟨p, hp⟩ : ∃ p, tr f n = p := ⟨_, rfl⟩
      obtain ⟨q, hq⟩ : ∃ q, tr g m = q := ⟨_, rfl⟩
      have h4096 : p ≤ 4096 ∧ q ≤ 4096 := by
        unfold tl2 at hl'
        simp only [Bool.or_eq_false_iff, decide_eq_false_iff_not] at hl'
        omega
      rw [hp] at lp ep sp tp
      rw [hq] at lq eq sq tq
      rw [← sp, ← sq] at H1 H2
      rw [← sq] at hz hbpos HBT
      have HP := Lib.hid hp
      have HQ := Lib.hid hq
      have HZ := Lib.hid hz
      have TP := Lib.hid tp
      have TQ := Lib.hid tq
      obtain ⟨K, hK⟩ : ∃ K, bl (sm (2 ^ 32) g q) = K := ⟨_, rfl⟩
      rw [hK] at HBT hbpos
      have hKb : ((K : Int) == 0) = false := by rw [beq_eq_false_iff_ne]; omega
      have HT1 : Hid (∀ W, Below w.heap.size w W → Calls Try.prog 35 #[.slice A n c] W fun e w' => e = .returned (.slice A p c) ∧ W = w') := Lib.hid fun W hW => by
        have := trim_any A n c f W (hA.below hW) hnc hcm
        rw [HP.out] at this
        exact this
      have HT2 : Hid (∀ W, Below w.heap.size w W → Calls Try.prog 35 #[.slice B m d] W fun e w' => e = .returned (.slice B q d) ∧ W = w') := Lib.hid fun W hW => by
        have := trim_any B m d g W (hB.below hW) hmd hdm
        rw [HQ.out] at this
        exact this
      have LP := Lib.hid lp
      have LQ := Lib.hid lq
      clear hl hl' hp hq sp sq lf lg lp lq hz hbpos hK tp tq
      unfold maxLen at hcm hdm
      go_enter Try.func24, Try.ntmps24
      go_wp2_with fail
      refine HL.out.mono ?_
      rintro e w' ⟨rfl, rfl⟩
      go_wp2_with fail
      refine HBT.out.mono ?_
      rintro e w' ⟨rfl, rfl⟩
      go_wp2_with fail
      refine (HT1.out _ hbw1).mono ?_
      rintro e w' ⟨rfl, rfl⟩
      go_wp2_with fail
      refine (widen_any A p c f _ ((hA.below hbw1).mono ep) LP.out (by omega)).mono ?_
      rintro e w3 ⟨g3, cur3, f3, rfl, hg3, hk3, hs3, hi3, l3, v3, hb3⟩
      have hbw3 : Below w.heap.size w w3 := hbw1.trans (hb3.mono hbw1.size)
      have r3 := hi3.rd hk3
      have L3 := Lib.hid l3
      have V3 := Lib.hid v3
      clear hk3 hi3 hs3 l3 v3 hg3 hb3
      go_wp2_with fail
      refine (HT2.out _ hbw3).mono ?_
      rintro e w' ⟨rfl, rfl⟩
      go_wp2_with fail
      refine (widen_any B q d g _ ((hB.below hbw3).mono eq) LQ.out (by omega)).mono ?_
      rintro e w5 ⟨g5, cur5, f5, rfl, hg5, hk5, hs5, hi5, l5, v5, hb5⟩
      have hbw5 : Below w.heap.size w w5 := hbw3.trans (hb5.mono hbw3.size)
      have r5 := hi5.rd hk5
      have r35 := r3.below hb5
      have L5 := Lib.hid l5
      have V5 := Lib.hid v5
      clear hk5 hi5 hs5 l5 v5 hg5 hb5 r3
      have T3 := Lib.hid (wide_trm TP.out rfl L3.out V3.out)
      have T5 := Lib.hid (wide_trm TQ.out rfl L5.out V5.out)
      go_wp2_with fail
      refine (divide_any _ _ _ _ _ _ f3 f5 w5 r35 r5 L3.out L5.out T3.out T5.out (by omega) (by omega) (by have h1 := V5.out; have h2 := HZ.out; omega)).mono ?_
      rintro e w6 ⟨A6, n6, c6, f6, A7, n7, c7, f7, rfl, r6, r7, l6, l7, v6, v7, b6, b7, hb6⟩
      have hbw6 : Below w.heap.size w w6 := hbw5.trans (hb6.mono hbw5.size)
      have L6 := Lib.hid l6
      have V6 := Lib.hid v6
      have L7 := Lib.hid l7
      have V7 := Lib.hid v7
      clear l6 v6 hb6 r5 r35 l7 v7
      go_wp2_with fail
      refine (narrow_any _ _ _ f6 w6 r6 L6.out (by omega)).mono ?_
      rintro e w8 ⟨A8, n8, c8, f8, rfl, h8, _, hb8⟩
      have hbw8 : Below w.heap.size w w8 := hbw6.trans (hb8.mono hbw6.size)
      have r78 := r7.below hb8
      have N8 := Lib.hid h8
      clear h8 hb8 r6 r7
      go_wp2_with fail
      refine (narrow_any _ _ _ f7 w8 r78 L7.out (by omega)).mono ?_
      rintro e w9 ⟨A9, n9, c9, f9, rfl, h9, _, hb9⟩
      have hbw9 : Below w.heap.size w w9 := hbw8.trans (hb9.mono hbw8.size)
      have N9 := Lib.hid h9
      have N8' : Hid (Num w9 A8 n8 c8 f8 (sm W64 f6 n6)) := Lib.hid ⟨N8.out.le, N8.out.cap, N8.out.rd.below hb9, N8.out.lt, N8.out.trm, N8.out.val⟩
      clear h9 hb9 r78
      go_wp2
      go_ret3
      rw [H1.out, H2.out, H3.out]
      refine ⟨A8, n8, c8, f8, A9, n9, c9, f9, rfl, ?_, ?_, hbw9⟩
      · have h1 := N8'.out
        rw [V6.out, V3.out, V5.out] at h1
        exact h1
      · have h1 := N9.out
        rw [V7.out, V3.out, V5.out] at h1
        exact h1
end Go.Proofs.Ytfdgpfkjpjhmjaa.nn
