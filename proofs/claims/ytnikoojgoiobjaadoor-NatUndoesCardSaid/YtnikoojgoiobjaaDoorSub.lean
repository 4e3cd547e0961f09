/- The walk of Sub: the one less the other, or the error. -/
import Derived.Test.YtnikoojgoiobjaaDoorSubtract
import Derived.Test.YtnikoojgoiobjaaDoorRefSub
namespace Go.Proofs.YtnikoojgoiobjaaDoor.nn
open Go.RowKit

set_option maxRecDepth 100000 in
set_option maxHeartbeats 400000 in
theorem subtract_nil (A B : Option Addr) (c m d : Nat) (w : World) :
    Calls Tryd.prog 40 #[.slice A 0 c, .slice B m d] w fun e' w' => e' = .returned (.tuple #[]) ∧ w = w' := by
  go_enter Tryd.func40, Tryd.ntmps40
  go_wp2
  refine wp_loop_rounds 1 ?_
  rw [rounds_succ]
  go_wp2
  go_end0
  exact ⟨rfl, rfl⟩

theorem long_two (w : World) (A B : Option Addr) (n m c d : Nat) (f g : Nat → Nat) (e : TypeId) (hA : Rd w .u32 A n f) (hB : Rd w .u32 B m g) (hnc : n ≤ c) (hmd : m ≤ d) (hc : c ≤ maxLen) (hd : d ≤ maxLen) (b : Bool) (hb : tl2 n m f g = b) :
    Calls Tryd.prog 27 #[.slice (some ⟨w.heap.size, 0, none⟩) 2 2] (w.alloc (.cells #[.slice A n c, .slice B m d] e)) fun e' w' => e' = .returned (.bool b) ∧ w.alloc (.cells #[.slice A n c, .slice B m d] e) = w' := by
  have h := long_any _ 2 2 _ _ _ _ _ (rds_two w A B n c m d f g e hA hnc hc hB hmd hd) (Nat.le_refl _) (by simp [maxLen])
  rw [lg_two] at h
  rw [← hb]
  exact h

/-- what stands behind subtract, trimmed -/
theorem sub_fin {w wr w' : World} {base g c p q : Nat} {cur cur' : Array Value} {f h f' : Nat → Nat} {k : Nat} (H : SubRel wr w' g 45 cur 0 p f (pad h q) f' cur' k p) (hle : sm (2 ^ 32) h q ≤ sm (2 ^ 32) f p) (lf : Lt (2 ^ 32) f p)
    (hfin : ∀ (w' : World) cur' f', Wrote wr w' g 45 cur cur' 0 p → Ints cur' .u32 0 p f' → w'.ownsRow base 45 1 (.slice (some ⟨g, 0, none⟩) p c) p (vl .u32 f' p)) (hc : p ≤ c) (hm : c ≤ maxLen)
    (hb : Below w.heap.size w wr) (hg : w.heap.size ≤ g) :
    Rd w' .u32 (some ⟨g, 0, none⟩) p f' ∧ Num w' (some ⟨g, 0, none⟩) (tr f' p) c f' (sm (2 ^ 32) f p - sm (2 ^ 32) h q) ∧ Below w.heap.size w w' := by
  obtain ⟨h1, h2, h3, _, h5⟩ := H
  have ho := hfin w' cur' f' h1 h2
  obtain ⟨A, c', e, _, _, hr⟩ := Rd.of_own ho
  injection e with e _ _
  subst e
  have hle' := tr_le f' p
  have hv := less_end h5 (sm_low (by decide) (Nat.lt_of_le_of_lt hle (sm_lt lf))) hle h3
  exact ⟨hr, ⟨by omega, hm, hr.mono hle', h3.mono hle', tr_trm _ _, by rw [sm_tr]; exact hv⟩, hb.grown h1.grown hb.size (fun j hj => by injection hj with hj; omega)⟩

set_option maxRecDepth 100000 in
set_option maxHeartbeats 1000000 in
theorem sub_any (A B : Option Addr) (n m c d : Nat) (f g : Nat → Nat) (w : World) (hA : Rd w .u32 A n f) (hB : Rd w .u32 B m g) (lf : Lt (2 ^ 32) f n) (lg : Lt (2 ^ 32) g m)
    (hnc : n ≤ c) (hmd : m ≤ d) (hc : c ≤ maxLen) (hd : d ≤ maxLen) :
    Calls Tryd.prog 16 #[.slice A n c, .slice B m d] w fun e w' => Res w w' e (subR n m f g) (subE n m f g) := by
  by_cases hl : tl2 n m f g = true
  · have H1 : Hid (subR n m f g = 0) := if_pos hl
    have H2 : Hid (subE n m f g = 2) := if_pos hl
    have HL := Lib.hid (long_two w A B n m c d f g 22 hA hB hnc hmd hc hd true hl)
    clear hl
    unfold maxLen at hc hd
    go_enter Tryd.func16, Tryd.ntmps16
    go_wp2_with (go_at_call 27; refine HL.out.mono ?_; rintro e w2 ⟨rfl, rfl⟩)
    go_ret2
    rw [H1.out, H2.out]
    exact ⟨none, 0, 0, _, rfl, num_nil _, (Below.refl _ _).alloc (Nat.le_refl _) _⟩
  · have hl' : tl2 n m f g = false := by cases h : tl2 n m f g <;> simp_all
    have HL := Lib.hid (long_two w A B n m c d f g 22 hA hB hnc hmd hc hd false hl')
    have hA1 := hA.alloc (.cells #[.slice A n c, .slice B m d] 22)
    have hB1 := hB.alloc (.cells #[.slice A n c, .slice B m d] 22)
    have HM := Lib.hid (Cmp_any A B n m c d f g _ hA1 hB1 lf lg hnc hmd hc hd)
    by_cases hlt : sm (2 ^ 32) f n < sm (2 ^ 32) g m
    · have H1 : Hid (subR n m f g = 0) := (if_neg hl).trans (if_pos hlt)
      have H2 : Hid (subE n m f g = 1) := (if_neg hl).trans (if_pos hlt)
      have HC := Lib.hid (cm_lt hlt)
      clear hl hl' hlt
      unfold maxLen at hc hd
      go_enter Tryd.func16, Tryd.ntmps16
      go_wp2_with (first
        | (go_at_call 27; refine HL.out.mono ?_; rintro e w2 ⟨rfl, rfl⟩)
        | (go_at_call 19; refine HM.out.mono ?_; rw [HC.out]; rintro e w4 ⟨rfl, j, rfl⟩))
      go_ret2
      rw [H1.out, H2.out]
      exact ⟨none, 0, 0, _, rfl, num_nil _, drew_below ((Below.refl _ _).alloc (Nat.le_refl _) _) _⟩
    · have H1 : Hid (subR n m f g = sm (2 ^ 32) f n - sm (2 ^ 32) g m) := (if_neg hl).trans (if_neg hlt)
      have H2 : Hid (subE n m f g = 0) := (if_neg hl).trans (if_neg hlt)
      have hle : sm (2 ^ 32) g m ≤ sm (2 ^ 32) f n := by omega
      have HC := cm_ge hlt
      obtain ⟨z, hz⟩ : ∃ z, cm (sm (2 ^ 32) f n) (sm (2 ^ 32) g m) = z := ⟨_, rfl⟩
      rw [hz] at HC
      obtain ⟨z0, z1⟩ := HC
      have HZ := Lib.hid hz
      have lp := lf.mono (tr_le f n)
      have lq := lg.mono (tr_le g m)
      have ep := tr_le f n
      have eq := tr_le g m
      have sp := sm_tr (2 ^ 32) f n
      have sq := sm_tr (2 ^ 32) g m
      obtain ⟨p, hp⟩ : ∃ p, tr f n = p := ⟨_, rfl⟩
      obtain ⟨q, hq⟩ : ∃ q, tr g m = q := ⟨_, rfl⟩
      have h4096 : p ≤ 4096 ∧ q ≤ 4096 := by
        unfold tl2 at hl'
        simp only [Bool.or_eq_false_iff, decide_eq_false_iff_not] at hl'
        omega
      rw [hp] at lp ep sp
      rw [hq] at lq eq sq
      have HP := Lib.hid hp
      have HQ := Lib.hid hq
      rw [← sp, ← sq] at hle H1
      have HLE := Lib.hid hle
      clear hl hl' hlt hz hle hp hq sp sq
      have HT1 : Hid (∀ W, Below w.heap.size w W → Calls Tryd.prog 30 #[.slice A n c] W fun e w' => e = .returned (.slice A p c) ∧ W = w') := Lib.hid fun W hW => by
        have := trim_any A n c f W (hA.below hW) hnc hc
        rw [HP.out] at this
        exact this
      have HT2 : Hid (∀ W, Below w.heap.size w W → Calls Tryd.prog 30 #[.slice B m d] W fun e w' => e = .returned (.slice B q d) ∧ W = w') := Lib.hid fun W hW => by
        have := trim_any B m d g W (hB.below hW) hmd hd
        rw [HQ.out] at this
        exact this
      unfold maxLen at hc hd
      have hbw1 : Below w.heap.size w (w.alloc (.cells #[.slice A n c, .slice B m d] 22)) := (Below.refl _ _).alloc (Nat.le_refl _) _
      go_enter Tryd.func16, Tryd.ntmps16
      go_wp2_with (first
        | (go_at_call 27; refine HL.out.mono ?_; rintro e w2 ⟨rfl, rfl⟩)
        | (go_at_call 19; refine HM.out.mono ?_; rw [HZ.out]; rintro e w4 ⟨rfl, j, rfl⟩; have hbw2 := Lib.hid (drew_below hbw1 j))
        | (go_at_call_of 30 (Value.slice A n c); refine (HT1.out _ hbw2.out).mono ?_; rintro e w' ⟨rfl, rfl⟩)
        | (go_at_call 37; refine (clone_any A p c f _ ((hA.below hbw2.out).mono ep) (by omega)).mono ?_; rintro e w5 ⟨v5, rfl, hown5, hb5⟩; have hbw5 := Lib.hid (hbw2.out.trans (hb5.mono hbw2.out.size)))
        | (go_at_call_of 30 (Value.slice B m d); refine (HT2.out _ hbw5.out).mono ?_; rintro e w' ⟨rfl, rfl⟩))
      have hbw := hbw5.out
      have hs0 := hbw2.out.size
      have hs5 := hbw.size
      have hB5 := hB.below hbw
      clear hb5 hbw2 hbw5
      rcases hown5.2 with ⟨rfl, hp0⟩ | ⟨g0, cap, _, rfl, hg0, _⟩
      · subst hp0
        refine (subtract_nil _ _ _ _ _ _).mono ?_
        rintro e w6 ⟨rfl, rfl⟩
        have HT3 := Lib.hid (trim_any none 0 0 (fun _ => 0) w5 Rd.none_ (Nat.le_refl _) (by simp [maxLen]))
        go_wp2_with (go_at_call 30; refine HT3.out.mono ?_; rintro e w' ⟨rfl, rfl⟩)
        go_ret2
        rw [H1.out, H2.out]
        have e0 : sm (2 ^ 32) f 0 - sm (2 ^ 32) g q = 0 := by simp [sm]
        rw [e0]
        exact ⟨none, 0, 0, _, rfl, num_nil _, hbw⟩
      · obtain ⟨cur, hbk, hint, hbg, hcap, hcm, _, hfin⟩ := own_wrote hown5
        have hgw : w.heap.size ≤ g0 := Nat.le_trans hs0 hg0
        refine (subtract_any g0 0 p cap _ cur f B q d g w5 hbk hint (hB5.mono eq) (fun b o e h0 => ?_) lp lq (by unfold maxLen; omega) (by unfold maxLen; omega)).mono ?_
        · have := hB.lt e (by omega)
          omega
        · rintro e w6 ⟨rfl, f', cur', k, hrel⟩
          obtain ⟨hr6, hnum6, hb6⟩ := sub_fin hrel HLE.out lp hfin hcap hcm hbw hgw
          have HT3 := Lib.hid (trim_any (some ⟨g0, 0, none⟩) p cap f' w6 hr6 hcap hcm)
          have HN := Lib.hid hnum6
          clear hrel hfin hnum6 hbk hint hown5 hr6
          go_wp2_with (go_at_call 30; refine HT3.out.mono ?_; rintro e w' ⟨rfl, rfl⟩)
          go_ret2
          rw [H1.out, H2.out]
          exact ⟨_, _, cap, f', rfl, HN.out, hb6⟩
end Go.Proofs.YtnikoojgoiobjaaDoor.nn
