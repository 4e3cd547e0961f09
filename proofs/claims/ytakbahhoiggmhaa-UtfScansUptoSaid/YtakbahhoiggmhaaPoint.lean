/- The walks of Point, of the document's Point, and of the laws' awake. -/
import Derived.Test.YtakbahhoiggmhaaPointOf
import Derived.Test.YtakbahhoiggmhaaCheck
namespace Go.Proofs.Ytakbahhoiggmhaa.nn
open Go.RowKit

/-- does a code point stand at the beginning -/
def pok (f : Nat → Nat) (n : Nat) : Bool := decide (n ≠ 0 ∧ nd (f 0) ≠ 0 ∧ nd (f 0) ≤ n) && al f t0 (nd (f 0))
def ptK (f : Nat → Nat) (n : Nat) : Nat := if pok f n then nd (f 0) else 0
def ptV (f : Nat → Nat) (n : Nat) : Nat := if pok f n then pv f (nd (f 0)) (nd (f 0) - 1) else 0
/-- i bytes of it have come, and more are due -/
def Mid (f : Nat → Nat) (i : Nat) : Prop := i = 0 ∨ (tk f t0 i).c + i = nd (f 0) ∧ (tk f t0 i).c ≠ 0

section
variable {f g : Nat → Nat} {n i j k : Nat}
theorem pok_yes (h0 : n ≠ 0) (hk : nd (f 0) = k) (h1 : k ≠ 0) (h2 : k ≤ n) (h3 : al f t0 k = true) : ptK f n = k ∧ ptV f n = pv f k (k - 1) := by
  have : pok f n = true := by
    unfold pok
    rw [hk, h3, decide_eq_true ⟨h0, h1, h2⟩]
    rfl
  unfold ptK ptV
  rw [if_pos this, if_pos this, hk]
  exact ⟨rfl, rfl⟩
theorem pok_no (h : n = 0 ∨ nd (f 0) = 0 ∨ n < nd (f 0) ∨ al f t0 (nd (f 0)) = false) : ptK f n = 0 ∧ ptV f n = 0 := by
  have : pok f n = false := by
    unfold pok
    rcases h with h | h | h | h
    · rw [decide_eq_false (fun q => q.1 h)]; rfl
    · rw [decide_eq_false (fun q => q.2.1 h)]; rfl
    · rw [decide_eq_false (fun q => by omega)]; rfl
    · rw [h, Bool.and_false]
  unfold ptK ptV
  rw [if_neg (by rw [this]; decide), if_neg (by rw [this]; decide)]
  exact ⟨rfl, rfl⟩
theorem mid_step (hm : Mid f i) (h : al f t0 (i + 1) = true) : (tk f t0 (i + 1)).c + (i + 1) = nd (f 0) := by
  rcases hm with rfl | ⟨h1, h2⟩
  · rw [al_succ, Bool.and_eq_true] at h
    have h2 := h.2
    rw [tk_succ h.1]
    have h3 : nd (f 0) ≠ 0 := of_decide_eq_true h2
    show (bh (f 0)).c + 1 = _
    unfold bh
    split
    · simp only [t0]; omega
    · dsimp only; omega
  · have := due_step h h2
    omega
theorem mid_no (hm : Mid f i) (h : al f t0 (i + 1) = false) : nd (f 0) = 0 ∨ al f t0 (nd (f 0)) = false := by
  by_cases h0 : nd (f 0) = 0
  · exact .inl h0
  · refine .inr (dead h ?_)
    rcases hm with rfl | ⟨h1, h2⟩
    · omega
    · omega
theorem pv_congr (e : ∀ i, i ≤ j → f i = g i) : pv f k j = pv g k j := by
  induction j with
  | zero => unfold pv hdv; rw [e 0 (by omega)]
  | succ j ih => rw [pv, pv, ih fun i hi => e i (by omega), e (j + 1) (Nat.le_refl _)]
end

set_option maxRecDepth 100000 in
set_option maxHeartbeats 1000000 in
theorem point_any (s : ByteArray) (w : World) (hs : s.size ≤ maxLen) :
    Calls Try.prog 15 #[.string s] w fun r w' => r = .returned (.tuple #[.int .i64 (ptV (bt s) s.size : Int), .int .i64 (ptK (bt s) s.size : Int)]) ∧ Below w.heap.size w w' := by
  unfold maxLen at hs
  go_enter Try.func15, Try.ntmps15
  go_wp2
  go_loopw [8] (fun s8 wr => ∃ i : Nat, i ≤ s.size ∧ s8 = .int .i64 (i : Int) ∧ Hid (al (bt s) t0 i = true) ∧ Hid (Mid (bt s) i) ∧ Hid (Sc wr w.heap.size 45 [] (tk (bt s) t0 i)) ∧ Hid (Below w.heap.size w wr)) (fun s8 _ => s.size - (intOf s8).toNat)
  case atStart => exact ⟨0, Nat.zero_le _, rfl, Lib.hid rfl, Lib.hid (.inl rfl), Lib.hid (sc_new w), Lib.hid ((Below.refl _ _).alloc (Nat.le_refl _) _)⟩
  case round =>
    obtain ⟨i, hi, rfl, hal, hmid, hsc, hb⟩ := hrel
    by_cases hlt : i < s.size
    · have hC := take_any (tk (bt s) t0 i) w.heap.size 0 45 [] (bt s i) wr hsc.out rfl (bt_lt s i) (gd_lt (gd_go gd_zero i))
      have hx := bt_at hlt
      by_cases hy : ok (tk (bt s) t0 i) (bt s i) = true
      · have ha1 : al (bt s) t0 (i + 1) = true := by rw [al_succ, hal.out, hy]; rfl
        have htk : tk (bt s) t0 (i + 1) = nx (tk (bt s) t0 i) (bt s i) := tk_succ hal.out
        have hst := mid_step hmid.out ha1
        rw [hy, hx] at hC
        rw [hx] at htk
        have HT := Lib.hid htk
        have HC := Lib.hid hC
        have hn5 := nd_lt (bt s 0)
        have hc4 := gd_lt (gd_go gd_zero (i + 1) (f := bt s))
        obtain ⟨c, hc⟩ : ∃ c, (tk (bt s) t0 (i + 1)).c = c := ⟨_, rfl⟩
        rw [hc] at hc4 hst
        have HCC := Lib.hid hc
        by_cases hz : c = 0
        · subst hz
          rw [Nat.zero_add] at hst
          obtain ⟨s2, hs2⟩ : ∃ s2, s.extract 0 (i + 1) = s2 := ⟨_, rfl⟩
          have hsz : s2.size = i + 1 := by rw [← hs2, ByteArray.size_extract]; omega
          have hbt : ∀ j, j ≤ i → bt s2 j = bt s j := fun j hj => by
            subst hs2
            have h1 : j < s.size := by omega
            have h2 : j < (s.extract 0 (i + 1)).size := by omega
            rw [bt_at h1, bt_at h2, ByteArray.getElem_extract]
            simp
          have hP := fun wz => pointOf_any s2 wz (by omega) (by omega)
          rw [hsz, Nat.add_sub_cancel, pv_congr hbt] at hP
          have hA := pok_yes (n := s.size) (by omega) hst.symm (by omega) (by omega) ha1
          rw [Nat.add_sub_cancel] at hA
          rw [← hA.2] at hP
          have HP := Lib.hid hP
          have HA := Lib.hid hA
          clear hy hx hC htk ha1 hc hst hsz hbt hA hP hn5
          go_wp2_with fail
          refine HC.out.mono ?_
          rintro r w1 ⟨rfl, hb1, hs1⟩
          have c0 : w1.cell? ⟨w.heap.size, 0, none⟩ = some (.int .i64 0) := by
            have h := hs1.c0 (off := 0) rfl
            rw [← HT.out, HCC.out] at h
            exact h
          have hb2 := Lib.hid (hb.out.trans hb1)
          clear hs1 hb1
          go_wp2_with fail
          refine (HP.out _).mono ?_
          rintro r w2 ⟨rfl, rfl⟩
          go_wp2_with fail
          go_ret2
          exact ⟨ret_two rfl HA.out.1.symm, hb2.out⟩
        · have hmid' := Lib.hid (show Mid (bt s) (i + 1) from .inr (by rw [hc]; exact ⟨hst, hz⟩))
          have HA1 := Lib.hid ha1
          have hz' : ((c : Int) == 0) = false := by simp; omega
          clear hy hx hC htk ha1 hc hst hn5
          go_wp2_with fail
          refine HC.out.mono ?_
          rintro r w1 ⟨rfl, hb1, hs1⟩
          have c0 := hs1.c0 (off := 0) rfl
          rw [← HT.out, HCC.out] at c0
          have hs2 : Hid (Sc w1 w.heap.size 45 [] (tk (bt s) t0 (i + 1))) := Lib.hid (by rw [HT.out]; exact hs1)
          have hb2 := Lib.hid (hb.out.trans hb1)
          clear hs1 hb1
          go_wp2_with fail
          go_roundw
          case rel => exact ⟨i + 1, by omega, by go_num, HA1, hmid', hs2, hb2⟩
          case measure => simp [intOf]; omega
      · have hy' : ok (tk (bt s) t0 i) (bt s i) = false := by simpa using hy
        have ha1 : al (bt s) t0 (i + 1) = false := by rw [al_succ, hy']; simp
        have hno := mid_no hmid.out ha1
        have HA := Lib.hid (pok_no (n := s.size) (hno.elim (fun h => .inr (.inl h)) (fun h => .inr (.inr (.inr h)))))
        rw [hy', hx] at hC
        have HC := Lib.hid hC
        clear hy hx hC hno hy' ha1
        go_wp2_with fail
        refine HC.out.mono ?_
        rintro r w1 ⟨rfl, hb1, hs1⟩
        have hb2 := Lib.hid (hb.out.trans hb1)
        clear hs1 hb1
        go_wp2_with fail
        go_ret2
        exact ⟨ret_two HA.out.2.symm HA.out.1.symm, hb2.out⟩
    · obtain rfl : i = s.size := by omega
      have HA := Lib.hid (pok_no (f := bt s) (n := s.size) (hmid.out.elim .inl (fun h => .inr (.inr (.inl (by omega))))))
      go_wp2_with fail
      go_ret2
      exact ⟨ret_two HA.out.2.symm HA.out.1.symm, hb.out⟩

theorem awake_any (w : World) : Calls Try.prog 14 #[] w fun e w' => e = .returned (.bool true) ∧ Below w.heap.size w w' := by
  have hC := point_any ⟨#[65]⟩ w (by decide)
  have e1 : ptK (bt ⟨#[65]⟩) (ByteArray.size ⟨#[65]⟩) = 1 := by decide
  have e2 : ptV (bt ⟨#[65]⟩) (ByteArray.size ⟨#[65]⟩) = 65 := by decide
  rw [e1, e2] at hC
  have HC := Lib.hid hC
  clear hC e1 e2
  go_enter Try.func14, Try.ntmps14
  go_wp2_with fail
  refine HC.out.mono ?_
  rintro r w1 ⟨rfl, hb⟩
  go_wp2_with fail
  go_ret
  exact ⟨rfl, hb⟩
end Go.Proofs.Ytakbahhoiggmhaa.nn
