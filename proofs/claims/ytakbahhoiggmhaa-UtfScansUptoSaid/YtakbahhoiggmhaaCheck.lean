/- The walks of Check, and of the document's Check. -/
import Derived.Test.YtakbahhoiggmhaaRefWithin
namespace Go.Proofs.Ytakbahhoiggmhaa.nn
open Go.RowKit

theorem rcheck_any (s : ByteArray) (w : World) (hs : s.size ≤ maxLen) :
    Calls Try.prog 11 #[.string s] w fun r w' => r = .returned (.tuple #[.int .i64 (ckA (bt s) s.size : Int), .int .i64 (ckE (bt s) s.size : Int)]) ∧ Below w.heap.size w w' := by
  have hC := rwithin_any s (-1) w hs (by omega) (by simp [maxLen])
  rw [spw_neg (by omega), wE_neg (by omega)] at hC
  have HC := Lib.hid hC
  clear hC
  have hA : ckA (bt s) s.size = sp (bt s) t0 s.size := rfl
  rw [hA]
  clear hA
  go_enter Try.func11, Try.ntmps11
  go_wp2_with fail
  refine HC.out.mono ?_
  rintro r w1 ⟨rfl, hb⟩
  go_wp2_with fail
  go_ret2
  exact ⟨rfl, hb⟩

theorem sc_new (w : World) : Sc (w.alloc (.cells #[.int .i64 0, .int .u8 0, .int .u8 0] 45)) w.heap.size 45 [] t0 := heap_alloc_last _ _

set_option maxRecDepth 100000 in
set_option maxHeartbeats 1000000 in
theorem check_any (s : ByteArray) (w : World) (hs : s.size ≤ maxLen) :
    Calls Try.prog 10 #[.string s] w fun r w' => r = .returned (.tuple #[.int .i64 (ckA (bt s) s.size : Int), .int .i64 (ckE (bt s) s.size : Int)]) ∧ Below w.heap.size w w' := by
  have HC := Lib.hid (takeS_any s t0 w.heap.size 0 45 [] _ (sc_new w) rfl gd_zero hs)
  have hle : sp (bt s) t0 s.size ≤ s.size := sp_le
  have H0 := Lib.hid (Below.refl w.heap.size w)
  have H1 := Lib.hid (fun o => (Below.refl w.heap.size w).alloc (Nat.le_refl _) o)
  unfold maxLen at hs
  by_cases hal : al (bt s) t0 s.size = true
  · have hE : ckA (bt s) s.size = s.size := sp_all hal
    rw [hE]
    rw [show sp (bt s) t0 s.size = s.size from hE] at HC
    have hc4 := gd_lt (gd_go gd_zero s.size (f := bt s))
    by_cases hz : (tk (bt s) t0 s.size).c = 0
    · have hE2 : ckE (bt s) s.size = 0 := by unfold ckE; rw [if_pos hal, if_pos hz]
      rw [hE2]
      have HZ := Lib.hid hz
      clear hz hE2 hE hal hle hc4
      go_enter Try.func10, Try.ntmps10
      go_wp2_with fail
      refine HC.out.mono ?_
      rintro r w1 ⟨rfl, hb, hsc⟩
      have c0 : w1.cell? ⟨w.heap.size, 0, none⟩ = some (.int .i64 0) := by
        have h := hsc.c0 (off := 0) rfl
        rw [HZ.out] at h
        exact h
      clear hsc
      go_wp2_with fail
      go_ret2
      exact ⟨rfl, (H1.out _).trans hb⟩
    · have hE2 : ckE (bt s) s.size = 3 := by unfold ckE; rw [if_pos hal, if_neg hz]
      rw [hE2]
      obtain ⟨c, hc⟩ : ∃ c, (tk (bt s) t0 s.size).c = c := ⟨_, rfl⟩
      have HZ := Lib.hid hc
      rw [hc] at hz hc4
      have hz' : 0 < c := by omega
      clear hz hE2 hE hal hle hc
      go_enter Try.func10, Try.ntmps10
      go_wp2_with fail
      refine HC.out.mono ?_
      rintro r w1 ⟨rfl, hb, hsc⟩
      have c0 := hsc.c0 (off := 0) rfl
      rw [HZ.out] at c0
      clear hsc
      go_wp2_with fail
      go_ret2
      exact ⟨rfl, (H1.out _).trans hb⟩
  · have hal' : al (bt s) t0 s.size = false := by simpa using hal
    have hE2 : ckE (bt s) s.size = 4 := by unfold ckE; rw [if_neg hal]
    rw [hE2]
    have hl := (sp_lt hal').1
    have hA : ckA (bt s) s.size = sp (bt s) t0 s.size := rfl
    rw [hA]
    clear hE2 hal hal' hA hle
    obtain ⟨p, hp⟩ : ∃ p, sp (bt s) t0 s.size = p := ⟨_, rfl⟩
    rw [hp] at HC hl
    rw [hp]
    clear hp
    go_enter Try.func10, Try.ntmps10
    go_wp2_with fail
    refine HC.out.mono ?_
    rintro r w1 ⟨rfl, hb, _⟩
    go_wp2_with fail
    go_ret2
    exact ⟨rfl, (H1.out _).trans hb⟩
end Go.Proofs.Ytakbahhoiggmhaa.nn
