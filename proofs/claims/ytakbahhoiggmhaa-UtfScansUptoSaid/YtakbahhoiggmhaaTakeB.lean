/- The walk of takeAll over a slice of bytes. -/
import Derived.Test.YtakbahhoiggmhaaBytes
namespace Go.Proofs.Ytakbahhoiggmhaa.nn
open Go.RowKit

set_option maxRecDepth 100000 in
set_option maxHeartbeats 1000000 in
theorem takeB_any (A : Option Addr) (n cp : Nat) (f : Nat → Nat) (t : Tl) (g off : Nat) (e : TypeId) (pre : List Value) (w : World) (h : Sc w g e pre t) (ho : pre.length = off) (ht : Gd t)
    (hA : Rd w .u8 A n f) (hAg : ∀ b o, A = some ⟨b, o, none⟩ → 0 < n → b < g) (hf : ∀ i, i < n → f i < 256) (hn : n ≤ cp) (hc : cp ≤ maxLen) :
    Calls Try.prog 31 #[.pointer (some ⟨g, off, none⟩), .slice A n cp] w fun r w' => r = .returned (.int .i64 (sp f t n : Int)) ∧ Below g w w' ∧ Sc w' g e pre (tk f t n) := by
  unfold maxLen at hc
  have ho' := Lib.hid ho
  have h' := Lib.hid h
  have HF := Lib.hid hf
  clear ho h hf
  go_enter Try.func31, Try.ntmps31
  go_wp2
  go_loopw [8] (fun s8 wr => ∃ k : Nat, k ≤ n ∧ s8 = .int .i64 (k : Int) ∧ Hid (al f t k = true) ∧ Hid (Below g w wr) ∧ Hid (Sc wr g e pre (tk f t k))) (fun s8 _ => n - (intOf s8).toNat)
  case atStart => exact ⟨0, Nat.zero_le _, rfl, Lib.hid rfl, Lib.hid (Below.refl _ _), h'⟩
  case round =>
    obtain ⟨k, hk, rfl, hal, hb, hsc⟩ := hrel
    by_cases hlt : k < n
    · have hx256 := HF.out k hlt
      have hC := take_any (tk f t k) g off e pre (f k) wr hsc.out ho'.out hx256 (gd_lt (gd_go ht k))
      obtain ⟨b, o, rfl, _, hcell⟩ := hA (by omega)
      have hbg := hAg b o rfl (by omega)
      have hx : wr.cell? ⟨b, o + k, none⟩ = some (.int .u8 (f k : Int)) := (hb.out.cell (p := ⟨b, o + k, none⟩) hbg).trans (hcell k hlt)
      clear hcell hA hAg hbg
      by_cases hy : ok (tk f t k) (f k) = true
      · rw [hy] at hC
        have hal' : Hid (al f t (k + 1) = true) := Lib.hid (by rw [al_succ, hal.out, hy]; rfl)
        have htk : Hid (tk f t (k + 1) = nx (tk f t k) (f k)) := Lib.hid (tk_succ hal.out)
        have HC := Lib.hid hC
        clear hC hy
        go_wp2_with fail
        refine HC.out.mono ?_
        rintro r w1 ⟨rfl, hb1, hs1⟩
        have hb2 := Lib.hid (hb.out.trans hb1)
        have hs2 : Hid (Sc w1 g e pre (tk f t (k + 1))) := Lib.hid (by rw [htk.out]; exact hs1)
        clear hb1 hs1
        go_wp2_with fail
        go_roundw
        case rel => exact ⟨k + 1, by omega, by go_num, hal', hb2, hs2⟩
        case measure => simp [intOf]; omega
      · have hy' : ok (tk f t k) (f k) = false := by simpa using hy
        rw [hy'] at hC
        have hal' : al f t (k + 1) = false := by rw [al_succ, hal.out, hy']; rfl
        have hE : Hid (sp f t n = k) := Lib.hid (sp_stop hal.out hal' (by omega))
        have htk : Hid (tk f t n = nx (tk f t k) (f k)) := Lib.hid (by rw [tk_dead hal' (by omega), tk_succ hal.out])
        have HC := Lib.hid hC
        clear hC hy hy' hal'
        go_wp2_with fail
        refine HC.out.mono ?_
        rintro r w1 ⟨rfl, hb1, hs1⟩
        have hb2 := Lib.hid (hb.out.trans hb1)
        have hs2 : Hid (Sc w1 g e pre (tk f t n)) := Lib.hid (by rw [htk.out]; exact hs1)
        clear hb1 hs1
        go_wp2_with fail
        go_ret
        exact ⟨ret_n hE.out.symm, hb2.out, hs2.out⟩
    · obtain rfl : k = n := by omega
      have hE : Hid (sp f t k = k) := Lib.hid (sp_all hal.out)
      go_wp2_with fail
      go_ret
      exact ⟨ret_n hE.out.symm, hb.out, hsc.out⟩
end Go.Proofs.Ytakbahhoiggmhaa.nn
