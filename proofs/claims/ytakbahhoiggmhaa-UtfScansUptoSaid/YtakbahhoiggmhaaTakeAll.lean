/- The walk of takeAll over a string: how many bytes are taken, and what is due behind them. -/
import Derived.Test.YtakbahhoiggmhaaTake
namespace Go.Proofs.Ytakbahhoiggmhaa.nn
open Go.RowKit

/-- byte i of a text -/
def bt (s : ByteArray) (i : Nat) : Nat := if h : i < s.size then s[i].toNat else 0
theorem bt_at {s : ByteArray} {i : Nat} (h : i < s.size) : bt s i = s[i].toNat := dif_pos h
theorem bt_lt (s : ByteArray) (i : Nat) : bt s i < 256 := by
  unfold bt
  split
  · exact s[i].toNat_lt
  · omega

theorem ret_n {k : IntKind} {a b : Nat} (h : a = b) : Ending.returned (.int k (a : Int)) = .returned (.int k (b : Int)) := by rw [h]
/-- behind a refused byte the state stays -/
theorem tk_dead {f : Nat → Nat} {t : Tl} {m n : Nat} (h : al f t m = false) (hm : m ≤ n) : tk f t n = tk f t m := by
  induction n with
  | zero => obtain rfl : m = 0 := by omega
            rfl
  | succ n ih =>
    by_cases e : m = n + 1
    · subst e; rfl
    · have hn := dead h (show m ≤ n by omega)
      rw [← ih (by omega)]
      unfold al at hn
      unfold tk
      rw [go, if_neg (by rw [hn]; decide)]

set_option maxRecDepth 100000 in
set_option maxHeartbeats 1000000 in
theorem takeS_any (s : ByteArray) (t : Tl) (g off : Nat) (e : TypeId) (pre : List Value) (w : World) (h : Sc w g e pre t) (ho : pre.length = off) (ht : Gd t) (hs : s.size ≤ maxLen) :
    Calls Try.prog 24 #[.pointer (some ⟨g, off, none⟩), .string s] w fun r w' => r = .returned (.int .i64 (sp (bt s) t s.size : Int)) ∧ Below g w w' ∧ Sc w' g e pre (tk (bt s) t s.size) := by
  unfold maxLen at hs
  have ho' := Lib.hid ho
  have h' := Lib.hid h
  clear ho h
  go_enter Try.func24, Try.ntmps24
  go_wp2
  go_loopw [8] (fun s8 wr => ∃ k : Nat, k ≤ s.size ∧ s8 = .int .i64 (k : Int) ∧ Hid (al (bt s) t k = true) ∧ Hid (Below g w wr) ∧ Hid (Sc wr g e pre (tk (bt s) t k))) (fun s8 _ => s.size - (intOf s8).toNat)
  case atStart => exact ⟨0, Nat.zero_le _, rfl, Lib.hid rfl, Lib.hid (Below.refl _ _), h'⟩
  case round =>
    obtain ⟨k, hk, rfl, hal, hb, hsc⟩ := hrel
    by_cases hlt : k < s.size
    · have hC := take_any (tk (bt s) t k) g off e pre (bt s k) wr hsc.out ho'.out (bt_lt s k) (gd_lt (gd_go ht k))
      rw [bt_at hlt] at hC
      have hok := bt_at hlt
      by_cases hy : ok (tk (bt s) t k) (bt s k) = true
      · rw [← hok, hy, hok] at hC
        have hal' : Hid (al (bt s) t (k + 1) = true) := Lib.hid (by rw [al_succ, hal.out, hy]; rfl)
        have htk : Hid (tk (bt s) t (k + 1) = nx (tk (bt s) t k) s[k].toNat) := Lib.hid (by rw [tk_succ hal.out, hok])
        have HC := Lib.hid hC
        clear hC hy hok
        go_wp2_with fail
        refine HC.out.mono ?_
        rintro r w1 ⟨rfl, hb1, hs1⟩
        have hb2 := Lib.hid (hb.out.trans hb1)
        have hs2 : Hid (Sc w1 g e pre (tk (bt s) t (k + 1))) := Lib.hid (by rw [htk.out]; exact hs1)
        clear hb1 hs1
        go_wp2_with fail
        go_roundw
        case rel => exact ⟨k + 1, by omega, by go_num, hal', hb2, hs2⟩
        case measure => simp [intOf]; omega
      · have hy' : ok (tk (bt s) t k) (bt s k) = false := by simpa using hy
        rw [← hok, hy', hok] at hC
        have hal' : al (bt s) t (k + 1) = false := by rw [al_succ, hal.out, hy']; rfl
        have hE : Hid (sp (bt s) t s.size = k) := Lib.hid (sp_stop hal.out hal' (by omega))
        have htk : Hid (tk (bt s) t s.size = nx (tk (bt s) t k) s[k].toNat) := Lib.hid (by rw [tk_dead hal' (by omega), tk_succ hal.out, hok])
        have HC := Lib.hid hC
        clear hC hy hok hy' hal'
        go_wp2_with fail
        refine HC.out.mono ?_
        rintro r w1 ⟨rfl, hb1, hs1⟩
        have hb2 := Lib.hid (hb.out.trans hb1)
        have hs2 : Hid (Sc w1 g e pre (tk (bt s) t s.size)) := Lib.hid (by rw [htk.out]; exact hs1)
        clear hb1 hs1
        go_wp2_with fail
        go_ret
        exact ⟨ret_n hE.out.symm, hb2.out, hs2.out⟩
    · obtain rfl : k = s.size := by omega
      have hE : Hid (sp (bt s) t s.size = s.size) := Lib.hid (sp_all hal.out)
      go_wp2_with fail
      go_ret
      exact ⟨ret_n hE.out.symm, hb.out, hsc.out⟩
end Go.Proofs.Ytakbahhoiggmhaa.nn
