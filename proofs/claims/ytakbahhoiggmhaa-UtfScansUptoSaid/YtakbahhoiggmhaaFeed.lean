/- The walks of New, and of Feed where the scan is open. -/
import Derived.Test.YtakbahhoiggmhaaScan
import Derived.Test.YtakbahhoiggmhaaTakeB
namespace Go.Proofs.Ytakbahhoiggmhaa.nn
open Go.RowKit

theorem new_any (w : World) : Calls Try.prog 19 #[] w fun r w' => r = .returned (.pointer (some ⟨w.heap.size, 0, none⟩)) ∧ Below w.heap.size w w' ∧ Scn w' w.heap.size 1 0 t0 := by
  go_enter Try.func19, Try.ntmps19
  go_wp2
  go_ret
  exact ⟨rfl, (Below.refl _ _).alloc (Nat.le_refl _) _, heap_alloc_last _ _⟩

set_option maxRecDepth 100000 in
set_option maxHeartbeats 1000000 in
theorem feed_open (A : Option Addr) (n cp : Nat) (f : Nat → Nat) (t : Tl) (g at_ : Nat) (w : World) (h : Scn w g 1 at_ t) (ht : Gd t)
    (hA : Rd w .u8 A n f) (hAg : ∀ b o, A = some ⟨b, o, none⟩ → 0 < n → b < g) (hf : ∀ i, i < n → f i < 256) (hn : n ≤ cp) (hc : cp ≤ maxLen) (hat : at_ + n ≤ maxLen) :
    Calls Try.prog 20 #[.pointer (some ⟨g, 0, none⟩), .slice A n cp] w fun r w' =>
      r = .returned (.int .i64 ((if al f t n then 0 else 4 : Nat) : Int)) ∧ Below g w w' ∧ Scn w' g (if al f t n then 1 else 2) (at_ + sp f t n) (tk f t n) := by
  have HR : Hid (Calls Try.prog 30 #[.pointer (some ⟨g, 0, none⟩)] w fun r w' => r = .returned (.int .i64 0) ∧ w = w') := Lib.hid (refusal_any g 1 at_ t w h (by omega))
  have HT := Lib.hid (takeB_any A n cp f t g 2 _ _ w h rfl ht hA hAg hf hn hc)
  have hle : sp f t n ≤ n := sp_le
  have H0 := Lib.hid h
  unfold maxLen at hc hat
  clear h hA hAg hf
  by_cases ha : al f t n = true
  · have e : sp f t n = n := sp_all ha
    rw [if_pos ha, if_pos ha, e]
    rw [e] at HT
    clear ha e hle
    go_enter Try.func20, Try.ntmps20
    go_wp2_with fail
    refine HR.out.mono ?_
    rintro r w1 ⟨rfl, rfl⟩
    go_wp2_with fail
    refine HT.out.mono ?_
    rintro r w2 ⟨rfl, hb, hs⟩
    have s1 := Scn.s1 hs
    have hfz := Sc.frozen hs
    have hl := Sc.lt hs
    have HS := Lib.hid hs
    clear hs
    go_wp2_with fail
    go_ret
    exact ⟨rfl, hb.setCell (Nat.le_refl g) _, Scn.put1 HS.out (at_ + n)⟩
  · have hl2 := (sp_lt (by simpa using ha)).1
    rw [if_neg ha, if_neg ha]
    obtain ⟨p, hp⟩ : ∃ p, sp f t n = p := ⟨_, rfl⟩
    rw [hp] at HT hl2 hle
    rw [hp]
    clear ha hp
    go_enter Try.func20, Try.ntmps20
    go_wp2_with fail
    refine HR.out.mono ?_
    rintro r w1 ⟨rfl, rfl⟩
    go_wp2_with fail
    refine HT.out.mono ?_
    rintro r w2 ⟨rfl, hb, hs⟩
    have s1 := Scn.s1 hs
    have s0 := Scn.s0 hs
    have hfz := Sc.frozen hs
    have hl := Sc.lt hs
    have HS := Lib.hid hs
    clear hs
    go_wp2_with fail
    go_ret
    exact ⟨rfl, (hb.setCell (Nat.le_refl g) _).setCell (Nat.le_refl g) _, Scn.put0 (Scn.put1 HS.out (at_ + p)) 2⟩
end Go.Proofs.Ytakbahhoiggmhaa.nn
