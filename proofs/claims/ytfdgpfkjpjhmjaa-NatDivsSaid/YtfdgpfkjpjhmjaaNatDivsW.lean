/- The walk of the law NatDivs: it returns true. -/
import Derived.Test.YtfdgpfkjpjhmjaaRefDiv
import Derived.Test.YtfdgpfkjpjhmjaaRefDivSmall
import Derived.Test.YtfdgpfkjpjhmjaaNatSubsW
namespace Go.Proofs.Ytfdgpfkjpjhmjaa.nn
open Go.RowKit

theorem num_drewN {w : World} {A : Option Addr} {n c : Nat} {f : Nat → Nat} {R : Nat} (h : Num w A n c f R) (j : Nat) : Num (w.drewN j) A n c f R := ⟨h.le, h.cap, h.rd.drewN j, h.lt, h.trm, h.val⟩

/-- are the first n rows short? -/
def sml (L : Nat → Nat) : Nat → Bool
  | 0 => true
  | n + 1 => sml L n && decide (L n ≤ 200)
theorem sml_no {L : Nat → Nat} {n : Nat} (i : Nat) (hi : i < n) (h : 200 < L i) : sml L n = false := by
  induction n with
  | zero => omega
  | succ n ih =>
    rw [sml]
    by_cases e : i = n
    · subst e; simp; omega
    · rw [ih (by omega)]; rfl
theorem sml_next {L : Nat → Nat} {i : Nat} (h : sml L i = true) (hi : ¬ 200 < L i) : sml L (i + 1) = true := by
  rw [sml, h]; simp; omega

set_option maxHeartbeats 400000 in
theorem small_any (A : Option Addr) (n c : Nat) (AA : Nat → Option Addr) (L C : Nat → Nat) (F : Nat → Nat → Nat) (w : World) (hA : Rds w A n AA L C F) (hn : n ≤ maxLen) :
    Calls Try.prog 23 #[.slice A n c] w fun e w' => e = .returned (.bool (sml L n)) ∧ w = w' := by
  unfold maxLen at hn
  go_enter Try.func23, Try.ntmps23
  go_wp2
  go_loop [3] (fun s => ∃ i : Nat, i ≤ n ∧ s = .int .i64 i ∧ Hid (sml L i = true)) (fun s => n - (intOf s).toNat)
  case atStart => exact ⟨0, Nat.zero_le _, rfl, Lib.hid rfl⟩
  case round =>
    obtain ⟨i, hi, rfl, hl⟩ := hrel
    by_cases hlt : i < n
    · obtain ⟨b, off, rfl, _, hcell⟩ := hA (by omega)
      obtain ⟨hx, hlc, hcm, _⟩ := hcell i hlt
      clear hcell
      unfold maxLen at hcm
      by_cases hz : 200 < L i
      · have H := Lib.hid (sml_no (L := L) (n := n) i hlt hz)
        go_wp2
        go_ret
        exact ⟨ret_bool H.out.symm, rfl⟩
      · have H := Lib.hid (sml_next hl.out hz)
        go_wp2
        go_round
        case rel => exact ⟨i + 1, by omega, by go_num, H⟩
        case measure => simp [intOf]; omega
    · obtain rfl : i = n := by omega
      go_wp2
      go_ret
      exact ⟨ret_bool hl.out.symm, rfl⟩

theorem small_two (w : World) (A B : Option Addr) (n m c d : Nat) (f g : Nat → Nat) (hA : Rd w .u32 A n f) (hB : Rd w .u32 B m g) (hnc : n ≤ c) (hmd : m ≤ d) (hc : c ≤ maxLen) (hd : d ≤ maxLen) (b : Bool) (hb : (decide (n ≤ 200) && decide (m ≤ 200)) = b) :
    Calls Try.prog 23 #[.slice (some ⟨w.heap.size, 0, none⟩) 2 2] (w.alloc (.cells #[.slice A n c, .slice B m d] 22)) fun e' w' => e' = .returned (.bool b) ∧ w.alloc (.cells #[.slice A n c, .slice B m d] 22) = w' := by
  have h := small_any _ 2 2 _ _ _ _ _ (rds_two w A B n c m d f g 22 hA hnc hc hB hmd hd) (by simp [maxLen])
  have e : sml (two n m) 2 = b := by
    rw [← hb]
    rfl
  rw [e] at h
  exact h

set_option maxRecDepth 100000 in
set_option maxHeartbeats 2000000 in
theorem divs_walk (A B : Option Addr) (n m c d k Q1 r1 E1 Q2 R2 E2 : Nat) (f g : Nat → Nat) (w : World) (hA : Rd w .u32 A n f) (hB : Rd w .u32 B m g) (hn : n ≤ c) (hc : c * 4 ≤ 140737488351232) (hm : m ≤ d) (hd : d * 4 ≤ 140737488351232)
    (HS : Hid (∀ W B' d', Rd W .u32 B' n f → n ≤ d' → d' ≤ maxLen → Calls Try.prog 21 #[.slice B' n d', .int .u32 k] W fun e w' => ResS W w' e Q1 r1 E1))
    (HSr : Hid (∀ W, Below w.heap.size w W → Calls Try.prog 22 #[.slice A n c, .int .u32 k] W fun e w' => ResS W w' e Q1 r1 E1))
    (HD : Hid (n ≤ 200 ∧ m ≤ 200 → ∀ W B' d', Below w.heap.size w W → Rd W .u32 B' n f → n ≤ d' → d' ≤ maxLen → Calls Try.prog 24 #[.slice B' n d', .slice B m d] W fun e w' => Res2 W w' e Q2 R2 E2))
    (HDr : Hid (n ≤ 200 ∧ m ≤ 200 → ∀ W, Below w.heap.size w W → Calls Try.prog 25 #[.slice A n c, .slice B m d] W fun e w' => Res2 W w' e Q2 R2 E2)) :
    Calls Try.prog 6 #[.slice A n c, .slice B m d, .int .u32 k] w fun e w' => e = .returned (.bool true) ∧ Below w.heap.size w w' := by
  obtain ⟨i0, hi, hz0, hz1, hz2⟩ := info_parts info_u32
  have hcm : Hid (c ≤ maxLen) := Lib.hid (by unfold maxLen; omega)
  have hdm : Hid (d ≤ maxLen) := Lib.hid (by unfold maxLen; omega)
  go_enter Try.func6, Try.ntmps6
  go_wp2_with (first
    | (at_builtin; refine wpList_app rfl (.tmp 20) (.tmp 21) _ rfl w.heap.size 35 i0 _ 4 Try.underlying22 hi hz0 hz1 hz2 rfl .u32 _ 0 f rfl (World.ownsRow_lit w #[] 0 (Nat.le_refl _) (by simp [maxLen]) rfl) A n c f rfl (hA.alloc _) (by unfold maxLen; omega) (by omega) (by simp) ?_; intro v1 w1 hown1 hb1))
  rw [jn_zero, Nat.zero_add] at hown1
  obtain ⟨A1, c1, rfl, hc1, hm1, hr1⟩ := Rd.of_own hown1
  have hbw1 : Below w.heap.size w w1 := ((Below.refl _ _).alloc (Nat.le_refl _) _).trans hb1
  refine (HS.out w1 A1 c1 hr1 hc1 hm1).mono ?_
  rintro e w2 ⟨A2, n2, c2, f2, rfl, hnum2, hb2⟩
  have hbw2 : Below w.heap.size w w2 := hbw1.trans (hb2.mono hbw1.size)
  clear hown1 hb1 hb2 hr1 hbw1 hc1 hm1
  go_wp2_with fail
  refine (HSr.out _ hbw2).mono ?_
  rintro e w3 ⟨A3, n3, c3, f3, rfl, hnum3, hb3⟩
  have hbw3 : Below w.heap.size w w3 := hbw2.trans (hb3.mono hbw2.size)
  have HL := Lib.hid (limbs_any A2 A3 n2 n3 c2 c3 f2 f3 _ w3 (hnum2.below hb3) hnum3)
  clear hb3 hbw2 hnum2 hnum3
  go_wp2_with fail
  refine HL.out.mono ?_
  rintro e w' ⟨rfl, j3, rfl⟩
  have hbw4 := drew_below hbw3 j3
  by_cases hs : n ≤ 200 ∧ m ≤ 200
  · have HSM := Lib.hid (small_two _ A B n m c d f g (hA.below hbw4) (hB.below hbw4) hn hm hcm.out hdm.out true (by simp [hs.1, hs.2]))
    have hbw5 : Below w.heap.size w ((w3.drewN j3).alloc (.cells #[.slice A n c, .slice B m d] 22)) := hbw4.alloc hbw4.size _
    have HSM' := Lib.hid (HSM.out.mono (R' := fun e' w' => e' = .returned (.bool true) ∧ Below w.heap.size w w') fun e' w' h => ⟨h.1, by rw [← h.2]; exact hbw5⟩)
    have HDs := Lib.hid (HD.out hs)
    have HDrs := Lib.hid (HDr.out hs)
    clear hs HSM hbw5 hbw4
    go_wp2_with fail
    refine HSM'.out.mono ?_
    rintro e w5 ⟨rfl, hbw5⟩
    have hs5 := hbw5.size
    go_wp2_with (first
      | (at_builtin; refine wpList_app rfl (.tmp 56) (.tmp 57) _ rfl w5.heap.size 35 i0 _ 4 Try.underlying22 hi hz0 hz1 hz2 rfl .u32 _ 0 f rfl (World.ownsRow_lit w5 #[] 0 (Nat.le_refl _) (by simp [maxLen]) rfl) A n c f rfl ((hA.below hbw5).alloc _) (by unfold maxLen; omega) (by omega) (by simp) ?_; intro v6 w6 hown6 hb6))
    rw [jn_zero, Nat.zero_add] at hown6
    obtain ⟨A6, c6, rfl, hc6, hm6, hr6⟩ := Rd.of_own hown6
    have hbw6 : Below w.heap.size w w6 := by
      refine hbw5.trans ((((Below.refl _ _).alloc (Nat.le_refl _) _).trans hb6).mono hs5)
    refine (HDs.out w6 A6 c6 hbw6 hr6 hc6 hm6).mono ?_
    rintro e w7 ⟨A7, n7, c7, f7, A8, n8, c8, f8, rfl, h7, h8, hb7⟩
    have hbw7 : Below w.heap.size w w7 := hbw6.trans (hb7.mono hbw6.size)
    clear hown6 hb6 hb7 hr6 hbw6 hc6 hm6 hbw5 hs5
    go_wp2_with fail
    refine (HDrs.out _ hbw7).mono ?_
    rintro e w9 ⟨A9, n9, c9, f9, A10, n10, c10, f10, rfl, h9, h10, hb9⟩
    have hbw9 : Below w.heap.size w w9 := hbw7.trans (hb9.mono hbw7.size)
    have HL1 := Lib.hid (limbs_any A7 A9 n7 n9 c7 c9 f7 f9 _ w9 (h7.below hb9) h9)
    have HL2 := Lib.hid (fun j => limbs_any A8 A10 n8 n10 c8 c10 f8 f10 _ (w9.drewN j) (num_drewN (h8.below hb9) j) (num_drewN h10 j))
    clear hb9 hbw7 h7 h8 h9 h10
    go_wp2_with fail
    refine HL1.out.mono ?_
    rintro e w' ⟨rfl, j7, rfl⟩
    go_wp2_with fail
    refine (HL2.out j7).mono ?_
    rintro e w' ⟨rfl, j8, rfl⟩
    have hbw10 := drew_below hbw9 (j7 + j8)
    go_wp2_with fail
    refine (awake_any _).mono ?_
    rintro e w11 ⟨rfl, hb11⟩
    go_wp2
    go_ret
    exact ⟨rfl, hbw10.trans (hb11.mono hbw10.size)⟩
  · have HSM := Lib.hid (small_two _ A B n m c d f g (hA.below hbw4) (hB.below hbw4) hn hm hcm.out hdm.out false (by simp only [Bool.and_eq_false_iff, decide_eq_false_iff_not]; omega))
    have hbw5 : Below w.heap.size w ((w3.drewN j3).alloc (.cells #[.slice A n c, .slice B m d] 22)) := hbw4.alloc hbw4.size _
    have hs5 := hbw5.size
    clear hs
    go_wp2_with fail
    refine HSM.out.mono ?_
    rintro e w' ⟨rfl, rfl⟩
    go_wp2_with fail
    refine (awake_any _).mono ?_
    rintro e w11 ⟨rfl, hb11⟩
    go_wp2
    go_ret
    exact ⟨rfl, hbw5.trans (hb11.mono hs5)⟩

theorem divs_any (A B : Option Addr) (n m c d k : Nat) (f g : Nat → Nat) (w : World) (hA : Rd w .u32 A n f) (lf : Lt (2 ^ 32) f n) (hn : n ≤ c) (hc : c * 4 ≤ 140737488351232) (hB : Rd w .u32 B m g) (lg : Lt (2 ^ 32) g m) (hm : m ≤ d) (hd : d * 4 ≤ 140737488351232) (hk : k < 4294967296) :
    Calls Try.prog 6 #[.slice A n c, .slice B m d, .int .u32 k] w fun e w' => e = .returned (.bool true) ∧ Below w.heap.size w w' :=
  divs_walk A B n m c d k _ _ _ _ _ _ f g w hA hB hn hc hm hd
    (Lib.hid fun W B' d' hB' hd' hdm => divSmall_any B' n d' k f W hB' lf hd' hdm hk)
    (Lib.hid fun W hW => rdivSmall_any A n c k f W (hA.below hW) lf hn hc hk)
    (Lib.hid fun _ W B' d' hW hB' hd' hdm => div_any B' B n m d' d f g W hB' (hB.below hW) lf lg hd' hm hdm hd)
    (Lib.hid fun hs W hW => rdiv_any A B n m c d f g W (hA.below hW) (hB.below hW) lf lg hn hm hc hd hs.1 hs.2)
end Go.Proofs.Ytfdgpfkjpjhmjaa.nn
