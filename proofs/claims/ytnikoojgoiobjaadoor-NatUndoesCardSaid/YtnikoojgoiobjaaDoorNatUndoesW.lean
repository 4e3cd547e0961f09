/- The walk of NatUndoes. The table of the powers of ten is asked for. -/
import Derived.Test.YtnikoojgoiobjaaDoorUndoNum
namespace Go.Proofs.YtnikoojgoiobjaaDoor.nn
open Go.RowKit

theorem cm_same {a b : Nat} (h : a = b) : cm a b = 0 := by unfold cm; rw [if_neg (by omega), if_pos h]
/-- Cmp of a number with the argument that it equals -/
theorem cmp_same (D A : Option Addr) (m d n c : Nat) (g f : Nat → Nat) (V : Nat) (w : World) (hD : Num w D m d g V) (hA : Rd w .u32 A n f) (lf : Lt (2 ^ 32) f n) (hV : sm (2 ^ 32) f n = V) (hnc : n ≤ c) (hc : c ≤ maxLen) :
    Calls Tryd.prog 19 #[.slice D m d, .slice A n c] w fun e w' => e = .returned (.int .i64 0) ∧ Below w.heap.size w w' := by
  have h := Cmp_any D A m n d c g f w hD.rd hA hD.lt lf hD.le hnc hD.cap hc
  rw [hD.val, hV, cm_same rfl] at h
  refine h.mono ?_
  rintro e w' ⟨he, j, rfl⟩
  exact ⟨he, Below.refl _ _ |> fun h => ⟨h.os, h.tape, h.output, h.size, h.block⟩⟩

set_option maxRecDepth 100000 in
set_option maxHeartbeats 2000000 in
theorem undoes_any (A B : Option Addr) (n m c d z : Nat) (f g : Nat → Nat) (w : World) (hA : Rd w .u32 A n f) (lf : Lt (2 ^ 32) f n) (hn : n ≤ c) (hc : c * 4 ≤ 140737488351232)
    (hB : Rd w .u32 B m g) (lg' : Lt (2 ^ 32) g m) (hm : m ≤ d) (hd : d * 4 ≤ 140737488351232) (hz : z < 65536) (ht : Pow10 w) :
    Calls Tryd.prog 4 #[.slice A n c, .slice B m d, .int .u16 (z : Int)] w fun e w' => e = .returned (.bool true) ∧ Below w.heap.size w w' := by
  have hcm : c ≤ maxLen := by unfold maxLen; omega
  have hdm : d ≤ maxLen := by unfold maxLen; omega
  have HA := Lib.hid hA
  have HB := Lib.hid hB
  have LF := Lib.hid lf
  have LG := Lib.hid lg'
  have HT := Lib.hid ht
  have HTA := Lib.hid ht.at_
  clear hA hB lf lg' ht
  by_cases hlong : 1000 < n ∨ 1000 < m
  · by_cases h1 : 1000 < n
    · clear hlong
      go_enter Tryd.func4, Tryd.ntmps4
      go_wp2_with fail
      refine (awake_any _).mono ?_
      rintro e w1 ⟨rfl, hb1⟩
      go_wp2_with fail
      go_ret
      exact ⟨rfl, hb1⟩
    · have h2 : 1000 < m := by omega
      clear hlong
      go_enter Tryd.func4, Tryd.ntmps4
      go_wp2_with fail
      refine (awake_any _).mono ?_
      rintro e w1 ⟨rfl, hb1⟩
      go_wp2_with fail
      go_ret
      exact ⟨rfl, hb1⟩
  · have hn1 : n ≤ 1000 := by omega
    have hm1 : m ≤ 1000 := by omega
    clear hlong
    obtain ⟨V, hV⟩ : ∃ V, sm (2 ^ 32) f n = V := ⟨_, rfl⟩
    have HV := Lib.hid hV
    obtain ⟨k, hk⟩ : ∃ k, z % 5000 = k := ⟨_, rfl⟩
    have hk5 : k < 5000 := by omega
    have ek : (z : Int) % 5000 = (k : Int) := by omega
    have HK := Lib.hid hk
    have ek2 : wrap64 (k : Int) = (k : Int) := by unfold wrap64; omega
    have HE := Lib.hid (And.intro ek ek2)
    have hw0 := Lib.hid ((Below.refl w.heap.size w).alloc (Nat.le_refl _) (.cells #[.slice B m d] 22))
    have hadd := add_any A n c f _ 1 1 _ _ _ _ _ (HA.out.alloc (.cells #[.slice B m d] 22)) hn hcm LF.out (rds_one w B m d g 22 HB.out hm hdm) (by omega) (by simp [maxLen]) (fun _ _ => LG.out) (by omega)
    obtain ⟨a1, a2, a3⟩ := add_val LF.out LG.out hn1 hm1
    rw [a1, a2, hV] at hadd
    rw [hV] at a3
    have HADD := Lib.hid hadd
    have A3 := Lib.hid a3
    clear hV hk ek ek2 hadd a1 a2 a3
    go_enter Tryd.func4, Tryd.ntmps4
    go_wp2_with fail
    refine HADD.out.mono ?_
    rintro e w1 ⟨A1, n1, c1, f1, rfl, hN1, hb1⟩
    have B1 := Lib.hid (hw0.out.trans (hb1.mono (by simp)))
    have hsub := sub_any A1 B n1 m c1 d f1 g w1 hN1.rd (HB.out.below B1.out) hN1.lt LG.out hN1.le hm hN1.cap hdm
    obtain ⟨s1, s2⟩ := sub_val hN1.lt (by rw [hN1.val]; exact A3.out) hm1 V hN1.val
    rw [s1, s2] at hsub
    have HSUB := Lib.hid hsub
    clear hN1 hb1 hsub s1 s2
    go_wp2_with fail
    refine HSUB.out.mono ?_
    rintro e w2 ⟨A2, n2, c2, f2, rfl, hN2, hb2⟩
    have N2 := Lib.hid hN2
    have B2 := Lib.hid (B1.out.trans (hb2.mono B1.out.size))
    have hshl := shl_any A n c (k : Int) f w2 (HA.out.below B2.out) LF.out hn hcm (by omega) (by omega) (by omega)
    obtain ⟨s1, s2⟩ := shl_val LF.out hn1 hk5
    have hsb := shl_big LF.out hn1 hk5
    rw [s1, s2, HV.out] at hshl
    rw [HV.out] at hsb
    have HSHL := Lib.hid hshl
    have HSB := Lib.hid hsb
    clear hN2 hb2 hshl s1 s2 hsb
    obtain ⟨ek, ek2⟩ := HE.out
    go_wp2_with fail
    refine HSHL.out.mono ?_
    rintro e w3 ⟨A3', n3, c3, f3, rfl, hN3, hb3⟩
    have N2 := Lib.hid (N2.out.below hb3)
    have B3 := Lib.hid (B2.out.trans (hb3.mono B2.out.size))
    have hshr := shr_any A3' n3 c3 (k : Int) f3 w3 hN3.rd hN3.lt hN3.le hN3.cap (by omega)
    obtain ⟨s1, s2⟩ := shr_val hN3.lt V k hN3.val HSB.out
    rw [s1, s2] at hshr
    have HSHR := Lib.hid hshr
    clear hN3 hb3 hshr s1 s2 ek ek2
    go_wp2_with fail
    refine HSHR.out.mono ?_
    rintro e w4 ⟨A4, n4, c4, f4, rfl, hN4, hb4⟩
    have N2 := Lib.hid (N2.out.below hb4)
    have N4 := Lib.hid hN4
    have B4 := Lib.hid (B3.out.trans (hb4.mono B3.out.size))
    have hby := bytes_any A n c f w4 (HA.out.below B4.out) LF.out hn hcm (by omega)
    have hbl := bl_bound LF.out hn1
    rw [HV.out] at hby hbl
    have HBY := Lib.hid hby
    have HBL := Lib.hid hbl
    clear hN4 hb4 hby hbl
    go_wp2_with fail
    refine HBY.out.mono ?_
    rintro e w5 ⟨g5, O, rfl, hg5, hr5, hO, hb5⟩
    have N2 := Lib.hid (N2.out.below hb5)
    have N4 := Lib.hid (N4.out.below hb5)
    have B5 := Lib.hid (B4.out.trans (hb5.mono B4.out.size))
    obtain ⟨b1, b2, b3⟩ := bytes_back HBL.out hO
    have hfb := fromBytes_any (some ⟨g5, 0, none⟩) _ _ O w5 hr5 (fun i hi => by rw [hO i hi]; exact Nat.mod_lt _ (by decide)) (Nat.le_refl _) (by have := HBL.out; unfold maxLen; omega) 0 b1
    rw [b2, b3] at hfb
    have HFB := Lib.hid hfb
    clear hg5 hr5 hO hb5 b1 b2 b3 hfb
    go_wp2_with fail
    refine HFB.out.mono ?_
    rintro e w6 ⟨A6, n6, c6, f6, rfl, hN6, hb6⟩
    have N2 := Lib.hid (N2.out.below hb6)
    have N4 := Lib.hid (N4.out.below hb6)
    have N6 := Lib.hid hN6
    have B6 := Lib.hid (B5.out.trans (hb6.mono B5.out.size))
    have HC1 := Lib.hid (cmp_same A2 A n2 c2 n c f2 f V w6 N2.out (HA.out.below B6.out) LF.out HV.out hn hcm)
    clear hN6 hb6
    go_wp2_with fail
    refine HC1.out.mono ?_
    rintro e w7 ⟨rfl, hb7⟩
    have N4 := Lib.hid (N4.out.below hb7)
    have N6 := Lib.hid (N6.out.below hb7)
    have B7 := Lib.hid (B6.out.trans (hb7.mono B6.out.size))
    have HC2 := Lib.hid (cmp_same A4 A n4 c4 n c f4 f V w7 N4.out (HA.out.below B7.out) LF.out HV.out hn hcm)
    clear hb7
    go_wp2_with fail
    refine HC2.out.mono ?_
    rintro e w8 ⟨rfl, hb8⟩
    have N6 := Lib.hid (N6.out.below hb8)
    have B8 := Lib.hid (B7.out.trans (hb8.mono B7.out.size))
    have HC3 := Lib.hid (cmp_same A6 A n6 c6 n c f6 f V w8 N6.out (HA.out.below B8.out) LF.out HV.out hn hcm)
    clear hb8
    go_wp2_with fail
    refine HC3.out.mono ?_
    rintro e w9 ⟨rfl, hb9⟩
    have B9 := Lib.hid (B8.out.trans (hb9.mono B8.out.size))
    have hdg := digits_any A n c f w9 (HA.out.below B9.out) LF.out hn hcm (HT.out.below B9.out HTA.out)
    have hle := tr_le f n
    have d1 : dgT n f = Lib.decDigits V := by unfold dgT; rw [if_neg (by omega), HV.out]
    have d2 : dgE n f = 0 := by unfold dgE; rw [if_neg (by omega)]
    rw [d1, d2] at hdg
    have HFDV := Lib.hid (digits_back V)
    obtain ⟨S, hS⟩ : ∃ S : ByteArray, (⟨(Lib.decDigits V).toArray⟩ : ByteArray) = S := ⟨_, rfl⟩
    rw [hS] at hdg HFDV
    have hSs : S.size ≤ 9223372036854775807 := by
      have h1 := hS
      have h2 : S.size = Lib.nDigits V := by rw [← hS, ← Lib.decDigits_length]; rfl
      have h3 := nd_bl HBL.out
      omega
    have HDG := Lib.hid hdg
    clear hb9 hdg hle d1 d2 hS
    go_wp2_with fail
    refine HDG.out.mono ?_
    rintro e w10 ⟨rfl, hb10⟩
    have B10 := Lib.hid (B9.out.trans (hb10.mono B9.out.size))
    clear hb10
    by_cases hS4 : 4096 < S.size
    · go_wp2_with fail
      refine (awake_any _).mono ?_
      rintro e w11 ⟨rfl, hb11⟩
      go_wp2_with fail
      go_ret
      exact ⟨rfl, B10.out.trans (hb11.mono B10.out.size)⟩
    · have hfd := fromDigits_any S w10 hSs
      obtain ⟨r1, r2⟩ := HFDV.out (by omega)
      rw [r1, r2] at hfd
      have HFD := Lib.hid hfd
      clear hfd r1 r2
      go_wp2_with fail
      refine HFD.out.mono ?_
      rintro e w11 ⟨A11, n11, c11, f11, rfl, hN11, hb11⟩
      have B11 := Lib.hid (B10.out.trans (hb11.mono B10.out.size))
      have HC4 := Lib.hid (cmp_same A11 A n11 c11 n c f11 f V w11 hN11 (HA.out.below B11.out) LF.out HV.out hn hcm)
      clear hN11 hb11
      go_wp2_with fail
      refine HC4.out.mono ?_
      rintro e w12 ⟨rfl, hb12⟩
      have B12 := Lib.hid (B11.out.trans (hb12.mono B11.out.size))
      clear hb12
      go_wp2_with fail
      refine (awake_any _).mono ?_
      rintro e w13 ⟨rfl, hb13⟩
      go_wp2_with fail
      go_ret
      exact ⟨rfl, B12.out.trans (hb13.mono B12.out.size)⟩
end Go.Proofs.YtnikoojgoiobjaaDoor.nn
