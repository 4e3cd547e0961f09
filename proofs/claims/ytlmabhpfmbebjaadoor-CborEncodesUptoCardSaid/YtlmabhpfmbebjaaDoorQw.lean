/- Joined texts, what is wanted of them: HdW, CbRa, CbRb, CbRt, CbRh, CbRk. -/
import Derived.Deep.WholeRow
import Derived.Deep.DeepCutAuto
import Derived.Deep.RegionWith
import Derived.Lib.Builder
import Derived.Lib.Hide
import Derived.Test.YtlmabhpfmbebjaaDoorProg
import Derived.WalkKit
import Derived.WalkSpells
import Derived.Deep.QuietTactic
import Derived.BigQuiet
import Derived.Deep.RegionHeld3
import Derived.Laws.BitsAllLaws
import Derived.Test.YtlmabhpfmbebjaaDoorShelf
import Derived.IntWalk
import Derived.Test.YtlmabhpfmbebjaaDoorQa
import Derived.Test.YtlmabhpfmbebjaaDoorQe
import Derived.Test.YtlmabhpfmbebjaaDoorQk
import Derived.Test.YtlmabhpfmbebjaaDoorQl
import Derived.Test.YtlmabhpfmbebjaaDoorQc
import Derived.Test.YtlmabhpfmbebjaaDoorQq
import Derived.Test.YtlmabhpfmbebjaaDoorQm
namespace Go.Proofs.YtlmabhpfmbebjaaDoor.nn
open Go.RowKit

/-- what Wide answers, in a row of its own -/
def HdOwn (M : Int) (n : Nat) (k : Int) (w : World) (e : Ending) (w' : World) : Prop :=
  ((hdOk M n k = true ∧ ∃ A c, e = .returned (.tuple #[.slice A (k.toNat + 1) c, .int .i64 0]) ∧ w'.ownsRow w.heap.size 5 1 (.slice A (k.toNat + 1) c) (k.toNat + 1) (vl .u8 (hdB M.toNat n k.toNat) (k.toNat + 1))) ∨
   (hdOk M n k = false ∧ e = .returned (.tuple #[.slice none 0 0, .int .i64 1]))) ∧ Below w.heap.size w w'
theorem own_one8 (w : World) (d : Nat) (e : TypeId) : (w.alloc (.cells #[.int .u8 (d : Int)] e)).ownsRow w.heap.size e 1 (.slice (some ⟨w.heap.size, 0, none⟩) 1 1) 1 (vl .u8 (fun _ => d) 1) :=
  World.ownsRow_lit (base := w.heap.size) (e := e) (size := 1) w #[.int .u8 (d : Int)] 1 (Nat.le_refl _) (by simp [maxLen]) rfl
set_option maxRecDepth 100000 in
set_option maxHeartbeats 8000000 in
theorem hwide_own (M : Int) (n : Nat) (k : Int) (w : World) (hn : n < 18446744073709551616) (hM1 : -9223372036854775808 ≤ M) (hM2 : M ≤ 9223372036854775807) (hk1 : -9223372036854775808 ≤ k) (hk2 : k ≤ 9223372036854775807) :
    Calls Tryd.prog 46 #[.int .i64 M, .int .u64 (n : Int), .int .i64 k] w (HdOwn M n k w) := by
  obtain ⟨i0, hi, hz0, hz1, hz2⟩ := info_parts info_byte10
  have HB0 := Lib.hid (Below.refl w.heap.size w)
  have HSZ := Lib.hid (fun W => hsize_any n W)
  have HIN := Lib.hid (fun W => hinfo_any k W)
  have HX0 : Hid (hdX M n k = decide (M < 0 ∨ 7 < M ∨ (M = 7 ∧ ((24 ≤ n ∧ n ≤ 31) ∨ 255 < n ∨ 1 < k ∨ (k = 1 ∧ n < 32))))) := Lib.hid rfl
  have HOK : Hid (hdX M n k = true → hdOk M n k = false) := Lib.hid fun h => by unfold hdOk; rw [h]; rfl
  have HOK2 : Hid (¬ ((k = 0 ∨ hdI k ≠ 0) ∧ (hdS n : Int) ≤ k) → hdOk M n k = false) := Lib.hid fun h => by unfold hdOk; rw [decide_eq_false h, Bool.and_false]
  have HOK3 : Hid (hdX M n k = false → ((k = 0 ∨ hdI k ≠ 0) ∧ (hdS n : Int) ≤ k) → hdOk M n k = true) := Lib.hid fun h1 h2 => by unfold hdOk; rw [h1, decide_eq_true h2]; rfl
  obtain ⟨X, hX⟩ : ∃ X, hdX M n k = X := ⟨_, rfl⟩
  rw [hX] at HX0 HOK HOK3
  have HXX := Lib.hid hX
  clear hX
  go_enter Tryd.func46, Tryd.ntmps46
  go_upto_region 1 with fail
  go_cut [43] (fun s43 wx => s43 = .bool X ∧ wx = w)
  case first =>
    have bad : ∀ c : Prop, [Decidable c] → c → (c → (M < 0 ∨ 7 < M ∨ (M = 7 ∧ ((24 ≤ n ∧ n ≤ 31) ∨ 255 < n ∨ 1 < k ∨ (k = 1 ∧ n < 32))))) → X = true := fun c _ h g => by rw [HX0.out]; exact decide_eq_true (g h)
    by_cases c1 : M < 0
    · have HT := Lib.hid (bad _ c1 (fun _ => by omega))
      clear bad
      go_wp2_with fail
      go_meet
      exact ⟨by first | (rw [HT.out]; done) | (rw [HT.out]; rfl) | (rw [HT.out]; simp; omega), rfl⟩
    · by_cases c2 : 7 < M
      · have HT := Lib.hid (bad _ c2 (fun _ => by omega))
        clear bad
        go_wp2_with fail
        go_meet
        exact ⟨by first | (rw [HT.out]; done) | (rw [HT.out]; rfl) | (rw [HT.out]; simp; omega), rfl⟩
      · by_cases c3 : M = 7
        · subst c3
          by_cases d1 : 24 ≤ n ∧ n ≤ 31
          · have HT := Lib.hid (bad _ d1 (fun _ => by omega))
            obtain ⟨d1, d2⟩ := d1
            clear bad
            go_wp2_with fail
            go_meet
            exact ⟨by first | (rw [HT.out]; done) | (rw [HT.out]; rfl) | (rw [HT.out]; simp; omega), rfl⟩
          · by_cases d2 : 255 < n
            · have HT := Lib.hid (bad _ d2 (fun _ => by omega))
              have d3 : ¬ n ≤ 31 := by omega
              clear bad d1
              go_wp2_with fail
              go_meet
              exact ⟨by first | (rw [HT.out]; done) | (rw [HT.out]; rfl) | (rw [HT.out]; simp; omega), rfl⟩
            · by_cases d3 : 1 < k
              · have HT := Lib.hid (bad _ d3 (fun _ => by omega))
                clear bad
                by_cases e1 : 24 ≤ n
                · have e2 : ¬ n ≤ 31 := by omega
                  clear d1
                  go_wp2_with fail
                  go_meet
                  exact ⟨by first | (rw [HT.out]; done) | (rw [HT.out]; rfl) | (rw [HT.out]; simp; omega), rfl⟩
                · clear d1
                  go_wp2_with fail
                  go_meet
                  exact ⟨by first | (rw [HT.out]; done) | (rw [HT.out]; rfl) | (rw [HT.out]; simp; omega), rfl⟩
              · by_cases d4 : k = 1
                · subst d4
                  by_cases d5 : n < 32
                  · have HT := Lib.hid (bad _ d5 (fun _ => by omega))
                    have e1 : ¬ 24 ≤ n := by omega
                    clear bad d1
                    go_wp2_with fail
                    go_meet
                    exact ⟨by first | (rw [HT.out]; done) | (rw [HT.out]; rfl) | (rw [HT.out]; simp; omega), rfl⟩
                  · have HT : Hid (X = false) := Lib.hid (by rw [HX0.out]; exact decide_eq_false (by omega))
                    have e1 : 24 ≤ n := by omega
                    have e2 : ¬ n ≤ 31 := by omega
                    clear bad d1
                    go_wp2_with fail
                    go_meet
                    exact ⟨by first | (rw [HT.out]; done) | (rw [HT.out]; rfl) | (rw [HT.out]; simp; omega), rfl⟩
                · have HT : Hid (X = false) := Lib.hid (by rw [HX0.out]; exact decide_eq_false (by omega))
                  have kk := neI d4
                  clear bad d4
                  by_cases e1 : 24 ≤ n
                  · have e2 : ¬ n ≤ 31 := by omega
                    clear d1
                    go_wp2_with fail
                    go_meet
                    exact ⟨by first | (rw [HT.out]; done) | (rw [HT.out]; rfl) | (rw [HT.out]; simp; omega), rfl⟩
                  · clear d1
                    go_wp2_with fail
                    go_meet
                    exact ⟨by first | (rw [HT.out]; done) | (rw [HT.out]; rfl) | (rw [HT.out]; simp; omega), rfl⟩
        · have HT : Hid (X = false) := Lib.hid (by rw [HX0.out]; exact decide_eq_false (by omega))
          have kk := neI c3
          clear bad c3
          go_wp2_with fail
          go_meet
          exact ⟨by first | (rw [HT.out]; done) | (rw [HT.out]; rfl) | (rw [HT.out]; simp; omega), rfl⟩
  case rest =>
    obtain ⟨rfl, hww⟩ := hcut
    obtain rfl : w = wc := hww.symm
    cases X with
    | true =>
      have HF := Lib.hid (HOK.out rfl)
      go_wp2_with fail
      exact bodyPost_ret (by simp [results, Tryd.results46, go_sem]) rfl ⟨.inr ⟨HF.out, rfl⟩, HB0.out⟩
    | false =>
      have HXF := HXX
      clear HX0 HOK
      obtain ⟨Y, hY⟩ : ∃ Y, decide (¬ ((k = 0 ∨ hdI k ≠ 0) ∧ (hdS n : Int) ≤ k)) = Y := ⟨_, rfl⟩
      have HY := Lib.hid hY
      clear hY
      obtain ⟨s, hs⟩ : ∃ s, hdS n = s := ⟨_, rfl⟩
      obtain ⟨u, hu⟩ : ∃ s, hdI k = s := ⟨_, rfl⟩
      have HSU := Lib.hid (And.intro hs hu)
      rw [hs] at HSZ
      rw [hu] at HIN
      rw [hs, hu] at HY HOK2 HOK3
      have hs8 : s ≤ 8 := by rw [← hs]; have := hdS_cases n; omega
      have hu27 : u ≤ 27 := by rw [← hu]; have := hdI_cases k; omega
      clear hs hu
      go_upto_region 3 with fail
      go_cut [56] (fun s56 wx => s56 = .bool Y ∧ wx = w)
      case first =>
        by_cases ck : k = 0
        · subst ck
          by_cases cs : 0 < s
          · have HT : Hid (Y = true) := Lib.hid (by rw [← HY.out]; exact decide_eq_true (by omega))
            go_wp2_with fail
            refine (HSZ.out _).mono ?_
            rintro e w' ⟨rfl, rfl⟩
            go_wp2_with fail
            go_meet
            exact ⟨by first | (rw [HT.out]; done) | (rw [HT.out]; rfl) | (rw [HT.out]; simp; omega), rfl⟩
          · obtain rfl : s = 0 := by omega
            have HT : Hid (Y = false) := Lib.hid (by rw [← HY.out]; exact decide_eq_false (by omega))
            go_wp2_with fail
            refine (HSZ.out _).mono ?_
            rintro e w' ⟨rfl, rfl⟩
            go_wp2_with fail
            go_meet
            exact ⟨by first | (rw [HT.out]; done) | (rw [HT.out]; rfl) | (rw [HT.out]; simp; omega), rfl⟩
        · have k0 := neI ck
          have k0' : (k != 0) = true := by simp [ck]
          by_cases cu : u = 0
          · subst cu
            have HT : Hid (Y = true) := Lib.hid (by rw [← HY.out]; exact decide_eq_true (by omega))
            clear ck
            go_wp2_with fail
            refine (HIN.out _).mono ?_
            rintro e w' ⟨rfl, rfl⟩
            go_wp2_with fail
            go_meet
            exact ⟨by first | (rw [HT.out]; done) | (rw [HT.out]; rfl) | (rw [HT.out]; simp; omega), rfl⟩
          · have ku : ((u : Int) == 0) = false := neI (by omega)
            by_cases cs : k < (s : Int)
            · have HT : Hid (Y = true) := Lib.hid (by rw [← HY.out]; exact decide_eq_true (by omega))
              clear ck
              go_wp2_with fail
              refine (HIN.out _).mono ?_
              rintro e w' ⟨rfl, rfl⟩
              go_wp2_with fail
              refine (HSZ.out _).mono ?_
              rintro e w' ⟨rfl, rfl⟩
              go_wp2_with fail
              go_meet
              exact ⟨by first | (rw [HT.out]; done) | (rw [HT.out]; rfl) | (rw [HT.out]; simp; omega), rfl⟩
            · have HT : Hid (Y = false) := Lib.hid (by rw [← HY.out]; exact decide_eq_false (by omega))
              clear ck
              go_wp2_with fail
              refine (HIN.out _).mono ?_
              rintro e w' ⟨rfl, rfl⟩
              go_wp2_with fail
              refine (HSZ.out _).mono ?_
              rintro e w' ⟨rfl, rfl⟩
              go_wp2_with fail
              go_meet
              exact ⟨by first | (rw [HT.out]; done) | (rw [HT.out]; rfl) | (rw [HT.out]; simp; omega), rfl⟩
      case rest =>
        obtain ⟨rfl, hww⟩ := hcut
        obtain rfl : w = wc := hww.symm
        cases Y with
        | true =>
          have HF := Lib.hid (HOK2.out (of_decide_eq_true HY.out))
          go_wp2_with fail
          exact bodyPost_ret (by simp [results, Tryd.results46, go_sem]) rfl ⟨.inr ⟨HF.out, rfl⟩, HB0.out⟩
        | false =>
          have hp := Decidable.not_not.1 (of_decide_eq_false HY.out)
          have hok := HOK3.out rfl hp
          have HF := Lib.hid hok
          obtain ⟨_, ⟨m0, m7⟩, hk, _⟩ := hdOk_parts hok
          obtain ⟨m, rfl⟩ := Int.eq_ofNat_of_zero_le m0
          have hm7 : m ≤ 7 := by omega
          have hp2 := hp.2
          clear hok m0 m7 HOK2 HOK3 HY hp
          have hq : k = 0 ∨ ∃ q : Nat, k = (q : Int) ∧ (q = 1 ∨ q = 2 ∨ q = 4 ∨ q = 8) := by
            rcases hk with h | h | h | h | h
            · exact .inl h
            · exact .inr ⟨1, h, by omega⟩
            · exact .inr ⟨2, h, by omega⟩
            · exact .inr ⟨4, h, by omega⟩
            · exact .inr ⟨8, h, by omega⟩
          rcases hq with rfl | ⟨q, rfl, hq⟩
          · have hn24 : n < 24 := by have := hdS_cases n; have h2 := HSU.out.1; omega
            have hb := first_byte hm7 (show n < 32 by omega)
            have hbb := first_byte2 hm7 (show n < 32 by omega)
            have HD0 : Hid (hdB m n 0 0 = m * 32 + n) := Lib.hid (by unfold hdB; rw [if_pos rfl, if_pos rfl])
            obtain ⟨d, hd⟩ : ∃ d, m * 32 + n = d := ⟨_, rfl⟩
            rw [hd] at hb hbb HD0
            have HDD := Lib.hid hd
            clear hk hp2 HSU hd
            go_wp2_with fail
            exact bodyPost_ret (by simp [results, Tryd.results46, go_sem]) rfl ⟨.inl ⟨HF.out, some ⟨w.heap.size, 0, none⟩, 1, rfl, by show World.ownsRow _ _ _ _ _ 1 (vl .u8 (hdB m n 0) 1); rw [vl_congr .u8 (g := fun _ => d) (fun i hi => by obtain rfl : i = 0 := (by omega); exact HD0.out)]; exact own_one8 w d 5⟩, (Below.refl _ _).alloc (Nat.le_refl _) _⟩
          · have hu32 : u < 32 := by omega
            have hu0 : u = hdI (q : Int) := HSU.out.2.symm
            have hb := int_first hm7 hu32
            have hb8 : IntKind.u8.wrap ((m * 32 + u : Nat) : Int) = ((m * 32 + u : Nat) : Int) := by rw [IntKind.wrap_u8]; omega
            have HD0 : Hid (hdB m n q 0 = m * 32 + u) := Lib.hid (by unfold hdB; rw [if_pos rfl, if_neg (by omega), hu0])
            obtain ⟨d0, hd0⟩ : ∃ d, m * 32 + u = d := ⟨_, rfl⟩
            rw [hd0] at hb hb8 HD0
            have kq : ((q : Int) == 0) = false := neI (by omega)
            have hq8 : 1 ≤ q ∧ q ≤ 8 := by omega
            have HO0 : Hid ((w.alloc (.cells #[.int .u8 (d0 : Int)] 5)).ownsRow w.heap.size 5 1 (.slice (some ⟨w.heap.size, 0, none⟩) 1 1) 1 (vl .u8 (hdB m n q) 1)) := Lib.hid (by
              have h := World.ownsRow_lit (base := w.heap.size) (e := 5) (size := 1) w #[.int .u8 (d0 : Int)] 1 (Nat.le_refl _) (by simp [maxLen]) rfl
              have e : vl .u8 (hdB m n q) 1 = [.int .u8 (d0 : Int)] := by unfold vl; rw [List.range_succ]; simp [HD0.out]
              rw [e]
              exact h)
            have HB1 := Lib.hid ((Below.refl w.heap.size w).alloc (Nat.le_refl _) (.cells #[.int .u8 (d0 : Int)] 5))
            clear hk hp2 HSU hd0 hu0 hq
            go_wp2_with fail
            refine (HIN.out _).mono ?_
            rintro e w' ⟨rfl, rfl⟩
            go_wp2_with fail
            go_loopw [8, 9] (fun s8 s9 wr => ∃ (j : Nat) (v : Value), j ≤ q ∧ s8 = v ∧ s9 = .int .i64 ((q : Int) - 1 - (j : Int)) ∧ (∃ A c, v = .slice A (j + 1) c) ∧ Hid (wr.ownsRow w.heap.size 5 1 v (j + 1) (vl .u8 (hdB m n q) (j + 1)) ∧ Below w.heap.size w wr)) (fun _ s9 _ => ((intOf s9) + 1).toNat)
            case atStart => exact ⟨0, _, Nat.zero_le _, rfl, congrArg (Value.int .i64) (by omega), ⟨_, _, rfl⟩, Lib.hid ⟨HO0.out, HB1.out⟩⟩
            case round =>
              obtain ⟨j, v, hj, rfl, rfl, ⟨A0, c0, rfl⟩, hO⟩ := hrel
              by_cases hlt : j < q
              · obtain ⟨i, hii⟩ : ∃ i : Nat, (q : Int) - 1 - (j : Int) = (i : Int) := ⟨q - 1 - j, by omega⟩
                rw [hii]
                have h8 : i = 0 ∨ i = 1 ∨ i = 2 ∨ i = 3 ∨ i = 4 ∨ i = 5 ∨ i = 6 ∨ i = 7 := by omega
                rcases h8 with rfl | rfl | rfl | rfl | rfl | rfl | rfl | rfl
                · obtain ⟨d, hd⟩ : ∃ d, n / 256 ^ 0 % 256 = d := ⟨_, rfl⟩
                  have hd256 : d < 256 := by rw [← hd]; exact Nat.mod_lt _ (by decide)
                  have u0 : n / 1 % 256 = d := by first | (rw [← hd]; done) | (rw [← hd]; rfl)
                  have u1 : IntKind.u8.wrap ((n : Int)) = (d : Int) := by rw [IntKind.wrap_u8]; omega
                  have HDJ : Hid (hdB m n q (j + 1) = d) := Lib.hid (by unfold hdB; rw [if_neg (by omega), show q - (j + 1) = 0 by omega, hd])
                  clear hd u0
                  go_wp2_with (at_builtin; refine wpList_app rfl (.tmp 79) (.tmp 85) _ rfl w.heap.size 5 i0 _ 1 Tryd.underlying28 hi hz0 hz1 hz2 rfl .u8 _ (j + 1) (hdB m n q) rfl (hO.out.1.alloc _) _ 1 1 (fun _ => d) rfl (rd_one _ .u8 d _) (by first | (simp [maxLen]; done) | (simp [maxLen]; omega)) (by omega) (by rw [hsz]; exact Nat.le_succ_of_le hO.out.2.size) ?_; intro v1 w1 hown1 hb1)
                  have HO2 : Hid (w1.ownsRow w.heap.size 5 1 v1 (j + 1 + 1) (vl .u8 (hdB m n q) (j + 1 + 1))) := Lib.hid (by
                    rw [vl_congr .u8 (g := hdB m n q) (fun i hi => by
                      rcases Nat.lt_or_ge i (j + 1) with h | h
                      · exact jn_lo _ _ h
                      · obtain rfl : i = j + 1 := by omega
                        have := jn_hi (hdB m n q) (fun _ => d) (j + 1) 0
                        rw [Nat.add_zero] at this
                        rw [this, HDJ.out])] at hown1
                    exact hown1)
                  have HB2 := Lib.hid ((hO.out.2.alloc hO.out.2.size _).trans hb1)
                  obtain ⟨A1, c1, rfl, _, _, _⟩ := Rd.of_own HO2.out
                  clear hown1 hb1
                  go_wp2_with fail
                  go_roundw
                  case rel => exact ⟨j + 1, _, by omega, rfl, congrArg (Value.int .i64) (by omega), ⟨_, _, rfl⟩, Lib.hid ⟨HO2.out, HB2.out⟩⟩
                  case measure => simp [intOf]
                · obtain ⟨d, hd⟩ : ∃ d, n / 256 ^ 1 % 256 = d := ⟨_, rfl⟩
                  have hd256 : d < 256 := by rw [← hd]; exact Nat.mod_lt _ (by decide)
                  have u0 : n / 256 % 256 = d := by first | (rw [← hd]; done) | (rw [← hd]; rfl)
                  have u1 : IntKind.u8.wrap ((n : Int) / 256) = (d : Int) := by rw [IntKind.wrap_u8]; omega
                  have HDJ : Hid (hdB m n q (j + 1) = d) := Lib.hid (by unfold hdB; rw [if_neg (by omega), show q - (j + 1) = 1 by omega, hd])
                  clear hd u0
                  go_wp2_with (at_builtin; refine wpList_app rfl (.tmp 79) (.tmp 85) _ rfl w.heap.size 5 i0 _ 1 Tryd.underlying28 hi hz0 hz1 hz2 rfl .u8 _ (j + 1) (hdB m n q) rfl (hO.out.1.alloc _) _ 1 1 (fun _ => d) rfl (rd_one _ .u8 d _) (by first | (simp [maxLen]; done) | (simp [maxLen]; omega)) (by omega) (by rw [hsz]; exact Nat.le_succ_of_le hO.out.2.size) ?_; intro v1 w1 hown1 hb1)
                  have HO2 : Hid (w1.ownsRow w.heap.size 5 1 v1 (j + 1 + 1) (vl .u8 (hdB m n q) (j + 1 + 1))) := Lib.hid (by
                    rw [vl_congr .u8 (g := hdB m n q) (fun i hi => by
                      rcases Nat.lt_or_ge i (j + 1) with h | h
                      · exact jn_lo _ _ h
                      · obtain rfl : i = j + 1 := by omega
                        have := jn_hi (hdB m n q) (fun _ => d) (j + 1) 0
                        rw [Nat.add_zero] at this
                        rw [this, HDJ.out])] at hown1
                    exact hown1)
                  have HB2 := Lib.hid ((hO.out.2.alloc hO.out.2.size _).trans hb1)
                  obtain ⟨A1, c1, rfl, _, _, _⟩ := Rd.of_own HO2.out
                  clear hown1 hb1
                  go_wp2_with fail
                  go_roundw
                  case rel => exact ⟨j + 1, _, by omega, rfl, congrArg (Value.int .i64) (by omega), ⟨_, _, rfl⟩, Lib.hid ⟨HO2.out, HB2.out⟩⟩
                  case measure => simp [intOf]
                · obtain ⟨d, hd⟩ : ∃ d, n / 256 ^ 2 % 256 = d := ⟨_, rfl⟩
                  have hd256 : d < 256 := by rw [← hd]; exact Nat.mod_lt _ (by decide)
                  have u0 : n / 65536 % 256 = d := by first | (rw [← hd]; done) | (rw [← hd]; rfl)
                  have u1 : IntKind.u8.wrap ((n : Int) / 65536) = (d : Int) := by rw [IntKind.wrap_u8]; omega
                  have HDJ : Hid (hdB m n q (j + 1) = d) := Lib.hid (by unfold hdB; rw [if_neg (by omega), show q - (j + 1) = 2 by omega, hd])
                  clear hd u0
                  go_wp2_with (at_builtin; refine wpList_app rfl (.tmp 79) (.tmp 85) _ rfl w.heap.size 5 i0 _ 1 Tryd.underlying28 hi hz0 hz1 hz2 rfl .u8 _ (j + 1) (hdB m n q) rfl (hO.out.1.alloc _) _ 1 1 (fun _ => d) rfl (rd_one _ .u8 d _) (by first | (simp [maxLen]; done) | (simp [maxLen]; omega)) (by omega) (by rw [hsz]; exact Nat.le_succ_of_le hO.out.2.size) ?_; intro v1 w1 hown1 hb1)
                  have HO2 : Hid (w1.ownsRow w.heap.size 5 1 v1 (j + 1 + 1) (vl .u8 (hdB m n q) (j + 1 + 1))) := Lib.hid (by
                    rw [vl_congr .u8 (g := hdB m n q) (fun i hi => by
                      rcases Nat.lt_or_ge i (j + 1) with h | h
                      · exact jn_lo _ _ h
                      · obtain rfl : i = j + 1 := by omega
                        have := jn_hi (hdB m n q) (fun _ => d) (j + 1) 0
                        rw [Nat.add_zero] at this
                        rw [this, HDJ.out])] at hown1
                    exact hown1)
                  have HB2 := Lib.hid ((hO.out.2.alloc hO.out.2.size _).trans hb1)
                  obtain ⟨A1, c1, rfl, _, _, _⟩ := Rd.of_own HO2.out
                  clear hown1 hb1
                  go_wp2_with fail
                  go_roundw
                  case rel => exact ⟨j + 1, _, by omega, rfl, congrArg (Value.int .i64) (by omega), ⟨_, _, rfl⟩, Lib.hid ⟨HO2.out, HB2.out⟩⟩
                  case measure => simp [intOf]
                · obtain ⟨d, hd⟩ : ∃ d, n / 256 ^ 3 % 256 = d := ⟨_, rfl⟩
                  have hd256 : d < 256 := by rw [← hd]; exact Nat.mod_lt _ (by decide)
                  have u0 : n / 16777216 % 256 = d := by first | (rw [← hd]; done) | (rw [← hd]; rfl)
                  have u1 : IntKind.u8.wrap ((n : Int) / 16777216) = (d : Int) := by rw [IntKind.wrap_u8]; omega
                  have HDJ : Hid (hdB m n q (j + 1) = d) := Lib.hid (by unfold hdB; rw [if_neg (by omega), show q - (j + 1) = 3 by omega, hd])
                  clear hd u0
                  go_wp2_with (at_builtin; refine wpList_app rfl (.tmp 79) (.tmp 85) _ rfl w.heap.size 5 i0 _ 1 Tryd.underlying28 hi hz0 hz1 hz2 rfl .u8 _ (j + 1) (hdB m n q) rfl (hO.out.1.alloc _) _ 1 1 (fun _ => d) rfl (rd_one _ .u8 d _) (by first | (simp [maxLen]; done) | (simp [maxLen]; omega)) (by omega) (by rw [hsz]; exact Nat.le_succ_of_le hO.out.2.size) ?_; intro v1 w1 hown1 hb1)
                  have HO2 : Hid (w1.ownsRow w.heap.size 5 1 v1 (j + 1 + 1) (vl .u8 (hdB m n q) (j + 1 + 1))) := Lib.hid (by
                    rw [vl_congr .u8 (g := hdB m n q) (fun i hi => by
                      rcases Nat.lt_or_ge i (j + 1) with h | h
                      · exact jn_lo _ _ h
                      · obtain rfl : i = j + 1 := by omega
                        have := jn_hi (hdB m n q) (fun _ => d) (j + 1) 0
                        rw [Nat.add_zero] at this
                        rw [this, HDJ.out])] at hown1
                    exact hown1)
                  have HB2 := Lib.hid ((hO.out.2.alloc hO.out.2.size _).trans hb1)
                  obtain ⟨A1, c1, rfl, _, _, _⟩ := Rd.of_own HO2.out
                  clear hown1 hb1
                  go_wp2_with fail
                  go_roundw
                  case rel => exact ⟨j + 1, _, by omega, rfl, congrArg (Value.int .i64) (by omega), ⟨_, _, rfl⟩, Lib.hid ⟨HO2.out, HB2.out⟩⟩
                  case measure => simp [intOf]
                · obtain ⟨d, hd⟩ : ∃ d, n / 256 ^ 4 % 256 = d := ⟨_, rfl⟩
                  have hd256 : d < 256 := by rw [← hd]; exact Nat.mod_lt _ (by decide)
                  have u0 : n / 4294967296 % 256 = d := by first | (rw [← hd]; done) | (rw [← hd]; rfl)
                  have u1 : IntKind.u8.wrap ((n : Int) / 4294967296) = (d : Int) := by rw [IntKind.wrap_u8]; omega
                  have HDJ : Hid (hdB m n q (j + 1) = d) := Lib.hid (by unfold hdB; rw [if_neg (by omega), show q - (j + 1) = 4 by omega, hd])
                  clear hd u0
                  go_wp2_with (at_builtin; refine wpList_app rfl (.tmp 79) (.tmp 85) _ rfl w.heap.size 5 i0 _ 1 Tryd.underlying28 hi hz0 hz1 hz2 rfl .u8 _ (j + 1) (hdB m n q) rfl (hO.out.1.alloc _) _ 1 1 (fun _ => d) rfl (rd_one _ .u8 d _) (by first | (simp [maxLen]; done) | (simp [maxLen]; omega)) (by omega) (by rw [hsz]; exact Nat.le_succ_of_le hO.out.2.size) ?_; intro v1 w1 hown1 hb1)
                  have HO2 : Hid (w1.ownsRow w.heap.size 5 1 v1 (j + 1 + 1) (vl .u8 (hdB m n q) (j + 1 + 1))) := Lib.hid (by
                    rw [vl_congr .u8 (g := hdB m n q) (fun i hi => by
                      rcases Nat.lt_or_ge i (j + 1) with h | h
                      · exact jn_lo _ _ h
                      · obtain rfl : i = j + 1 := by omega
                        have := jn_hi (hdB m n q) (fun _ => d) (j + 1) 0
                        rw [Nat.add_zero] at this
                        rw [this, HDJ.out])] at hown1
                    exact hown1)
                  have HB2 := Lib.hid ((hO.out.2.alloc hO.out.2.size _).trans hb1)
                  obtain ⟨A1, c1, rfl, _, _, _⟩ := Rd.of_own HO2.out
                  clear hown1 hb1
                  go_wp2_with fail
                  go_roundw
                  case rel => exact ⟨j + 1, _, by omega, rfl, congrArg (Value.int .i64) (by omega), ⟨_, _, rfl⟩, Lib.hid ⟨HO2.out, HB2.out⟩⟩
                  case measure => simp [intOf]
                · obtain ⟨d, hd⟩ : ∃ d, n / 256 ^ 5 % 256 = d := ⟨_, rfl⟩
                  have hd256 : d < 256 := by rw [← hd]; exact Nat.mod_lt _ (by decide)
                  have u0 : n / 1099511627776 % 256 = d := by first | (rw [← hd]; done) | (rw [← hd]; rfl)
                  have u1 : IntKind.u8.wrap ((n : Int) / 1099511627776) = (d : Int) := by rw [IntKind.wrap_u8]; omega
                  have HDJ : Hid (hdB m n q (j + 1) = d) := Lib.hid (by unfold hdB; rw [if_neg (by omega), show q - (j + 1) = 5 by omega, hd])
                  clear hd u0
                  go_wp2_with (at_builtin; refine wpList_app rfl (.tmp 79) (.tmp 85) _ rfl w.heap.size 5 i0 _ 1 Tryd.underlying28 hi hz0 hz1 hz2 rfl .u8 _ (j + 1) (hdB m n q) rfl (hO.out.1.alloc _) _ 1 1 (fun _ => d) rfl (rd_one _ .u8 d _) (by first | (simp [maxLen]; done) | (simp [maxLen]; omega)) (by omega) (by rw [hsz]; exact Nat.le_succ_of_le hO.out.2.size) ?_; intro v1 w1 hown1 hb1)
                  have HO2 : Hid (w1.ownsRow w.heap.size 5 1 v1 (j + 1 + 1) (vl .u8 (hdB m n q) (j + 1 + 1))) := Lib.hid (by
                    rw [vl_congr .u8 (g := hdB m n q) (fun i hi => by
                      rcases Nat.lt_or_ge i (j + 1) with h | h
                      · exact jn_lo _ _ h
                      · obtain rfl : i = j + 1 := by omega
                        have := jn_hi (hdB m n q) (fun _ => d) (j + 1) 0
                        rw [Nat.add_zero] at this
                        rw [this, HDJ.out])] at hown1
                    exact hown1)
                  have HB2 := Lib.hid ((hO.out.2.alloc hO.out.2.size _).trans hb1)
                  obtain ⟨A1, c1, rfl, _, _, _⟩ := Rd.of_own HO2.out
                  clear hown1 hb1
                  go_wp2_with fail
                  go_roundw
                  case rel => exact ⟨j + 1, _, by omega, rfl, congrArg (Value.int .i64) (by omega), ⟨_, _, rfl⟩, Lib.hid ⟨HO2.out, HB2.out⟩⟩
                  case measure => simp [intOf]
                · obtain ⟨d, hd⟩ : ∃ d, n / 256 ^ 6 % 256 = d := ⟨_, rfl⟩
                  have hd256 : d < 256 := by rw [← hd]; exact Nat.mod_lt _ (by decide)
                  have u0 : n / 281474976710656 % 256 = d := by first | (rw [← hd]; done) | (rw [← hd]; rfl)
                  have u1 : IntKind.u8.wrap ((n : Int) / 281474976710656) = (d : Int) := by rw [IntKind.wrap_u8]; omega
                  have HDJ : Hid (hdB m n q (j + 1) = d) := Lib.hid (by unfold hdB; rw [if_neg (by omega), show q - (j + 1) = 6 by omega, hd])
                  clear hd u0
                  go_wp2_with (at_builtin; refine wpList_app rfl (.tmp 79) (.tmp 85) _ rfl w.heap.size 5 i0 _ 1 Tryd.underlying28 hi hz0 hz1 hz2 rfl .u8 _ (j + 1) (hdB m n q) rfl (hO.out.1.alloc _) _ 1 1 (fun _ => d) rfl (rd_one _ .u8 d _) (by first | (simp [maxLen]; done) | (simp [maxLen]; omega)) (by omega) (by rw [hsz]; exact Nat.le_succ_of_le hO.out.2.size) ?_; intro v1 w1 hown1 hb1)
                  have HO2 : Hid (w1.ownsRow w.heap.size 5 1 v1 (j + 1 + 1) (vl .u8 (hdB m n q) (j + 1 + 1))) := Lib.hid (by
                    rw [vl_congr .u8 (g := hdB m n q) (fun i hi => by
                      rcases Nat.lt_or_ge i (j + 1) with h | h
                      · exact jn_lo _ _ h
                      · obtain rfl : i = j + 1 := by omega
                        have := jn_hi (hdB m n q) (fun _ => d) (j + 1) 0
                        rw [Nat.add_zero] at this
                        rw [this, HDJ.out])] at hown1
                    exact hown1)
                  have HB2 := Lib.hid ((hO.out.2.alloc hO.out.2.size _).trans hb1)
                  obtain ⟨A1, c1, rfl, _, _, _⟩ := Rd.of_own HO2.out
                  clear hown1 hb1
                  go_wp2_with fail
                  go_roundw
                  case rel => exact ⟨j + 1, _, by omega, rfl, congrArg (Value.int .i64) (by omega), ⟨_, _, rfl⟩, Lib.hid ⟨HO2.out, HB2.out⟩⟩
                  case measure => simp [intOf]
                · obtain ⟨d, hd⟩ : ∃ d, n / 256 ^ 7 % 256 = d := ⟨_, rfl⟩
                  have hd256 : d < 256 := by rw [← hd]; exact Nat.mod_lt _ (by decide)
                  have u0 : n / 72057594037927936 % 256 = d := by first | (rw [← hd]; done) | (rw [← hd]; rfl)
                  have u1 : IntKind.u8.wrap ((n : Int) / 72057594037927936) = (d : Int) := by rw [IntKind.wrap_u8]; omega
                  have HDJ : Hid (hdB m n q (j + 1) = d) := Lib.hid (by unfold hdB; rw [if_neg (by omega), show q - (j + 1) = 7 by omega, hd])
                  clear hd u0
                  go_wp2_with (at_builtin; refine wpList_app rfl (.tmp 79) (.tmp 85) _ rfl w.heap.size 5 i0 _ 1 Tryd.underlying28 hi hz0 hz1 hz2 rfl .u8 _ (j + 1) (hdB m n q) rfl (hO.out.1.alloc _) _ 1 1 (fun _ => d) rfl (rd_one _ .u8 d _) (by first | (simp [maxLen]; done) | (simp [maxLen]; omega)) (by omega) (by rw [hsz]; exact Nat.le_succ_of_le hO.out.2.size) ?_; intro v1 w1 hown1 hb1)
                  have HO2 : Hid (w1.ownsRow w.heap.size 5 1 v1 (j + 1 + 1) (vl .u8 (hdB m n q) (j + 1 + 1))) := Lib.hid (by
                    rw [vl_congr .u8 (g := hdB m n q) (fun i hi => by
                      rcases Nat.lt_or_ge i (j + 1) with h | h
                      · exact jn_lo _ _ h
                      · obtain rfl : i = j + 1 := by omega
                        have := jn_hi (hdB m n q) (fun _ => d) (j + 1) 0
                        rw [Nat.add_zero] at this
                        rw [this, HDJ.out])] at hown1
                    exact hown1)
                  have HB2 := Lib.hid ((hO.out.2.alloc hO.out.2.size _).trans hb1)
                  obtain ⟨A1, c1, rfl, _, _, _⟩ := Rd.of_own HO2.out
                  clear hown1 hb1
                  go_wp2_with fail
                  go_roundw
                  case rel => exact ⟨j + 1, _, by omega, rfl, congrArg (Value.int .i64) (by omega), ⟨_, _, rfl⟩, Lib.hid ⟨HO2.out, HB2.out⟩⟩
                  case measure => simp [intOf]
              · obtain rfl : j = q := by omega
                have hneg : ((j : Int) - 1 - (j : Int)) = -1 := by omega
                rw [hneg]
                obtain ⟨A1, c1, e1, g1, g2, g3⟩ := Rd.of_own hO.out.1
                injection e1 with ea _ ec
                subst ea ec
                have HG := Lib.hid hO.out.1
                have hBB := Lib.hid hO.out.2
                clear g1 g2 g3 hneg hO
                go_wp2_with fail
                exact bodyPost_ret (by simp [results, Tryd.results46, go_sem]) rfl ⟨.inl ⟨HF.out, _, _, rfl, HG.out⟩, hBB.out⟩
end Go.Proofs.YtlmabhpfmbebjaaDoor.nn
namespace Go.Proofs.YtlmabhpfmbebjaaDoor.nn
open Go.RowKit

theorem own_low {w : World} {B B' n size : Nat} {e : TypeId} {v : Value} {xs : List Value} (h : w.ownsRow B' e size v n xs) (hB : B ≤ B') : w.ownsRow B e size v n xs :=
  ⟨h.1, h.2.imp id fun ⟨g, cap, cur, hv, hb, hr⟩ => ⟨g, cap, cur, hv, Nat.le_trans hB hb, hr⟩⟩
/-- an answer that is the call's own bytes -/
def RwAns (L : List UInt8) (w : World) (e : Ending) (w' : World) : Prop := ∃ v, e = .returned v ∧ w'.ownsRow w.heap.size 5 1 v L.length (Lib.byteCells L) ∧ Below w.heap.size w w'
theorem rmajor_any (g : Bool) (w : World) : Calls Tryd.prog 30 #[.bool g] w fun e w' => e = .returned (.int .i64 (ng g : Int)) ∧ w = w' := by
  cases g
  all_goals
    go_enter Tryd.func30, Tryd.ntmps30
    go_wp2_with fail
    go_ret
    exact ⟨rfl, rfl⟩
theorem hd_ok0 {n : Nat} {x : Int} (hx : x = 0 ∨ x = 1 ∨ x = 2 ∨ x = 4 ∨ x = 8) : hdOk 0 n x = decide ((hdS n : Int) ≤ x) := by
  unfold hdOk
  have h1 : hdX 0 n x = false := by
    unfold hdX
    exact decide_eq_false (by omega)
  have h3 := hdI_cases x
  rw [h1, Bool.not_false, Bool.true_and]
  exact decide_eq_decide.2 ⟨fun h => h.2, fun h => ⟨by omega, h⟩⟩
theorem hdB_zero (M n k i : Nat) : hdB M n k i = (if i = 0 then M * 32 else 0) + hdB 0 n k i := by
  unfold hdB
  by_cases h : i = 0
  · rw [if_pos h, if_pos h, if_pos h]; omega
  · rw [if_neg h, if_neg h, if_neg h]; omega
/-- Wide of the major 0, as put asks for it -/
theorem wide0 (n : Nat) (x : Int) (w : World) (hn : n < 18446744073709551616) (hx : x = 0 ∨ x = 1 ∨ x = 2 ∨ x = 4 ∨ x = 8) :
    Calls Tryd.prog 46 #[.int .i64 0, .int .u64 (n : Int), .int .i64 x] w fun e w' => ∃ v, e = .returned (.tuple #[v, .int .i64 (if (hdS n : Int) ≤ x then 0 else 1)]) ∧ ((hdS n : Int) ≤ x → w'.ownsRow w.heap.size 5 1 v (x.toNat + 1) (vl .u8 (hdB 0 n x.toNat) (x.toNat + 1))) ∧ Below w.heap.size w w' := by
  refine (hwide_own 0 n x w hn (by decide) (by decide) (by omega) (by omega)).mono fun e w' ⟨h, hb⟩ => ?_
  rw [hd_ok0 hx] at h
  rcases h with ⟨h1, A, c, he, ho⟩ | ⟨h1, he⟩
  · have h2 := of_decide_eq_true h1
    exact ⟨_, by rw [he, if_pos h2], fun _ => ho, hb⟩
  · have h2 := of_decide_eq_false h1
    exact ⟨_, by rw [he, if_neg h2], fun h => absurd h h2, hb⟩
/-- the number of bytes that put has come to -/
def pk (n i : Nat) : Int := if i = 0 then 8 else if hdS n ≤ 4 then (if i = 1 then 4 else if hdS n ≤ 2 then (if i = 2 then 2 else if hdS n ≤ 1 then (if i = 3 then 1 else if hdS n = 0 then 0 else 1) else 2) else 4) else 8
theorem pk_all (n : Nat) : pk n 4 = (hdS n : Int) := by
  have h5 : hdS n = 0 ∨ hdS n = 1 ∨ hdS n = 2 ∨ hdS n = 4 ∨ hdS n = 8 := by have := hdS_cases n; omega
  rcases h5 with h | h | h | h | h
  all_goals
    unfold pk
    rw [h]
    decide
set_option maxRecDepth 100000 in
set_option maxHeartbeats 8000000 in
theorem rput_any' (M n : Nat) (w : World) (hM : M ≤ 7) (hn : n < 18446744073709551616) :
    Calls Tryd.prog 29 #[.int .i64 (M : Int), .int .u64 (n : Int)] w (RwAns (hdP M n) w) := by
  obtain ⟨W1, hW1⟩ : ∃ W1, w.alloc (.cells #[.int .i64 4, .int .i64 2, .int .i64 1, .int .i64 0] 3) = W1 := ⟨_, rfl⟩
  have hb1 : Below w.heap.size w W1 := by rw [← hW1]; exact (Below.refl _ _).alloc (Nat.le_refl _) _
  have hr1 : W1.heap[w.heap.size]? = some (.cells #[.int .i64 4, .int .i64 2, .int .i64 1, .int .i64 0] 3 (0, 0)) := by
    rw [← hW1]
    exact heap_alloc_last _ _
  have HC : Hid (∀ W, Below W1.heap.size W1 W → W.cell? ⟨w.heap.size, 0, none⟩ = some (.int .i64 4) ∧ W.cell? ⟨w.heap.size, 1, none⟩ = some (.int .i64 2) ∧ W.cell? ⟨w.heap.size, 2, none⟩ = some (.int .i64 1) ∧ W.cell? ⟨w.heap.size, 3, none⟩ = some (.int .i64 0)) := Lib.hid fun W hW => by
    have h := (hW.block _ (lt_of_block hr1)).trans hr1
    exact ⟨cell_of_row _ _ 0 _ _ _ h, cell_of_row _ _ 1 _ _ _ h, cell_of_row _ _ 2 _ _ _ h, cell_of_row _ _ 3 _ _ _ h⟩
  have HW := Lib.hid (fun (x : Int) W (hx : x = 0 ∨ x = 1 ∨ x = 2 ∨ x = 4 ∨ x = 8) => wide0 n x W hn hx)
  have HB1 := Lib.hid hb1
  have HPK : Hid (pk n 0 = 8 ∧ pk n 1 = (if (hdS n : Int) ≤ 4 then 4 else pk n 0) ∧ pk n 2 = (if (hdS n : Int) ≤ 2 then 2 else pk n 1) ∧ pk n 3 = (if (hdS n : Int) ≤ 1 then 1 else pk n 2) ∧ pk n 4 = (if (hdS n : Int) ≤ 0 then 0 else pk n 3)) := Lib.hid (by
    have h5 : hdS n = 0 ∨ hdS n = 1 ∨ hdS n = 2 ∨ hdS n = 4 ∨ hdS n = 8 := by have := hdS_cases n; omega
    refine ⟨rfl, ?_⟩
    rcases h5 with h | h | h | h | h
    all_goals
      unfold pk
      rw [h]
      decide)
  clear hb1 hr1
  go_enter Tryd.func29, Tryd.ntmps29
  go_wp2_with fail
  go_loopw [5, 14] (fun s5 s14 wr => ∃ i : Nat, i ≤ 4 ∧ s5 = .int .i64 (pk n i) ∧ s14 = .int .i64 (i : Int) ∧ Hid (Below W1.heap.size W1 wr)) (fun _ s14 _ => 4 - (intOf s14).toNat)
  case atStart => exact ⟨0, by decide, by rw [HPK.out.1], rfl, Lib.hid (Below.refl _ _)⟩
  case round =>
    obtain ⟨i, hi, rfl, rfl, hB⟩ := hrel
    obtain ⟨p, hp⟩ : ∃ p, pk n i = p := ⟨_, rfl⟩
    have HP := Lib.hid hp
    rw [hp]
    clear hp
    obtain ⟨c0, c1, c2, c3⟩ := HC.out wr hB.out
    have h5 : i = 4 ∨ i = 0 ∨ i = 1 ∨ i = 2 ∨ i = 3 := by omega
    rcases h5 with rfl | h5
    · have HP4 := Lib.hid (show p = (hdS n : Int) by rw [← HP.out, pk_all])
      have H2 := Lib.hid ((HW.out p wr (by rw [HP4.out]; have := hdS_cases n; omega)).mono (R' := fun e w' => ∃ v, e = .returned (.tuple #[v, .int .i64 0]) ∧ w'.ownsRow wr.heap.size 5 1 v (hdS n + 1) (vl .u8 (hdB 0 n (hdS n)) (hdS n + 1)) ∧ Below wr.heap.size wr w') fun e w' ⟨v, he, ho, hb⟩ => ⟨v, by rw [he, if_pos (by rw [HP4.out]; exact Int.le_refl _)], by
        have := ho (by rw [HP4.out]; exact Int.le_refl _)
        rw [HP4.out, Int.toNat_natCast] at this
        exact this, hb⟩)
      have HB2 := Lib.hid (HB1.out.trans (hB.out.mono HB1.out.size))
      clear c0 c1 c2 c3 HC HW HPK HP
      go_wp2_with fail
      refine H2.out.mono ?_
      rintro e w2 ⟨v, rfl, ho2, hb⟩
      obtain ⟨g, c, rfl⟩ : ∃ g c, v = .slice (some ⟨g, 0, none⟩) (hdS n + 1) c := by
        rcases ho2.2 with ⟨_, h0⟩ | ⟨g, cap, cur, hv, _⟩
        · exact absurd h0 (by omega)
        · exact ⟨g, cap, hv⟩
      obtain ⟨cur, hbk, hin, hbg, hlc, hcm, hcs, hset⟩ := own_wrote ho2
      have hc0 : w2.cell? ⟨g, 0, none⟩ = some (.int .u8 (hdB 0 n (hdS n) 0 : Int)) := (hbk.cell 0).trans (hin 0 (by omega))
      have hf0 : w2.frozen? ⟨g, 0, none⟩ = false := hbk.frozen 0
      have hd32 : hdB 0 n (hdS n) 0 < 32 := by
        have := hdS_cases n
        have := hdI_cases (hdS n : Int)
        unfold hdB
        rw [if_pos rfl]
        split <;> omega
      have HFIN := Lib.hid (hset (w2.setCell ⟨g, 0 + 0, none⟩ (.int .u8 ((M * 32 + hdB 0 n (hdS n) 0 : Nat) : Int))) _ _ ((Wrote.refl hbk 0 (hdS n + 1)).set_ 0 (by omega) _) (hin.set_ 0 (M * 32 + hdB 0 n (hdS n) 0) (by omega)))
      have HFN : Hid (∀ i, i < hdS n + 1 → upd (hdB 0 n (hdS n)) 0 (M * 32 + hdB 0 n (hdS n) 0) i = gL (hdP M n) i) := Lib.hid fun i hi => by
        have := hdS_cases n
        unfold hdP
        rw [gL_lsF hi (hdB_lt (by omega) (by omega) i), hdB_zero M n (hdS n) i]
        by_cases h : i = 0
        · subst h; rw [upd_at, if_pos rfl]
        · rw [upd_ne _ h, if_neg h, Nat.zero_add]
      have HB3 : Hid (Below w.heap.size w (w2.setCell ⟨g, 0 + 0, none⟩ (.int .u8 ((M * 32 + hdB 0 n (hdS n) 0 : Nat) : Int)))) := Lib.hid ((HB2.out.trans (hb.mono HB2.out.size)).setCell (p := ⟨g, 0 + 0, none⟩) (Nat.le_trans HB2.out.size hbg) _)
      obtain ⟨d, hd⟩ : ∃ d, hdB 0 n (hdS n) 0 = d := ⟨_, rfl⟩
      rw [hd] at hc0 hd32 HFIN HFN HB3
      have w1 : wrap64 ((M : Int) * 32) = (M : Int) * 32 := by unfold wrap64; omega
      have w2' : (M : Int) * 32 % 256 = (M : Int) * 32 := by omega
      have w3' : IntKind.u8.wrap ((M : Int) * 32) = (M : Int) * 32 := by rw [IntKind.wrap_u8]; omega
      have hor : bits .or .u8 (d : Int) ((M : Int) * 32) = ((M * 32 + d : Nat) : Int) := by
        rw [show (M : Int) * 32 = ((M * 32 : Nat) : Int) by omega, u8_or_nat _ _ (by omega) (by omega), Nat.or_comm, nat_join 5 _ _ (Nat.mul_mod_left M 32) hd32]
      have hl0 : (0 : Int) < ((hdS n + 1 : Nat) : Int) := by omega
      have HBG := Lib.hid (Nat.le_trans HB2.out.size hbg)
      clear ho2 hb hbk hin hbg hlc hcm hcs hset hd H2
      rw [show ((M * 32 + d : Nat) : Int) = (M : Int) * 32 + (d : Int) by omega] at HFIN HB3
      go_wp2_with fail
      go_ret
      refine ⟨_, rfl, ?_, HB3.out⟩
      rw [hdP_len, bc_vl, hdP_len, ← vl_congr .u8 HFN.out]
      exact own_low HFIN.out HB2.out.size
    · rcases h5 with rfl | rfl | rfl | rfl
      · have H2 := Lib.hid (HW.out 4 wr (by omega))
        have HPN := Lib.hid HPK.out.2.1
        have HB2 := Lib.hid hB.out
        by_cases hs : (hdS n : Int) ≤ 4
        all_goals
          simp only [hs, if_true, if_false] at H2 HPN
          clear HW HPK HC
          go_wp2_with fail
          refine H2.out.mono ?_
          rintro e w2 ⟨v, rfl, _, hb⟩
          have HB3 := Lib.hid (HB2.out.trans (hb.mono HB2.out.size))
          clear hb c0 c1 c2 c3 hs
          go_wp2_with fail
          go_roundw
          case rel => exact ⟨1, by decide, by rw [HPN.out]; try rw [HP.out], by first | rfl | go_num, HB3⟩
          case measure => simp [intOf]
      · have H2 := Lib.hid (HW.out 2 wr (by omega))
        have HPN := Lib.hid HPK.out.2.2.1
        have HB2 := Lib.hid hB.out
        by_cases hs : (hdS n : Int) ≤ 2
        all_goals
          simp only [hs, if_true, if_false] at H2 HPN
          clear HW HPK HC
          go_wp2_with fail
          refine H2.out.mono ?_
          rintro e w2 ⟨v, rfl, _, hb⟩
          have HB3 := Lib.hid (HB2.out.trans (hb.mono HB2.out.size))
          clear hb c0 c1 c2 c3 hs
          go_wp2_with fail
          go_roundw
          case rel => exact ⟨2, by decide, by rw [HPN.out]; try rw [HP.out], by first | rfl | go_num, HB3⟩
          case measure => simp [intOf]
      · have H2 := Lib.hid (HW.out 1 wr (by omega))
        have HPN := Lib.hid HPK.out.2.2.2.1
        have HB2 := Lib.hid hB.out
        by_cases hs : (hdS n : Int) ≤ 1
        all_goals
          simp only [hs, if_true, if_false] at H2 HPN
          clear HW HPK HC
          go_wp2_with fail
          refine H2.out.mono ?_
          rintro e w2 ⟨v, rfl, _, hb⟩
          have HB3 := Lib.hid (HB2.out.trans (hb.mono HB2.out.size))
          clear hb c0 c1 c2 c3 hs
          go_wp2_with fail
          go_roundw
          case rel => exact ⟨3, by decide, by rw [HPN.out]; try rw [HP.out], by first | rfl | go_num, HB3⟩
          case measure => simp [intOf]
      · have H2 := Lib.hid (HW.out 0 wr (by omega))
        have HPN := Lib.hid HPK.out.2.2.2.2
        have HB2 := Lib.hid hB.out
        by_cases hs : (hdS n : Int) ≤ 0
        all_goals
          simp only [hs, if_true, if_false] at H2 HPN
          clear HW HPK HC
          go_wp2_with fail
          refine H2.out.mono ?_
          rintro e w2 ⟨v, rfl, _, hb⟩
          have HB3 := Lib.hid (HB2.out.trans (hb.mono HB2.out.size))
          clear hb c0 c1 c2 c3 hs
          go_wp2_with fail
          go_roundw
          case rel => exact ⟨4, by decide, by rw [HPN.out]; try rw [HP.out], by first | rfl | go_num, HB3⟩
          case measure => simp [intOf]
end Go.Proofs.YtlmabhpfmbebjaaDoor.nn
namespace Go.Proofs.YtlmabhpfmbebjaaDoor.nn
open Go.RowKit

/-- an append of bytes to bytes of the call's own -/
theorem own_lit8 (w : World) (d : Nat) (hd : d < 256) : (w.alloc (.cells #[.int .u8 (d : Int)] 5)).ownsRow w.heap.size 5 1 (.slice (some ⟨w.heap.size, 0, none⟩) 1 1) 1 (Lib.byteCells [UInt8.ofNat d]) := by
  have h := own_one8 w d 5
  rw [bc_vl]
  have e : vl .u8 (gL [UInt8.ofNat d]) [UInt8.ofNat d].length = vl .u8 (fun _ => d) 1 := vl_congr .u8 fun i hi => by
    have : i = 0 := by simp at hi; omega
    subst this
    exact u8_of hd
  rw [e]
  exact h
set_option maxRecDepth 100000 in
set_option maxHeartbeats 8000000 in
theorem rfloat_any (x n q : Nat) (w : World) (hx : x < 256) (_ : n < 18446744073709551616) (hq0 : 0 < q) (hq : q ≤ 8) :
    Calls Tryd.prog 32 #[.int .u8 (x : Int), .int .u64 (n : Int), .int .i64 (q : Int)] w (RwAns (flP x n q) w) := by
  obtain ⟨i0, hi, hz0, hz1, hz2⟩ := info_parts infoW8
  have HT : Hid (flP x n q = [UInt8.ofNat x] ++ lsF (fun i => n / 256 ^ (q - 1 - i) % 256) q) := Lib.hid rfl
  have HO0 := Lib.hid (own_lit8 w x hx)
  have HB0 := Lib.hid ((Below.refl w.heap.size w).alloc (Nat.le_refl _) (.cells #[.int .u8 (x : Int)] 5))
  have HL0 : Hid ([UInt8.ofNat x] ++ lsF (fun i => n / 256 ^ (q - 1 - i) % 256) 0 = [UInt8.ofNat x]) := Lib.hid rfl
  go_enter Tryd.func32, Tryd.ntmps32
  go_wp2_with fail
  go_loopw [7, 8] (fun s7 s8 wr => ∃ (j : Nat) (v : Value), j ≤ q ∧ s7 = v ∧ s8 = .int .i64 ((q : Int) - 1 - (j : Int)) ∧ (∃ A c, v = .slice A (j + 1) c) ∧ Hid (wr.ownsRow w.heap.size 5 1 v (j + 1) (Lib.byteCells ([UInt8.ofNat x] ++ lsF (fun i => n / 256 ^ (q - 1 - i) % 256) j)) ∧ Below w.heap.size w wr)) (fun _ s8 _ => ((intOf s8) + 1).toNat)
  case atStart => exact ⟨0, _, Nat.zero_le _, rfl, congrArg (Value.int .i64) (by omega), ⟨_, _, rfl⟩, Lib.hid ⟨by rw [HL0.out]; exact HO0.out, HB0.out⟩⟩
  case round =>
    obtain ⟨j, v, hj, rfl, rfl, ⟨A0, c0, rfl⟩, hO⟩ := hrel
    by_cases hlt : j < q
    · obtain ⟨i, hii⟩ : ∃ i : Nat, (q : Int) - 1 - (j : Int) = (i : Int) := ⟨q - 1 - j, by omega⟩
      rw [hii]
      have h8 : i = 0 ∨ i = 1 ∨ i = 2 ∨ i = 3 ∨ i = 4 ∨ i = 5 ∨ i = 6 ∨ i = 7 := by omega
      obtain ⟨d, hd⟩ : ∃ d, n / 256 ^ i % 256 = d := ⟨_, rfl⟩
      have hd256 : d < 256 := by rw [← hd]; exact Nat.mod_lt _ (by decide)
      have HDJ : Hid (lsF (fun i => n / 256 ^ (q - 1 - i) % 256) (j + 1) = lsF (fun i => n / 256 ^ (q - 1 - i) % 256) j ++ [UInt8.ofNat d]) := Lib.hid (by rw [lsF_succ, show q - 1 - j = i by omega, hd])
      have U1 : Hid (∀ N : Nat, N = 256 ^ i → IntKind.u8.wrap ((n : Int) / (N : Int)) = (d : Int)) := Lib.hid (fun N hN => by
        rw [IntKind.wrap_u8, ← hd, hN]
        simp)
      obtain ⟨P, hP⟩ : ∃ P, [UInt8.ofNat x] ++ lsF (fun i => n / 256 ^ (q - 1 - i) % 256) j = P := ⟨_, rfl⟩
      have HPL : Hid (j + 1 = P.length) := Lib.hid (by rw [← hP, List.length_append, lsF_len]; simp; omega)
      have hO1 := hO.out
      rw [hP] at hO1
      have HO1 := Lib.hid hO1
      have HP := Lib.hid hP
      have HR : Hid (∀ W : World, Rd (W.alloc (.cells #[.int .u8 (d : Int)] 5)) .u8 (some ⟨W.heap.size, 0, none⟩) 1 (gL [UInt8.ofNat d])) := Lib.hid fun W => rd_b1 W hd256 _
      have k0 : IntKind.i64.wrap 0 = 0 := by decide
      have k1 : IntKind.i64.wrap 8 = 8 := by decide
      have k2 : IntKind.i64.wrap 16 = 16 := by decide
      have k3 : IntKind.i64.wrap 24 = 24 := by decide
      have k4 : IntKind.i64.wrap 32 = 32 := by decide
      have k5 : IntKind.i64.wrap 40 = 40 := by decide
      have k6 : IntKind.i64.wrap 48 = 48 := by decide
      have k7 : IntKind.i64.wrap 56 = 56 := by decide
      have hszw : w.heap.size ≤ wr.heap.size := hO1.2.size
      clear hd hO1 hP hO
      rcases h8 with rfl | rfl | rfl | rfl | rfl | rfl | rfl | rfl
      all_goals
        first
          | (have u2 : IntKind.u8.wrap (n : Int) = (d : Int) := by have := U1.out 1 (by decide); rw [show ((1 : Nat) : Int) = 1 from rfl, Int.ediv_one] at this; exact this)
          | (have u2 : IntKind.u8.wrap ((n : Int) / 256) = (d : Int) := U1.out 256 (by decide))
          | (have u2 : IntKind.u8.wrap ((n : Int) / 65536) = (d : Int) := U1.out 65536 (by decide))
          | (have u2 : IntKind.u8.wrap ((n : Int) / 16777216) = (d : Int) := U1.out 16777216 (by decide))
          | (have u2 : IntKind.u8.wrap ((n : Int) / 4294967296) = (d : Int) := U1.out 4294967296 (by decide))
          | (have u2 : IntKind.u8.wrap ((n : Int) / 1099511627776) = (d : Int) := U1.out 1099511627776 (by decide))
          | (have u2 : IntKind.u8.wrap ((n : Int) / 281474976710656) = (d : Int) := U1.out 281474976710656 (by decide))
          | (have u2 : IntKind.u8.wrap ((n : Int) / 72057594037927936) = (d : Int) := U1.out 72057594037927936 (by decide))
        clear U1
        go_wp2_with (at_builtin; refine wpList_appB rfl (.tmp 17) (.tmp 23) _ rfl w.heap.size 5 i0 _ Tryd.underlying28 hi hz0 hz1 hz2 rfl _ (j + 1) P HPL.out rfl (HO1.out.1.alloc _) _ 1 1 [UInt8.ofNat d] rfl rfl (HR.out _) (by omega) (by simp; omega) ?_; intro v1 w1 hown1 hb1)
        have HO2 : Hid (w1.ownsRow w.heap.size 5 1 v1 (j + 1 + 1) (Lib.byteCells ([UInt8.ofNat x] ++ lsF (fun i => n / 256 ^ (q - 1 - i) % 256) (j + 1)))) := Lib.hid (by
          rw [HDJ.out, ← List.append_assoc, HP.out]
          exact hown1)
        have HB2 := Lib.hid ((HO1.out.2.alloc hszw _).trans hb1)
        obtain ⟨A1, c1, rfl, _, _, _⟩ := rd_list (by rw [HDJ.out, ← List.append_assoc, HP.out, List.length_append, ← HPL.out]; rfl) HO2.out
        clear hown1 hb1
        go_wp2_with fail
        go_roundw
        case rel => exact ⟨j + 1, _, by omega, rfl, congrArg (Value.int .i64) (by omega), ⟨_, _, rfl⟩, Lib.hid ⟨HO2.out, HB2.out⟩⟩
        case measure => simp [intOf]
    · obtain rfl : j = q := by omega
      have hneg : ((j : Int) - 1 - (j : Int)) = -1 := by omega
      rw [hneg]
      clear hneg
      go_wp2_with fail
      go_ret
      refine ⟨_, rfl, ?_, hO.out.2⟩
      rw [flP_len, HT.out]
      exact hO.out.1
end Go.Proofs.YtlmabhpfmbebjaaDoor.nn
namespace Go.Proofs.YtlmabhpfmbebjaaDoor.nn
open Go.RowKit

set_option maxRecDepth 100000 in
set_option maxHeartbeats 2000000 in
theorem rtext_any (M : Nat) (s : ByteArray) (o : Bool) (w : World) (hM : M ≤ 6) (hs : s.size ≤ 100000000000) :
    Calls Tryd.prog 31 #[.int .i64 (M : Int), .string s, .bool o] w (RwAns (txP o M s) w) := by
  obtain ⟨i0, hi, hz0, hz1, hz2⟩ := info_parts infoW8
  have H1 := Lib.hid (rput_any' M s.size w (by omega) (by omega))
  have hl9 := hdP_le M s.size
  have hwr : IntKind.u64.wrap (s.size : Int) = (s.size : Int) := by rw [IntKind.wrap_u64]; omega
  have hs0 : s.toList.isEmpty = decide (s.size = 0) := by
    rw [ByteArray.toList_eq, ← ba_len s]
    cases s.data.toList <;> simp
  have E0 : Hid (txP false M s = hdP M s.size ++ s.data.toList) := Lib.hid rfl
  have E1 : Hid (s.size = 0 → txP true M s = [opP M] ++ [255]) := Lib.hid fun h => by unfold txP; rw [if_pos rfl, if_pos h]; rfl
  have E2 : Hid (¬ s.size = 0 → txP true M s = [opP M] ++ (hdP M s.size ++ s.data.toList) ++ [255]) := Lib.hid fun h => by unfold txP pcP; rw [if_pos rfl, if_neg h]; simp
  obtain ⟨P, hP⟩ : ∃ P, hdP M s.size = P := ⟨_, rfl⟩
  rw [hP] at H1 hl9 E0 E2
  have hln : P.length + s.size ≤ 140737488355328 := by omega
  have hd256 : M * 32 + 31 < 256 := by omega
  have hor := int_first (m := M) (x := 31) (by omega) (by decide)
  have hw1 : wrap64 ((M : Int) * 32) = (M : Int) * 32 := by unfold wrap64; omega
  have hOP : opP M = UInt8.ofNat (M * 32 + 31) := rfl
  obtain ⟨d, hd⟩ : ∃ d, M * 32 + 31 = d := ⟨_, rfl⟩
  rw [hd] at hor hd256 hOP
  have hor' : bits .or .i64 ((M : Int) * 32) 31 = (d : Int) := hor
  have hm : (d : Int) % 256 = (d : Int) := by omega
  have hb8 : IntKind.u8.wrap (d : Int) = (d : Int) := by rw [IntKind.wrap_u8]; omega
  rw [hOP] at E1 E2
  clear hP hd hOP
  have hlp : (P ++ s.data.toList).length = P.length + s.size := by rw [List.length_append, ba_len]
  have HLP := Lib.hid hlp
  clear hlp
  cases o with
  | false =>
    go_enter Tryd.func31, Tryd.ntmps31
    go_wp2_with fail
    refine H1.out.mono ?_
    rintro e w1 ⟨v, rfl, ho1, hb1⟩
    have HO1 := Lib.hid ho1
    have HB1 := Lib.hid hb1
    have hsz1 := hb1.size
    clear ho1 hb1
    go_upto_region 2 with (at_builtin; refine wpList_appS rfl (.tmp 13) (.tmp 14) _ _ rfl w.heap.size 5 i0 Tryd.underlying28 Tryd.underlying9 hi hz0 hz1 hz2 v P.length P rfl HO1.out s rfl hln hsz1 ?_; intro v2 w2 ho2 hb2; have HO2 := Lib.hid ho2; have HB2 := Lib.hid (HB1.out.trans hb2); obtain ⟨A2, c2, rfl, _, _, hr2⟩ := rd_list (L := P ++ s.data.toList) (n := P.length + s.size) (by rw [List.length_append, ba_len]) ho2; clear ho2 hb2)
    go_wp2_with fail
    go_ret
    refine ⟨_, rfl, ?_, HB2.out⟩
    rw [E0.out, HLP.out]
    exact HO2.out
  | true =>
    go_enter Tryd.func31, Tryd.ntmps31
    go_wp2_with fail
    refine H1.out.mono ?_
    rintro e w1 ⟨v, rfl, ho1, hb1⟩
    have HO1 := Lib.hid ho1
    have HB1 := Lib.hid hb1
    have hsz1 := hb1.size
    clear ho1 hb1
    go_upto_region 2 with (at_builtin; refine wpList_appS rfl (.tmp 13) (.tmp 14) _ _ rfl w.heap.size 5 i0 Tryd.underlying28 Tryd.underlying9 hi hz0 hz1 hz2 v P.length P rfl HO1.out s rfl hln hsz1 ?_; intro v2 w2 ho2 hb2; have HO2 := Lib.hid ho2; have HB2 := Lib.hid (HB1.out.trans hb2); obtain ⟨A2, c2, rfl, _, _, hr2⟩ := rd_list (L := P ++ s.data.toList) (n := P.length + s.size) (by rw [List.length_append, ba_len]) ho2; clear ho2 hb2)
    by_cases hz : s.size = 0
    · have HE := Lib.hid (E1.out hz)
      have g1 : s.toList.isEmpty = true := by rw [hs0]; exact decide_eq_true hz
      clear hs0 E0 E1 E2
      have HO3 := Lib.hid (own_lit8 w2 d hd256)
      have HR3 : Hid (Rd ((w2.alloc (.cells #[.int .u8 (d : Int)] 5)).alloc (.cells #[.int .u8 255] 5)) .u8 (some ⟨w2.heap.size + 1, 0, none⟩) 1 (gL [255])) := Lib.hid (by
        have h := rd_b1 (w2.alloc (.cells #[.int .u8 (d : Int)] 5)) (d := 255) (by decide) 5
        rw [show (w2.alloc (.cells #[.int .u8 (d : Int)] 5)).heap.size = w2.heap.size + 1 by simp] at h
        exact h)
      have hsz2 : w.heap.size ≤ w2.heap.size := HB2.out.size
      have HB3 : Hid (Below w.heap.size w ((w2.alloc (.cells #[.int .u8 (d : Int)] 5)).alloc (.cells #[.int .u8 255] 5))) := Lib.hid ((HB2.out.alloc hsz2 _).alloc (by simp; omega) _)
      clear hs HO1 HB1 H1
      go_wp2_with (at_builtin; refine wpList_appB rfl (.tmp 29) (.tmp 30) _ rfl w.heap.size 5 i0 _ Tryd.underlying28 hi hz0 hz1 hz2 rfl _ 1 [UInt8.ofNat d] rfl rfl (own_low (HO3.out.alloc _) hsz2) _ 1 1 [255] rfl rfl HR3.out (by decide) (by simp; omega) ?_; intro v3 w3 ho3 hb3; have HO4 := Lib.hid ho3; have HB4 := Lib.hid (HB3.out.trans hb3); obtain ⟨A3, c3, rfl, _, _, _⟩ := rd_list (L := [UInt8.ofNat d] ++ [255]) (n := 1 + 1) rfl ho3; clear ho3 hb3)
      go_wp2_with fail
      go_ret
      refine ⟨_, rfl, ?_, HB4.out⟩
      rw [HE.out]
      exact HO4.out
    · have HE := Lib.hid (E2.out hz)
      have g1 : s.toList.isEmpty = false := by rw [hs0]; exact decide_eq_false hz
      clear hs0 E0 E1 E2
      have HO3 := Lib.hid (own_lit8 w2 d hd256)
      have HRD : Hid (Rd (w2.alloc (.cells #[.int .u8 (d : Int)] 5)) .u8 A2 (P.length + s.size) (gL (P ++ s.data.toList))) := Lib.hid (hr2.alloc _)
      have hsz2 : w.heap.size ≤ w2.heap.size := HB2.out.size
      have HB3 : Hid (Below w.heap.size w (w2.alloc (.cells #[.int .u8 (d : Int)] 5))) := Lib.hid (HB2.out.alloc hsz2 _)
      have hlt2 : 1 + (P.length + s.size) ≤ 140737488355328 := by omega
      have hpl : P.length + s.size = (P ++ s.data.toList).length := by rw [HLP.out]
      have HPLn := Lib.hid hpl
      clear HO1 HB1 H1 hr2 hpl
      go_upto_region 7 with (at_builtin; refine wpList_appB rfl (.tmp 26) (.tmp 27) _ rfl w.heap.size 5 i0 _ Tryd.underlying28 hi hz0 hz1 hz2 rfl _ 1 [UInt8.ofNat d] rfl rfl (own_low HO3.out hsz2) A2 (P.length + s.size) c2 (P ++ s.data.toList) HPLn.out rfl HRD.out hlt2 (by simp; omega) ?_; intro v3 w3 ho3 hb3; have HO4 := Lib.hid ho3; have HB4 := Lib.hid (HB3.out.trans hb3); obtain ⟨A3, c3, rfl, _, _, _⟩ := rd_list (L := [UInt8.ofNat d] ++ (P ++ s.data.toList)) (n := 1 + (P.length + s.size)) (by rw [List.length_append, ← HPLn.out]; rfl) ho3; clear ho3 hb3)
      have HR5 := Lib.hid (rd_b1 w3 (d := 255) (by decide) 5)
      have hsz3 : w.heap.size ≤ w3.heap.size := HB4.out.size
      have HB5 := Lib.hid (HB4.out.alloc hsz3 (.cells #[.int .u8 255] 5))
      have HN5 : Hid (1 + (P.length + s.size) = ([UInt8.ofNat d] ++ (P ++ s.data.toList)).length) := Lib.hid (by rw [List.length_append, ← HPLn.out]; rfl)
      have hlt3 : 1 + (P.length + s.size) + 1 ≤ 140737488355328 := by omega
      go_wp2_with (at_builtin; refine wpList_appB rfl (.tmp 29) (.tmp 30) _ rfl w.heap.size 5 i0 _ Tryd.underlying28 hi hz0 hz1 hz2 rfl _ (1 + (P.length + s.size)) ([UInt8.ofNat d] ++ (P ++ s.data.toList)) HN5.out rfl (HO4.out.alloc _) (some ⟨w3.heap.size, 0, none⟩) 1 1 [255] rfl rfl HR5.out hlt3 (by simp; omega) ?_; intro v5 w5 ho5 hb5; have HO6 := Lib.hid ho5; have HB6 := Lib.hid (HB5.out.trans hb5); obtain ⟨A5, c5, rfl, _, _, _⟩ := rd_list (L := [UInt8.ofNat d] ++ (P ++ s.data.toList) ++ [255]) (n := 1 + (P.length + s.size) + 1) (by rw [List.length_append, ← HN5.out]; rfl) ho5; clear ho5 hb5)
      go_wp2_with fail
      go_ret
      refine ⟨_, rfl, ?_, HB6.out⟩
      rw [HE.out, List.length_append, ← HN5.out]
      exact HO6.out
end Go.Proofs.YtlmabhpfmbebjaaDoor.nn
namespace Go.Proofs.YtlmabhpfmbebjaaDoor.nn
open Go.RowKit

set_option maxRecDepth 100000 in
set_option maxHeartbeats 4000000 in
theorem rhas_any (w0 : World) (N : Nat) : ∀ (t : VT) (C : Value) (w : World), cnt t ≤ N → cnt t ≤ 1099511627776 → Lst w0 C t.l → Below w0.heap.size w0 w →
    Calls Tryd.prog 14 #[vv t C, .int .i64 14] w fun e w' => e = .returned (.bool (ext t)) ∧ Below w.heap.size w w' := by
  induction N with
  | zero => intro t C w h; have := cnt_mk t; omega
  | succ N ih =>
    intro t C w hN hcn hC hw
    obtain ⟨A, c, rfl, hlc, hA⟩ := hC.out
    have hcm := cnt_mk t
    have hlen := len_cntL t.l
    have hxm := ext_mk t
    obtain ⟨W1, hW1⟩ : ∃ W1, w.alloc (.cells #[.int .i64 t.k, .bool t.g, .int .u64 (t.n : Int), .string t.s, .slice A t.l.length c] 25) = W1 := ⟨_, rfl⟩
    have hx0 : Box w t (.slice A t.l.length c) W1 := by rw [← hW1]; exact Box.new w t _ _
    have HX0 := Lib.hid hx0
    have HW := Lib.hid hw
    have c0 := hx0.r.k
    have hIH := Lib.hid ih
    obtain ⟨k, hk⟩ : ∃ k, t.k = k := ⟨_, rfl⟩
    rw [hk] at c0 hxm
    unfold vv
    rw [hk]
    by_cases k14 : k = 14
    · have hxx : ext t = true := by rw [hxm, decide_eq_true k14, Bool.true_or]
      rw [hxx]
      subst k14
      clear hxm hxx ih
      go_enter Tryd.func14, Tryd.ntmps14
      go_upto_region 1 with fail
      first | rw [← hk, hW1, hk] | skip
      clear hW1
      go_wp2_with fail
      go_ret
      exact ⟨rfl, HX0.out.b⟩
    · have hxx : ext t = extL t.l := by rw [hxm, decide_eq_false k14, Bool.false_or]
      have k14b : (k == 14) = false := by simp; omega
      rw [hxx]
      obtain ⟨L, hL⟩ : ∃ L, t.l = L := ⟨_, rfl⟩
      obtain ⟨X, hX⟩ : ∃ X, extL t.l = X := ⟨_, rfl⟩
      rw [hX, hL]
      rw [hL] at hlc hA hcm hlen hX HX0
      have HX := Lib.hid hX
      have HBC : Hid (∀ W, Box w t (.slice A L.length c) W → W.cell? ⟨w.heap.size, 4, none⟩ = some (.slice A L.length c)) := Lib.hid fun W hW => hW.r.l
      have HKK := Lib.hid hk
      have HW1 := Lib.hid hW1
      clear hxm hxx hX hk hW1 ih hC hw k14
      go_enter Tryd.func14, Tryd.ntmps14
      go_upto_region 1 with fail
      rw [← HKK.out, ← hL, HW1.out, HKK.out, hL]
      clear HW1
      go_wp2_with fail
      go_loopw [5] (fun s5 wr => ∃ i : Nat, i ≤ L.length ∧ s5 = .int .i64 (i : Int) ∧ Hid (extL (L.take i) = false) ∧ Hid (Box w t (.slice A L.length c) wr)) (fun s5 _ => L.length - (intOf s5).toNat)
      case atStart => exact ⟨0, Nat.zero_le _, rfl, Lib.hid rfl, HX0⟩
      case round =>
        obtain ⟨i, hi, rfl, he, hb⟩ := hrel
        have q4 := HBC.out wr hb.out
        by_cases hlt : i < L.length
        · rcases hA with ⟨_, h0, _⟩ | ⟨b1, off, D, rfl, hb1, hrow, hkid⟩
          · rw [h0] at hlt; exact absurd hlt (by simp)
          obtain ⟨t', ht'⟩ : ∃ t', L[i] = t' := ⟨_, rfl⟩
          obtain ⟨C', hC'⟩ : ∃ C', D i = C' := ⟨_, rfl⟩
          have hr := hrow i hlt
          have hkl := hkid i hlt
          have hcn := cnt_at hlt
          have hxs := extL_take_succ hlt
          have hxt := fun h => extL_take (L := L) hlt h
          rw [ht', hC'] at hr hkl
          rw [ht'] at hxs hcn
          rw [ht', HX.out] at hxt
          rw [he.out, Bool.false_or] at hxs
          obtain ⟨A', c', hC2, _⟩ := hkl.out
          obtain ⟨n', hn'⟩ : ∃ n', t'.l.length = n' := ⟨_, rfl⟩
          rw [hn'] at hC2
          subst hC2
          have hbw := HW.out.trans (hb.out.b.mono HW.out.size)
          have hr2 := hr.below hbw hb1
          have r0 := hr2.k
          have r1 := hr2.g
          have r2 := hr2.n
          have r3 := hr2.s
          have r4 := hr2.l
          have HI := Lib.hid (hIH.out t' (.slice A' n' c') wr (by omega) (by omega) hkl hbw)
          unfold vv at HI
          have HXS := Lib.hid hxs
          have HXT := Lib.hid hxt
          obtain ⟨x', hx'⟩ : ∃ x', ext t' = x' := ⟨_, rfl⟩
          rw [hx'] at HI HXS HXT
          clear hr hr2 hkl hrow hkid ht' hC' hn' hxs hxt hcn hbw hx'
          go_wp2_with fail
          refine HI.out.mono ?_
          rintro e w2 ⟨rfl, hb2⟩
          have HB2 := Lib.hid (hb.out.on hb2)
          clear hb2 r0 r1 r2 r3 r4 HI q4
          cases x' with
          | true =>
            have HX1 := Lib.hid (HXT.out rfl)
            go_wp2_with fail
            go_ret
            exact ⟨by rw [HX1.out]; rfl, HB2.out.b⟩
          | false =>
            go_wp2_with fail
            go_roundw
            case rel => exact ⟨i + 1, hlt, by go_num, HXS, HB2⟩
            case measure => simp [intOf]; omega
        · obtain rfl : i = L.length := by omega
          have HE : Hid (X = false) := Lib.hid (by rw [← HX.out]; have := he.out; rw [List.take_length] at this; exact this)
          go_wp2_with fail
          go_ret
          exact ⟨by rw [HE.out]; rfl, hb.out.b⟩
end Go.Proofs.YtlmabhpfmbebjaaDoor.nn
namespace Go.Proofs.YtlmabhpfmbebjaaDoor.nn
open Go.RowKit

/-- all blocks but rows of bytes are as they were -/
def Kx (w w' : World) : Prop := ∀ (k : Nat) (cs : Array Value) (T : TypeId), T ≠ 5 → w.heap[k]? = some (.cells cs T (0, 0)) → w'.heap[k]? = some (.cells cs T (0, 0))
theorem Kx.refl (w : World) : Kx w w := fun _ _ _ _ h => h
theorem Kx.grown {w w2 : World} {v : Value} {B n : Nat} {xs : List Value} (hg : w.grownBy w2 v.ownBlock) (hown : w.ownsRow B 5 1 v n xs) : Kx w w2 := fun k _ _ hT hk => (hg.block k (lt_of_block hk) (fun e => Lib.ownBlock_ne hown hk hT e.symm)).trans hk
set_option maxRecDepth 100000 in
theorem run_appK (B : Nat) (v : Value) (l M : List UInt8) (w : World) (ty : TypeId) (h : w.ownsRow B 5 1 v l.length (Lib.byteCells l)) (A : Option Addr) (m c : Nat) (hm : m = M.length) (hr : Rd w .u8 A m (gL M)) (hle : l.length + M.length ≤ 140737488355328) (hbase : B ≤ w.heap.size) :
    ∃ v' w', (Builtin.append_ #[28, 28] ty #[v, .slice A m c]).run Tryd.prog w = .ok v' w' ∧ w'.ownsRow B 5 1 v' (l ++ M).length (Lib.byteCells (l ++ M)) ∧ Below B w w' ∧ Kx w w' := by
  obtain ⟨i0, hi, hz0, hz1, hz2⟩ := info_parts infoW8
  have hown := h
  subst hm
  rcases A with _ | ad
  · have h0 : M = [] := by
      rcases M with _ | ⟨x, M⟩
      · rfl
      · obtain ⟨b, off, e, _⟩ := hr (by simp)
        cases e
    subst h0
    refine ⟨v, w, ?_, by rw [List.append_nil]; exact hown, Below.refl _ _, Kx.refl _⟩
    rcases hown.2 with ⟨rfl, e0⟩ | ⟨g, cap, cur, rfl, _, _, hnc, _⟩
    · rw [List.length_eq_zero_iff] at e0
      subst e0
      simp [Builtin.append_, run_underlying Tryd.underlying28, sizeOf, typeInfo, hi, Builtin.lenOf, Builtin.firstCells]
    · simp [Builtin.append_, run_underlying Tryd.underlying28, sizeOf, typeInfo, hi, Builtin.lenOf, Builtin.firstCells, hnc, storeCells]
  · have hcells : ∀ j u, (vl .u8 (gL M) M.length)[j]? = some u → w.cell? (ad.add j) = some u := by
      intro j u hu
      have hj : j < M.length := by
        have := (List.getElem?_eq_some_iff.1 hu).1
        rwa [vl_length] at this
      obtain ⟨b, off, e1, _, hc⟩ := hr (by omega)
      injection e1 with e1
      subst e1
      rw [vl_at .u8 (gL M) hj] at hu
      injection hu with hu
      subst hu
      have hadd : (⟨b, off, none⟩ : Addr).add j = ⟨b, off + j, none⟩ := by unfold Addr.add; split <;> simp_all
      rw [hadd]
      exact hc j hj
    obtain ⟨v', w', hrun, h2, h3, _⟩ := run_append_own_at (P := Tryd.prog) w B 28 ty 5 i0 (.int .u8 0) 1 1 Tryd.underlying28 hi hz0 hz1 hz2 rfl (by omega) v l.length _ hown ad M.length c (vl .u8 (gL M) M.length) (by rw [vl_length, Nat.mul_one]) hcells (vl_one .u8 (gL M) M.length) (by unfold maxLen; omega) (by omega) hbase
    rw [← bc_vl, ← Lib.byteCells_append] at h2
    refine ⟨v', w', hrun, by rw [List.length_append]; exact h2, (Below.refl B w).grown h3 hbase (fun k hk => (hown.lt k hk).1), Kx.grown h3 hown⟩
section
variable {w : World}
theorem wp_appK {oo : Oper} {a : Act} {R : Act → World → Prop} {Q : Exit → Act → World → Prop} (s x : Operand)
    (ho : oo.op = .call { callee := .builtin .append, args := #[s, x], argTypes := #[28, 28] })
    (B : Nat) (v : Value) (l M : List UInt8) (hs : a.eval s = v) (h : w.ownsRow B 5 1 v l.length (Lib.byteCells l)) (A : Option Addr) (m c : Nat) (hm : m = M.length) (hx : a.eval x = .slice A m c) (hr : Rd w .u8 A m (gL M)) (hle : l.length + M.length ≤ 140737488355328) (hbase : B ≤ w.heap.size)
    (k : ∀ v' w', w'.ownsRow B 5 1 v' (l ++ M).length (Lib.byteCells (l ++ M)) → Below B w w' → Kx w w' → R (a.put oo.dst v') w') : oo.wp Tryd.prog a w R Q := by
  obtain ⟨v', w', hrun, h2, h3, h4⟩ := run_appK B v l M w oo.type h A m c hm hr hle hbase
  unfold Oper.wp execOp
  simp only [ho, resolve, invoke, builtin, Sem.run_bind, Sem.run_pure, Result.andThen_ok, List.map_toArray, List.map_cons, List.map_nil, hs, hx, hrun]
  exact k v' w' h2 h3 h4
theorem wpList_appK {ops : Array Oper} {rest : List Oper} {oo : Oper} {a : Act} {Q : Exit → Act → World → Prop} (hgd : oo.guard = none) (s x : Operand)
    (ho : oo.op = .call { callee := .builtin .append, args := #[s, x], argTypes := #[28, 28] })
    (B : Nat) (v : Value) (l M : List UInt8) (hs : a.eval s = v) (h : w.ownsRow B 5 1 v l.length (Lib.byteCells l)) (A : Option Addr) (m c : Nat) (hm : m = M.length) (hx : a.eval x = .slice A m c) (hr : Rd w .u8 A m (gL M)) (hle : l.length + M.length ≤ 140737488355328) (hbase : B ≤ w.heap.size)
    (k : ∀ v' w', w'.ownsRow B 5 1 v' (l ++ M).length (Lib.byteCells (l ++ M)) → Below B w w' → Kx w w' → wpList Tryd.prog ops Q rest (a.put oo.dst v') w') : wpList Tryd.prog ops Q (oo :: rest) a w :=
  wpList_plain hgd fun _ hK => wp_appK s x ho B v l M hs h A m c hm hx hr hle hbase fun v' w' h2 h3 h4 => hK _ _ (k v' w' h2 h3 h4)
theorem step_appK {ops : Array Oper} {oo : Oper} {a : Act} {R : Act → World → Prop} {Q : Exit → Act → World → Prop} {E : Prop} (hgd : oo.guard = none) (s x : Operand)
    (ho : oo.op = .call { callee := .builtin .append, args := #[s, x], argTypes := #[28, 28] })
    (B : Nat) (v : Value) (l M : List UInt8) (hs : a.eval s = v) (h : w.ownsRow B 5 1 v l.length (Lib.byteCells l)) (A : Option Addr) (m c : Nat) (hm : m = M.length) (hx : a.eval x = .slice A m c) (hr : Rd w .u8 A m (gL M)) (hle : l.length + M.length ≤ 140737488355328) (hbase : B ≤ w.heap.size)
    (k : ∀ v' w', w'.ownsRow B 5 1 v' (l ++ M).length (Lib.byteCells (l ++ M)) → Below B w w' → Kx w w' → R (a.put oo.dst v') w') :
    if Region.wanted oo (yielded ops a.tmps) = true then Oper.wp Tryd.prog oo a w R Q else E := by
  have hw : Region.wanted oo (yielded ops a.tmps) = true := by simp [Region.wanted, hgd]
  rw [if_pos hw]
  exact wp_appK s x ho B v l M hs h A m c hm hx hr hle hbase k
end
end Go.Proofs.YtlmabhpfmbebjaaDoor.nn
