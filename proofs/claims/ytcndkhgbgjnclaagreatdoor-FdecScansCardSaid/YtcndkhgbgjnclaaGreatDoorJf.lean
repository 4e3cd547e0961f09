/- Joined texts: RdH, RdI, FdecScansW, FdLaid, OpenS. -/
import Derived.Deep.DeepCutAuto
import Derived.Test.YtcndkhgbgjnclaaGreatDoorRows
import Derived.ProofKit
import Derived.SizedLaws
import Derived.ChangeMaps5
import Derived.OpenShut
import Derived.Deep.DeepHandedRow
import Derived.Lib.LaidTab
import Derived.LaidSub
import Derived.Test.YtcndkhgbgjnclaaGreatDoorJe
/- The document's answers of layer 6: Scan. -/
namespace Go.Proofs.YtcndkhgbgjnclaaGreatDoor.nn
open Go.RowKit

/-- what is told once the places are found -/
theorem sc_wh {s : ByteArray} {V E : Nat} (hok : cOk s = true) (hl : ¬ scLong s) (h : Wh (scNeg s) (scD s) (scZ s) V E) : ScIs s V E := by
  rcases h with ⟨a, b, c⟩ | ⟨a, b, c, d⟩ | ⟨a, b, c, d⟩
  · exact .inr (.inr (.inl ⟨hok, hl, a, b, c⟩))
  · exact .inr (.inr (.inr (.inl ⟨hok, hl, a, b, c, d⟩)))
  · exact .inr (.inr (.inr (.inr ⟨hok, hl, a, b, c, d⟩)))

theorem scD_no {s : ByteArray} (h : cDot s = false) : scD s = cW s ∧ (cF s).size = 0 ∧ cC s = cB s := by
  have e1 : cF s = e0 := if_neg (by rw [h]; decide)
  have e2 : cC s = cB s := if_neg (by rw [h]; decide)
  refine ⟨?_, by rw [e1]; rfl, e2⟩
  unfold scD
  rw [e1]
  have hz : (cW s ++ e0).size = (cW s).size := by rw [ByteArray.size_append]; rfl
  exact fba_ext hz fun i hi => fbt_app_left (by omega)
/-- the number of digits that is asked for behind the point -/
def n1 (s : ByteArray) : Nat := if cDot s then rn s (cB s + 1) else rn s (cA s)
theorem cut_run {s : ByteArray} {a k : Nat} (h : a + k ≤ s.size) (W : World) : (Instr.slice 9 (.string s) (some (.int .i64 (a : Int))) (some (.int .i64 ((a : Int) + (k : Int)))) none).run Tryz.prog W = .ok (.string (cutT s a (a + k))) W := by
  rw [run_slice_string (P := Tryz.prog) (w := W) 9 s .i64 .i64 _ _ Tryz.underlying9 (by omega) (by omega) (by omega), Int.toNat_natCast, show ((a : Int) + (k : Int)).toNat = a + k by omega]
  rfl
theorem byte_of {s : ByteArray} {a : Nat} (h : a < s.size) : ∃ y, s[a].toNat = y ∧ bt s a = y ∧ y < 256 := ⟨_, rfl, bt_at h, s[a].toNat_lt⟩

set_option maxRecDepth 100000 in
set_option maxHeartbeats 8000000 in
theorem rscan_go (s : ByteArray) (w : World) (hs : s.size ≤ 140737488351232) (h0 : 0 < s.size) (hw : 0 < rn s (cA s)) :
    Calls Tryz.prog 13 #[.string s] w (ScAns s w) := by
  have a1 := cA_le s
  have a2 := cB_le s
  have a3 := (cC_le s).1
  have a3' := (cC_le s).2
  have a4 := cD_le s
  have HR := Lib.hid (fun a W (ha : a ≤ s.size) => run_any s a W hs ha)
  obtain ⟨x, hxx, hx, hx256⟩ := byte_of h0
  have hne := not_nil_text h0
  have hneg : ((x : Int) == 45) = scNeg s := by
    unfold scNeg at_
    rw [hx]
    by_cases h : x = 45
    · rw [decide_eq_true ⟨h0, h⟩]; subst h; rfl
    · rw [decide_eq_false (fun g => h g.2), beq_eq_false_iff_ne]; omega
  have hA : cA s = if scNeg s = true then 1 else 0 := rfl
  obtain ⟨neg, hng⟩ : ∃ b, scNeg s = b := ⟨_, rfl⟩
  rw [hng] at hneg hA
  have HA := Lib.hid hA
  have HNG := Lib.hid hng
  -- the places by name
  have eB : cB s = cA s + rn s (cA s) := rfl
  have HW : Hid (cutT s (cA s) (cB s) = cW s) := Lib.hid rfl
  have HB0 := Lib.hid (Below.refl w.heap.size w)
  obtain ⟨a, ha⟩ : ∃ a, cA s = a := ⟨_, rfl⟩
  obtain ⟨k0, hk0⟩ : ∃ n, rn s (cA s) = n := ⟨_, rfl⟩
  obtain ⟨b, hb⟩ : ∃ b, cB s = b := ⟨_, rfl⟩
  obtain ⟨c, hc⟩ : ∃ c, cC s = c := ⟨_, rfl⟩
  obtain ⟨d, hd⟩ : ∃ d, cD s = d := ⟨_, rfl⟩
  have R0 := Lib.hid (fun W => HR.out a W (by omega))
  rw [← ha, hk0] at R0
  have SL0 : Hid (∀ W, (Instr.slice 9 (.string s) (some (.int .i64 (a : Int))) (some (.int .i64 ((a : Int) + (k0 : Int)))) none).run Tryz.prog W = .ok (.string (cW s)) W) := Lib.hid fun W => by
    rw [cut_run (by omega) W, ← HW.out, ← hk0, ← ha, eB]
  rw [ha] at R0 HA
  have HP := Lib.hid (And.intro ha (And.intro hk0 (And.intro hb (And.intro hc hd))))
  have hab : a + k0 = b := by omega
  rw [ha] at a1
  rw [hb] at a2 a3'
  rw [hc] at a3
  rw [hd] at a4
  rw [hk0] at hw
  clear hA hx hng eB ha hk0 hb hc hd
  have sl0 := SL0.out
  go_enter Tryz.func13, Tryz.ntmps13
  go_upto_if 21 with (fail)
  go_cut [5] (fun s5 wx => s5 = .int .i64 (a : Int) ∧ wx = w)
  case first =>
    cases neg
    all_goals
      go_wp2_with fail
      go_meet
      exact ⟨by rw [HA.out]; rfl, rfl⟩
  case rest =>
    obtain ⟨rfl, hww⟩ := hcut
    obtain rfl : w = wc := hww.symm
    go_wp2_with fail
    refine (R0.out _).mono ?_
    rintro e w' ⟨rfl, rfl⟩
    obtain ⟨Wt, hWt⟩ : ∃ T, cW s = T := ⟨_, rfl⟩
    rw [hWt] at sl0
    have HWt := Lib.hid hWt
    have kab : (a : Int) + (k0 : Int) = (b : Int) := by omega
    rw [kab] at sl0
    clear hWt hxx hne hneg
    go_upto_region 10 with fail
    have cdot : cDot s = at_ s b 46 := by show at_ s (cB s) 46 = _; rw [HP.out.2.2.1]
    have CD := Lib.hid cdot
    clear sl0 cdot
    go_cut [48] (fun s48 wx => s48 = .bool (cDot s) ∧ wx = w)
    case first =>
      by_cases hbl : b < s.size
      · obtain ⟨y, hyy, hy, hy256⟩ := byte_of hbl
        by_cases h46 : y = 46
        · subst h46
          have hdt : Hid (cDot s = true) := Lib.hid (by rw [CD.out]; exact decide_eq_true ⟨hbl, hy⟩)
          clear hy
          go_wp2_with fail
          go_meet
          exact ⟨by rw [hdt.out], rfl⟩
        · have hdt : Hid (cDot s = false) := Lib.hid (by rw [CD.out]; exact decide_eq_false (fun g => h46 (hy.symm.trans g.2)))
          have hne46 : ((y : Int) == 46) = false := by rw [beq_eq_false_iff_ne]; omega
          clear hy h46
          go_wp2_with fail
          go_meet
          exact ⟨by rw [hdt.out], rfl⟩
      · have hdt : Hid (cDot s = false) := Lib.hid (by rw [CD.out]; exact decide_eq_false (fun g => hbl g.1))
        go_wp2_with fail
        go_meet
        exact ⟨by rw [hdt.out], rfl⟩
    case rest =>
      obtain ⟨rfl, hww⟩ := hcut
      obtain rfl : w = wc := hww.symm
      go_upto_if 48 with (fail)
      go_cut [5, 6, 7, 9] (fun s5 s6 s7 s9 wx => s5 = .int .i64 (c : Int) ∧ s6 = .int .i64 (n1 s : Int) ∧ s7 = .string (scD s) ∧ s9 = .int .i64 (-((cF s).size : Int)) ∧ wx = w)
      case first =>
        cases hdt : cDot s with
        | true =>
          have h1 := a3' hdt
          have e1 : n1 s = rn s (b + 1) := by unfold n1; rw [if_pos hdt, HP.out.2.2.1]
          have e2 : c = b + 1 + rn s (b + 1) := by rw [← HP.out.2.2.2.1]; show (if cDot s = true then _ else _) = _; rw [if_pos hdt, HP.out.2.2.1]
          have e3 : cF s = cutT s (b + 1) c := by show (if cDot s = true then _ else _) = _; rw [if_pos hdt, HP.out.2.2.1, HP.out.2.2.2.1]
          have e4 : scD s = Wt ++ cF s := by unfold scD; rw [HWt.out]
          have R1 := Lib.hid (fun W => HR.out (b + 1) W h1)
          obtain ⟨m, hm⟩ : ∃ m, rn s (b + 1) = m := ⟨_, rfl⟩
          rw [hm] at R1 e1 e2
          have sl1 : ∀ W, (Instr.slice 9 (.string s) (some (.int .i64 ((b : Int) + 1))) (some (.int .i64 ((b : Int) + 1 + (m : Int)))) none).run Tryz.prog W = .ok (.string (cF s)) W := fun W => by
            have := cut_run (s := s) (a := b + 1) (k := m) (by omega) W
            rw [e3, e2]
            exact this
          have e5 : (cF s).size = m := by rw [e3, cutT_size a3]; omega
          have e6 : Wt.size ≤ s.size := by rw [← HWt.out]; unfold cW cutT; rw [ByteArray.size_extract]; omega
          have hm2 : b + 1 + m ≤ s.size := by omega
          have R1' : Hid (∀ W, Calls Tryz.prog 33 #[.string s, .int .i64 ((b : Int) + 1)] W fun e w' => e = .returned (.int .i64 (m : Int)) ∧ W = w') := R1
          have EE := Lib.hid (And.intro e1 (And.intro e2 (And.intro e4 e5)))
          obtain ⟨Fs, hFs⟩ : ∃ T, cF s = T := ⟨_, rfl⟩
          rw [hFs] at sl1 EE e5
          have HFs := Lib.hid hFs
          have bw : Wt.size + Fs.size ≤ 281474976702464 := by omega
          clear e1 e2 e3 e4 e5 hm hdt h1 R1 hFs
          go_wp2_with fail
          refine (R1'.out _).mono ?_
          rintro e w' ⟨rfl, rfl⟩
          go_wp2_with fail
          go_meet
          refine ⟨?_, ?_, ?_, ?_, rfl⟩
          · rw [EE.out.2.1]; go_num
          · rw [EE.out.1]
          · rw [EE.out.2.2.1]
          · rw [HFs.out, EE.out.2.2.2]
        | false =>
          obtain ⟨e1, e2, e3⟩ := scD_no hdt
          have e4 : n1 s = k0 := by unfold n1; rw [if_neg (by rw [hdt]; decide), HP.out.2.1]
          rw [HP.out.2.2.1, HP.out.2.2.2.1] at e3
          have EE := Lib.hid (And.intro e1 (And.intro e2 (And.intro e3 e4)))
          clear e1 e2 e3 e4 hdt
          go_wp2_with fail
          go_meet
          refine ⟨?_, ?_, ?_, ?_, rfl⟩
          · rw [EE.out.2.2.1]
          · rw [EE.out.2.2.2]
          · rw [EE.out.1, HWt.out]
          · rw [EE.out.2.1]; rfl
      case rest =>
        obtain ⟨rfl, rfl, rfl, rfl, hww⟩ := hcut
        obtain rfl : w = wc := hww.symm
        by_cases hn1 : n1 s = 0
        · have HS : Hid (ScIs s 0 4) := Lib.hid (by
            refine .inl ⟨?_, rfl, rfl⟩
            unfold n1 at hn1
            cases hdt : cDot s with
            | true =>
              rw [hdt, if_pos rfl] at hn1
              unfold cOk
              rw [hn1, hdt]
              simp
            | false =>
              rw [hdt, if_neg (by decide), HP.out.2.1] at hn1
              omega)
          rw [hn1]
          go_wp2_with fail
          go_ret2
          exact ⟨0, 4, rfl, HS.out, HB0.out⟩
        · obtain ⟨nn1, hnn⟩ : ∃ k, n1 s = k := ⟨_, rfl⟩
          have HN1 := Lib.hid hnn
          rw [hnn] at hn1
          rw [hnn]
          clear hnn kab
          have hn1' : ((nn1 : Int) == 0) = false := by rw [beq_eq_false_iff_ne]; omega
          have hk0' : ((k0 : Int) == 0) = false := by rw [beq_eq_false_iff_ne]; omega
          obtain ⟨Dg, hDg⟩ : ∃ T, scD s = T := ⟨_, rfl⟩
          have HDg := Lib.hid hDg
          rw [hDg]
          obtain ⟨fz, hfz⟩ : ∃ T, (cF s).size = T := ⟨_, rfl⟩
          have HFz := Lib.hid hfz
          rw [hfz]
          clear hDg hfz
          go_upto_region 19 with fail
          clear hn1' hk0'
          have ce : cE s = (at_ s c 101 || at_ s c 69) := by show (at_ s (cC s) 101 || at_ s (cC s) 69) = _; rw [HP.out.2.2.2.1]
          have CE := Lib.hid ce
          clear ce
          go_cut [90] (fun s90 wx => s90 = .bool (cE s) ∧ wx = w)
          case first =>
            by_cases hcl : c < s.size
            · obtain ⟨y, hyy, hy, hy256⟩ := byte_of hcl
              by_cases h1 : y = 101
              · subst h1
                have hdt : Hid (cE s = true) := Lib.hid (by rw [CE.out, show at_ s c 101 = true from decide_eq_true ⟨hcl, hy⟩]; rfl)
                clear hy
                go_wp2_with fail
                go_meet
                exact ⟨by rw [hdt.out], rfl⟩
              · have g1 : at_ s c 101 = false := decide_eq_false (fun g => h1 (hy.symm.trans g.2))
                have hne1 : ((y : Int) == 101) = false := by rw [beq_eq_false_iff_ne]; omega
                by_cases h2 : y = 69
                · subst h2
                  have hdt : Hid (cE s = true) := Lib.hid (by rw [CE.out, show at_ s c 69 = true from decide_eq_true ⟨hcl, hy⟩, Bool.or_true])
                  clear hy h1 g1
                  go_wp2_with fail
                  go_meet
                  exact ⟨by rw [hdt.out], rfl⟩
                · have hdt : Hid (cE s = false) := Lib.hid (by rw [CE.out, g1, show at_ s c 69 = false from decide_eq_false (fun g => h2 (hy.symm.trans g.2))]; rfl)
                  have hne2 : ((y : Int) == 69) = false := by rw [beq_eq_false_iff_ne]; omega
                  clear hy h1 h2 g1
                  go_wp2_with fail
                  go_meet
                  exact ⟨by rw [hdt.out], rfl⟩
            · have hdt : Hid (cE s = false) := Lib.hid (by rw [CE.out, show at_ s c 101 = false from decide_eq_false (fun g => hcl g.1), show at_ s c 69 = false from decide_eq_false (fun g => hcl g.1)]; rfl)
              go_wp2_with fail
              go_meet
              exact ⟨by rw [hdt.out], rfl⟩
          case rest =>
            obtain ⟨rfl, hww⟩ := hcut
            obtain rfl : w = wc := hww.symm
            go_upto_if 90 with (fail)
            go_cut [5, 10, 11] (fun s5 s10 s11 wx => s5 = .int .i64 (d : Int) ∧ s10 = .string (cX s) ∧ s11 = .bool (cN s) ∧ (cE s = true → 0 < rn s (cS s)) ∧ wx = w)
            case first =>
              cases hE : cE s with
              | true =>
                have hq := cE_lt hE
                rw [HP.out.2.2.2.1] at hq
                have eS : cS s = sgA s (c + 1) := by show sgA s (cC s + 1) = _; rw [HP.out.2.2.2.1]
                have eN : cN s = sgB s (c + 1) := by show (if cE s = true then _ else _) = _; rw [if_pos hE, HP.out.2.2.2.1]
                by_cases hcl : c + 1 < s.size
                · obtain ⟨y, hyy, hy, hy256⟩ := byte_of hcl
                  have hidx : ((c : Int) + 1).toNat = c + 1 := by omega
                  by_cases h1 : y = 43
                  · subst h1
                    have g1 : at_ s (c + 1) 43 = true := decide_eq_true ⟨hcl, hy⟩
                    skip
                    have R2 := Lib.hid (fun W => HR.out (c + 1 + 1) W (by omega))
                    have R2' : Hid (∀ W, Calls Tryz.prog 33 #[.string s, .int .i64 ((c : Int) + 1 + 1)] W fun e w' => e = .returned (.int .i64 (rn s (c + 1 + 1) : Int)) ∧ W = w') := R2
                    have hkS : cS s = (c + 1 + 1) := by rw [eS]; show sgA s (c + 1) = _; unfold sgA; rw [g1, if_pos rfl]
                    have hN : cN s = false := by rw [eN]; show sgB s (c + 1) = _; unfold sgB; rw [g1, if_pos rfl]
                    have eX : cX s = cutT s (c + 1 + 1) d := by rw [← hkS, ← HP.out.2.2.2.2]; exact if_pos hE
                    have eD : d = (c + 1 + 1) + rn s (c + 1 + 1) := by rw [← hkS, ← HP.out.2.2.2.2]; exact if_pos hE
                    obtain ⟨k, hk⟩ : ∃ k, rn s (c + 1 + 1) = k := ⟨_, rfl⟩
                    rw [hk] at R2' eD
                    have HK : Hid (rn s (cS s) = k) := Lib.hid (by rw [hkS, hk])
                    have HE := Lib.hid hE
                    by_cases hk0' : k = 0
                    · have HS : Hid (ScIs s 0 4) := Lib.hid (by
                        refine .inl ⟨?_, rfl, rfl⟩
                        unfold cOk
                        rw [HK.out, hk0', hE]
                        simp)
                      subst hk0'
                      clear R2 hkS hN eX eD hk hE eS eN g1 hy
                      go_wp2_with fail
                      refine (R2'.out _).mono ?_
                      rintro e w' ⟨rfl, rfl⟩
                      go_wp2_with fail
                      go_ret2
                      exact ⟨0, 4, rfl, HS.out, HB0.out⟩
                    · have hpk : (c + 1 + 1) + k ≤ s.size := by omega
                      have sl2 : ∀ W, (Instr.slice 9 (.string s) (some (.int .i64 ((c : Int) + 1 + 1))) (some (.int .i64 (((c : Int) + 1 + 1) + (k : Int)))) none).run Tryz.prog W = .ok (.string (cX s)) W := fun W => by
                        have := cut_run (s := s) (a := (c + 1 + 1)) (k := k) hpk W
                        rw [eX, eD]
                        exact this
                      have hkb : ((k : Int) == 0) = false := by rw [beq_eq_false_iff_ne]; omega
                      have HD2 := Lib.hid eD
                      have HN := Lib.hid hN
                      obtain ⟨X, hXX⟩ : ∃ T, cX s = T := ⟨_, rfl⟩
                      rw [hXX] at sl2
                      have HXX := Lib.hid hXX
                      have hk1 : 0 < k := by omega
                      clear R2 hkS hN eX eD hk hE eS eN hk0' hXX g1 hy
                      go_wp2_with fail
                      refine (R2'.out _).mono ?_
                      rintro e w' ⟨rfl, rfl⟩
                      go_wp2_with fail
                      go_meet
                      refine ⟨by rw [HD2.out]; go_num, by rw [HXX.out], by rw [HN.out], (fun _ => by rw [HK.out]; exact hk1), rfl⟩
                  · have g1 : at_ s (c + 1) 43 = false := decide_eq_false (fun g => h1 (hy.symm.trans g.2))
                    have hne1 : ((y : Int) == 43) = false := by rw [beq_eq_false_iff_ne]; omega
                    by_cases h2 : y = 45
                    · subst h2
                      have g2 : at_ s (c + 1) 45 = true := decide_eq_true ⟨hcl, hy⟩
                      skip
                      have R2 := Lib.hid (fun W => HR.out (c + 1 + 1) W (by omega))
                      have R2' : Hid (∀ W, Calls Tryz.prog 33 #[.string s, .int .i64 ((c : Int) + 1 + 1)] W fun e w' => e = .returned (.int .i64 (rn s (c + 1 + 1) : Int)) ∧ W = w') := R2
                      have hkS : cS s = (c + 1 + 1) := by rw [eS]; show sgA s (c + 1) = _; unfold sgA; (rw [g1, if_neg (by decide), g2]; try rw [if_pos rfl])
                      have hN : cN s = true := by rw [eN]; show sgB s (c + 1) = _; unfold sgB; (rw [g1, if_neg (by decide), g2]; try rw [if_pos rfl])
                      have eX : cX s = cutT s (c + 1 + 1) d := by rw [← hkS, ← HP.out.2.2.2.2]; exact if_pos hE
                      have eD : d = (c + 1 + 1) + rn s (c + 1 + 1) := by rw [← hkS, ← HP.out.2.2.2.2]; exact if_pos hE
                      obtain ⟨k, hk⟩ : ∃ k, rn s (c + 1 + 1) = k := ⟨_, rfl⟩
                      rw [hk] at R2' eD
                      have HK : Hid (rn s (cS s) = k) := Lib.hid (by rw [hkS, hk])
                      have HE := Lib.hid hE
                      by_cases hk0' : k = 0
                      · have HS : Hid (ScIs s 0 4) := Lib.hid (by
                          refine .inl ⟨?_, rfl, rfl⟩
                          unfold cOk
                          rw [HK.out, hk0', hE]
                          simp)
                        subst hk0'
                        clear R2 hkS hN eX eD hk hE eS eN g1 g2 hy
                        go_wp2_with fail
                        refine (R2'.out _).mono ?_
                        rintro e w' ⟨rfl, rfl⟩
                        go_wp2_with fail
                        go_ret2
                        exact ⟨0, 4, rfl, HS.out, HB0.out⟩
                      · have hpk : (c + 1 + 1) + k ≤ s.size := by omega
                        have sl2 : ∀ W, (Instr.slice 9 (.string s) (some (.int .i64 ((c : Int) + 1 + 1))) (some (.int .i64 (((c : Int) + 1 + 1) + (k : Int)))) none).run Tryz.prog W = .ok (.string (cX s)) W := fun W => by
                          have := cut_run (s := s) (a := (c + 1 + 1)) (k := k) hpk W
                          rw [eX, eD]
                          exact this
                        have hkb : ((k : Int) == 0) = false := by rw [beq_eq_false_iff_ne]; omega
                        have HD2 := Lib.hid eD
                        have HN := Lib.hid hN
                        obtain ⟨X, hXX⟩ : ∃ T, cX s = T := ⟨_, rfl⟩
                        rw [hXX] at sl2
                        have HXX := Lib.hid hXX
                        have hk1 : 0 < k := by omega
                        clear R2 hkS hN eX eD hk hE eS eN hk0' hXX g1 g2 hy
                        go_wp2_with fail
                        refine (R2'.out _).mono ?_
                        rintro e w' ⟨rfl, rfl⟩
                        go_wp2_with fail
                        go_meet
                        refine ⟨by rw [HD2.out]; go_num, by rw [HXX.out], by rw [HN.out], (fun _ => by rw [HK.out]; exact hk1), rfl⟩
                    · have g2 : at_ s (c + 1) 45 = false := decide_eq_false (fun g => h2 (hy.symm.trans g.2))
                      have hne2 : ((y : Int) == 45) = false := by rw [beq_eq_false_iff_ne]; omega
                      skip
                      have R2 := Lib.hid (fun W => HR.out (c + 1) W (by omega))
                      have R2' : Hid (∀ W, Calls Tryz.prog 33 #[.string s, .int .i64 ((c : Int) + 1)] W fun e w' => e = .returned (.int .i64 (rn s (c + 1) : Int)) ∧ W = w') := R2
                      have hkS : cS s = (c + 1) := by rw [eS]; show sgA s (c + 1) = _; unfold sgA; (rw [g1, if_neg (by decide), g2]; try rw [if_neg (by decide)])
                      have hN : cN s = false := by rw [eN]; show sgB s (c + 1) = _; unfold sgB; (rw [g1, if_neg (by decide), g2]; try rw [if_neg (by decide)])
                      have eX : cX s = cutT s (c + 1) d := by rw [← hkS, ← HP.out.2.2.2.2]; exact if_pos hE
                      have eD : d = (c + 1) + rn s (c + 1) := by rw [← hkS, ← HP.out.2.2.2.2]; exact if_pos hE
                      obtain ⟨k, hk⟩ : ∃ k, rn s (c + 1) = k := ⟨_, rfl⟩
                      rw [hk] at R2' eD
                      have HK : Hid (rn s (cS s) = k) := Lib.hid (by rw [hkS, hk])
                      have HE := Lib.hid hE
                      by_cases hk0' : k = 0
                      · have HS : Hid (ScIs s 0 4) := Lib.hid (by
                          refine .inl ⟨?_, rfl, rfl⟩
                          unfold cOk
                          rw [HK.out, hk0', hE]
                          simp)
                        subst hk0'
                        clear R2 hkS hN eX eD hk hE eS eN g1 g2 hy h1 h2
                        go_wp2_with fail
                        refine (R2'.out _).mono ?_
                        rintro e w' ⟨rfl, rfl⟩
                        go_wp2_with fail
                        go_ret2
                        exact ⟨0, 4, rfl, HS.out, HB0.out⟩
                      · have hpk : (c + 1) + k ≤ s.size := by omega
                        have sl2 : ∀ W, (Instr.slice 9 (.string s) (some (.int .i64 ((c : Int) + 1))) (some (.int .i64 (((c : Int) + 1) + (k : Int)))) none).run Tryz.prog W = .ok (.string (cX s)) W := fun W => by
                          have := cut_run (s := s) (a := (c + 1)) (k := k) hpk W
                          rw [eX, eD]
                          exact this
                        have hkb : ((k : Int) == 0) = false := by rw [beq_eq_false_iff_ne]; omega
                        have HD2 := Lib.hid eD
                        have HN := Lib.hid hN
                        obtain ⟨X, hXX⟩ : ∃ T, cX s = T := ⟨_, rfl⟩
                        rw [hXX] at sl2
                        have HXX := Lib.hid hXX
                        have hk1 : 0 < k := by omega
                        clear R2 hkS hN eX eD hk hE eS eN hk0' hXX g1 g2 hy h1 h2
                        go_wp2_with fail
                        refine (R2'.out _).mono ?_
                        rintro e w' ⟨rfl, rfl⟩
                        go_wp2_with fail
                        go_meet
                        refine ⟨by rw [HD2.out]; go_num, by rw [HXX.out], by rw [HN.out], (fun _ => by rw [HK.out]; exact hk1), rfl⟩
                · have g1 : at_ s (c + 1) 43 = false := decide_eq_false (fun g => hcl g.1)
                  have g2 : at_ s (c + 1) 45 = false := decide_eq_false (fun g => hcl g.1)
                  skip
                  have R2 := Lib.hid (fun W => HR.out (c + 1) W (by omega))
                  have R2' : Hid (∀ W, Calls Tryz.prog 33 #[.string s, .int .i64 ((c : Int) + 1)] W fun e w' => e = .returned (.int .i64 (rn s (c + 1) : Int)) ∧ W = w') := R2
                  have hkS : cS s = (c + 1) := by rw [eS]; show sgA s (c + 1) = _; unfold sgA; (rw [g1, if_neg (by decide), g2]; try rw [if_neg (by decide)])
                  have hN : cN s = false := by rw [eN]; show sgB s (c + 1) = _; unfold sgB; (rw [g1, if_neg (by decide), g2]; try rw [if_neg (by decide)])
                  have eX : cX s = cutT s (c + 1) d := by rw [← hkS, ← HP.out.2.2.2.2]; exact if_pos hE
                  have eD : d = (c + 1) + rn s (c + 1) := by rw [← hkS, ← HP.out.2.2.2.2]; exact if_pos hE
                  obtain ⟨k, hk⟩ : ∃ k, rn s (c + 1) = k := ⟨_, rfl⟩
                  rw [hk] at R2' eD
                  have HK : Hid (rn s (cS s) = k) := Lib.hid (by rw [hkS, hk])
                  have HE := Lib.hid hE
                  by_cases hk0' : k = 0
                  · have HS : Hid (ScIs s 0 4) := Lib.hid (by
                      refine .inl ⟨?_, rfl, rfl⟩
                      unfold cOk
                      rw [HK.out, hk0', hE]
                      simp)
                    subst hk0'
                    clear R2 hkS hN eX eD hk hE eS eN g1 g2
                    go_wp2_with fail
                    refine (R2'.out _).mono ?_
                    rintro e w' ⟨rfl, rfl⟩
                    go_wp2_with fail
                    go_ret2
                    exact ⟨0, 4, rfl, HS.out, HB0.out⟩
                  · have hpk : (c + 1) + k ≤ s.size := by omega
                    exfalso
                    omega
              | false =>
                have e1 : cX s = e0 := if_neg (by rw [hE]; decide)
                have e2 : cN s = false := if_neg (by rw [hE]; decide)
                have e3 : d = c := by rw [← HP.out.2.2.2.2, ← HP.out.2.2.2.1]; exact if_neg (by rw [hE]; decide)
                have EE := Lib.hid (And.intro e1 (And.intro e2 e3))
                have HE := Lib.hid hE
                clear e1 e2 e3 hE
                go_wp2_with fail
                go_meet
                refine ⟨by rw [EE.out.2.2], by rw [EE.out.1]; rfl, by rw [EE.out.2.1], (fun h => by rw [HE.out] at h; cases h), rfl⟩
            case rest =>
              obtain ⟨rfl, rfl, rfl, hk, hww⟩ := hcut
              obtain rfl : w = wc := hww.symm
              by_cases hds : d = s.size
              · have hok : cOk s = true := by
                  unfold cOk
                  rw [HP.out.2.1, decide_eq_true hw, HP.out.2.2.2.2, decide_eq_true hds, Bool.true_and, Bool.and_true]
                  have m1 : (!cDot s || decide (0 < rn s (cB s + 1))) = true := by
                    cases hdt : cDot s with
                    | false => rfl
                    | true =>
                      have := HN1.out
                      unfold n1 at this
                      rw [hdt, if_pos rfl] at this
                      rw [this, decide_eq_true (by omega)]
                      rfl
                  have m2 : (!cE s || decide (0 < rn s (cS s))) = true := by
                    cases hE : cE s with
                    | false => rfl
                    | true => rw [decide_eq_true (hk hE)]; rfl
                  rw [m1, m2]
                  rfl
                have hdl : Dg.size = (cW s).size + (cF s).size := by rw [← HDg.out]; exact ByteArray.size_append
                have hls : scLong s ↔ 800 < Dg.size ∨ 4 < (cX s).size := by unfold scLong; rw [hdl]
                have hDs : Dg.size ≤ 281474976702464 := by
                  rw [hdl]
                  have q1 : (cW s).size ≤ s.size := by unfold cW cutT; rw [ByteArray.size_extract]; omega
                  have q2 : (cF s).size ≤ s.size := by
                    unfold cF
                    split
                    · unfold cutT; rw [ByteArray.size_extract]; omega
                    · exact Nat.zero_le _
                  omega
                by_cases hl : scLong s
                · have HS : Hid (ScIs s 0 2) := Lib.hid (.inr (.inl ⟨hok, hl, rfl, rfl⟩))
                  have hl2 := hls.1 hl
                  obtain ⟨X, hXX⟩ : ∃ T, cX s = T := ⟨_, rfl⟩
                  rw [hXX] at hl2
                  rw [hXX]
                  clear hls hl hok hdl hk hXX
                  by_cases g1 : 800 < Dg.size
                  · clear hl2
                    subst hds
                    go_wp2_with fail
                    go_ret2
                    exact ⟨0, 2, rfl, HS.out, HB0.out⟩
                  · have g2 : 4 < X.size := by omega
                    clear hl2
                    subst hds
                    go_wp2_with fail
                    go_ret2
                    exact ⟨0, 2, rfl, HS.out, HB0.out⟩
                · obtain ⟨t1, t2, t3, t4, t5, t6, t7, t8⟩ := sc_facts hok hl
                  have HSC := Lib.hid (fun V E (h : Wh (scNeg s) (scD s) (scZ s) V E) => sc_wh hok hl h)
                  have hz : scZ s = (if cN s = true then -(dv (bt (cX s)) (cX s).size : Int) else (dv (bt (cX s)) (cX s).size : Int)) - (fz : Int) := by rw [← HFz.out]; rfl
                  have hfz8 : fz ≤ 800 := by rw [← HFz.out]; exact t6
                  have h10 : dv (bt (cX s)) (cX s).size < 10000 := by
                    have h1 := dv_lt t5
                    have h2 : 10 ^ (cX s).size ≤ 10 ^ 4 := Nat.pow_le_pow_right (by decide) t4
                    omega
                  rw [HDg.out] at t1 t2 t3
                  have HWH := Lib.hid (fun z W (h1 : -2000000 ≤ z) (h2 : z ≤ 2000000) => whence_any neg Dg z W t1 t2 t3 h1 h2)
                  rw [HNG.out, HDg.out] at HSC
                  obtain ⟨zz, hzz⟩ : ∃ z, scZ s = z := ⟨_, rfl⟩
                  rw [hzz] at HSC hz
                  obtain ⟨ng, hng2⟩ : ∃ b, cN s = b := ⟨_, rfl⟩
                  obtain ⟨X, hXX⟩ : ∃ T, cX s = T := ⟨_, rfl⟩
                  rw [hXX] at hz t4 t5 h10
                  rw [hng2] at hz
                  rw [hng2, hXX]
                  have HT5 := Lib.hid t5
                  have HZ := Lib.hid hz
                  clear hls hl hok hdl hk hXX hng2 hzz hz t2 t3 t5 t6 t7 t8 h10
                  subst hds
                  go_wp2_with fail
                  go_loop [12, 13] (fun s12 s13 => ∃ i : Nat, i ≤ X.size ∧ s13 = .int .i64 (i : Int) ∧ s12 = .int .i64 (dv (bt X) i : Int)) (fun _ s13 => X.size - (intOf s13).toNat)
                  case atStart => exact ⟨0, Nat.zero_le _, rfl, rfl⟩
                  case round =>
                    obtain ⟨i, hi, rfl, rfl⟩ := hrel
                    have hv : dv (bt X) i < 10000 := by
                      have h1 := dv_lt (dgs_mono HT5.out hi)
                      have h2 : 10 ^ i ≤ 10 ^ 4 := Nat.pow_le_pow_right (by decide) (by omega)
                      omega
                    by_cases hlt : i < X.size
                    · have hx := bt_at hlt
                      have hdx := dgs_at HT5.out hlt
                      have HV : Hid (dv (bt X) (i + 1) = dv (bt X) i * 10 + (bt X i - 48)) := Lib.hid rfl
                      obtain ⟨x2, hxx2⟩ : ∃ x, X[i].toNat = x := ⟨_, rfl⟩
                      rw [hxx2] at hx
                      rw [hx] at hdx HV
                      obtain ⟨D, hDD⟩ : ∃ D, dv (bt X) i = D := ⟨_, rfl⟩
                      rw [hDD] at hv HV
                      rw [hDD]
                      clear hx hDD
                      go_wp2_with fail
                      go_round
                      case rel => exact ⟨i + 1, by omega, by go_num, congrArg (Value.int .i64) (by rw [HV.out]; omega)⟩
                      case measure => simp [intOf]; omega
                    · obtain rfl : i = X.size := by omega
                      have HZ2 := HZ.out
                      obtain ⟨D, hDD⟩ : ∃ D, dv (bt X) X.size = D := ⟨_, rfl⟩
                      rw [hDD] at hv HZ2
                      rw [hDD]
                      have HZ3 := Lib.hid HZ2
                      clear hDD HZ2
                      cases ng
                      all_goals
                        go_wp2_with fail
                        refine (HWH.out _ _ (by omega) (by omega)).mono ?_
                        rintro e w1 ⟨V, E, rfl, hwh, hb1⟩
                        have hzq := HZ3.out
                        have AA := Lib.hid (HSC.out V E (by
                          rw [hzq]
                          refine Eq.mp (congrArg (fun z => Wh neg Dg z V E) ?_) hwh
                          simp
                          omega))
                        have B1 := Lib.hid hb1
                        clear hwh hb1 hzq
                        go_wp2_with fail
                        go_ret2
                        exact ⟨V, E, rfl, AA.out, B1.out⟩
              · have HS : Hid (ScIs s 0 4) := Lib.hid (by
                  refine .inl ⟨?_, rfl, rfl⟩
                  unfold cOk
                  rw [HP.out.2.2.2.2, decide_eq_false hds, Bool.and_false])
                clear hk
                go_wp2_with fail
                go_ret2
                exact ⟨0, 4, rfl, HS.out, HB0.out⟩
end Go.Proofs.YtcndkhgbgjnclaaGreatDoor.nn
/- The document's answers of layer 6: Scan of a text without digits. -/
namespace Go.Proofs.YtcndkhgbgjnclaaGreatDoor.nn
open Go.RowKit

set_option maxRecDepth 100000 in
set_option maxHeartbeats 1000000 in
theorem rscan_empty (s : ByteArray) (w : World) (h : s.size = 0) :
    Calls Tryz.prog 13 #[.string s] w (ScAns s w) := by
  have hr : rn s 0 = 0 := by have := rn_le s 0; omega
  have hA : cA s = 0 := if_neg (by have : at_ s 0 45 = false := decide_eq_false (fun g => by omega); rw [this]; decide)
  have HS : Hid (ScIs s 0 4) := Lib.hid (.inl ⟨by unfold cOk; rw [hA, hr]; simp, rfl, rfl⟩)
  have R0 := Lib.hid (fun W => run_any s 0 W (by omega) (by omega))
  rw [hr] at R0
  have HB0 := Lib.hid (Below.refl w.heap.size w)
  obtain rfl := nil_text h
  clear hr hA h
  go_enter Tryz.func13, Tryz.ntmps13
  go_wp2_with fail
  refine (R0.out _).mono ?_
  rintro e w' ⟨rfl, rfl⟩
  go_wp2_with fail
  go_ret2
  exact ⟨0, 4, rfl, HS.out, HB0.out⟩
set_option maxRecDepth 100000 in
set_option maxHeartbeats 1000000 in
theorem rscan_none (s : ByteArray) (w : World) (hs : s.size ≤ 140737488351232) (h0 : 0 < s.size) (hr : rn s (cA s) = 0) :
    Calls Tryz.prog 13 #[.string s] w (ScAns s w) := by
  have HS : Hid (ScIs s 0 4) := Lib.hid (.inl ⟨by unfold cOk; rw [hr]; simp, rfl, rfl⟩)
  have HB0 := Lib.hid (Below.refl w.heap.size w)
  have hne := not_nil_text h0
  obtain ⟨x, hxx, hx, hx256⟩ := byte_of h0
  by_cases h45 : x = 45
  · subst h45
    have hA : cA s = 1 := if_pos (decide_eq_true ⟨h0, hx⟩)
    have R0 := Lib.hid (fun W => run_any s 1 W hs (by omega))
    rw [hA] at hr
    rw [hr] at R0
    clear hr hA hx
    go_enter Tryz.func13, Tryz.ntmps13
    go_wp2_with fail
    refine (R0.out _).mono ?_
    rintro e w' ⟨rfl, rfl⟩
    go_wp2_with fail
    go_ret2
    exact ⟨0, 4, rfl, HS.out, HB0.out⟩
  · have hA : cA s = 0 := if_neg (by have : at_ s 0 45 = false := decide_eq_false (fun g => h45 (hx.symm.trans g.2)); rw [this]; decide)
    have hne2 : ((x : Int) == 45) = false := by rw [beq_eq_false_iff_ne]; omega
    have R0 := Lib.hid (fun W => run_any s 0 W hs (by omega))
    rw [hA] at hr
    rw [hr] at R0
    clear hr hA hx h45
    go_enter Tryz.func13, Tryz.ntmps13
    go_wp2_with fail
    refine (R0.out _).mono ?_
    rintro e w' ⟨rfl, rfl⟩
    go_wp2_with fail
    go_ret2
    exact ⟨0, 4, rfl, HS.out, HB0.out⟩
end Go.Proofs.YtcndkhgbgjnclaaGreatDoor.nn
/- The walk of the law FdecScans: it returns true. -/
namespace Go.Proofs.YtcndkhgbgjnclaaGreatDoor.nn
open Go.RowKit

theorem rscan_any (s : ByteArray) (w : World) (hs : s.size ≤ 140737488351232) : Calls Tryz.prog 13 #[.string s] w (ScAns s w) := by
  by_cases h0 : 0 < s.size
  · by_cases hw : 0 < rn s (cA s)
    · exact rscan_go s w hs h0 hw
    · exact rscan_none s w hs h0 (by omega)
  · exact rscan_empty s w (by omega)
set_option maxRecDepth 100000 in
set_option maxHeartbeats 1000000 in
theorem scans_any (s : ByteArray) (hs : s.size ≤ 140737488351232) (w : World) :
    Calls Tryz.prog 4 #[.string s] w fun e w' => e = .returned (.bool true) ∧ Below w.heap.size w w' := by
  have H1 := Lib.hid (fun W => scan_any s W hs)
  have H2 := Lib.hid (fun W => rscan_any s W hs)
  have HA := Lib.hid (fun W => awake_any6 W)
  have HU := Lib.hid (fun V E V' E' (h : ScIs s V E) (h' : ScIs s V' E') => ScIs.uniq h h')
  clear hs
  go_enter Tryz.func4, Tryz.ntmps4
  go_wp2_with fail
  refine (H1.out _).mono ?_
  rintro e w1 ⟨V, E, rfl, s1, hb1⟩
  have B1 := Lib.hid hb1
  clear hb1
  go_wp2_with fail
  refine (H2.out _).mono ?_
  rintro e w2 ⟨V', E', rfl, s2, hb2⟩
  obtain ⟨h1, h2⟩ := HU.out V E V' E' s1 s2
  have B2 := Lib.hid (B1.out.trans (hb2.mono B1.out.size))
  subst h1 h2
  clear hb2 s1 s2
  go_wp2_with fail
  refine (HA.out _).mono ?_
  rintro e w3 ⟨rfl, hb3⟩
  have B3 := Lib.hid (B2.out.trans (hb3.mono B2.out.size))
  clear hb3
  go_wp2_with fail
  go_ret
  exact ⟨rfl, B3.out⟩
end Go.Proofs.YtcndkhgbgjnclaaGreatDoor.nn
/- A world whose package variables hold what the program's text lays there. -/
namespace Go.Proofs.YtcndkhgbgjnclaaGreatDoor.nn
open Go.ChangeShapes Go.WideShapes Go.ChangeAt Go.RowKit

def layA (cs : Array Value) : Obj → Obj
  | .cells _ t frozen => .cells cs t frozen
  | o => o
def bytesA (l : List Nat) : Array Value := (l.map fun (n : Nat) => Value.int .u8 (n : Int)).toArray
noncomputable def laidW (os : Os) : World :=
  { World.holding Tryz.prog os ⟨#[], #[], []⟩ with heap := (((((World.holding Tryz.prog os ⟨#[], #[], []⟩).heap.modify 0 (layA #[.int .u64 1, .int .u64 10, .int .u64 100, .int .u64 1000, .int .u64 10000, .int .u64 100000, .int .u64 1000000, .int .u64 10000000, .int .u64 100000000, .int .u64 1000000000, .int .u64 10000000000, .int .u64 100000000000, .int .u64 1000000000000, .int .u64 10000000000000, .int .u64 100000000000000, .int .u64 1000000000000000, .int .u64 10000000000000000, .int .u64 100000000000000000, .int .u64 1000000000000000000, .int .u64 10000000000000000000])).modify 1 (layA (bytesA Go.Pinned.utf8FirstZ))).modify 2 (layA (bytesA [128, 191, 160, 191, 128, 159, 144, 191, 128, 143, 0, 0, 0, 0, 0, 0, 0, 0, 0, 0, 0, 0, 0, 0, 0, 0, 0, 0, 0, 0, 0, 0]))).modify 3 (layA (bytesA [0, 1, 28, 2, 29, 14, 24, 3, 30, 22, 20, 15, 25, 17, 4, 8, 31, 27, 13, 23, 21, 19, 16, 7, 26, 12, 18, 6, 11, 5, 10, 9]))).modify 4 (layA (bytesA [0, 1, 56, 2, 57, 49, 28, 3, 61, 58, 42, 50, 38, 29, 17, 4, 62, 47, 59, 36, 45, 43, 51, 22, 53, 39, 33, 30, 24, 18, 12, 5, 63, 55, 48, 27, 60, 41, 37, 16, 46, 35, 44, 21, 52, 32, 23, 11, 54, 26, 40, 15, 34, 20, 31, 10, 25, 14, 19, 9, 13, 8, 7, 6])) }
end Go.Proofs.YtcndkhgbgjnclaaGreatDoor.nn
/- How the arguments of the laws read: strings and numbers. -/
namespace Go.Proofs.YtcndkhgbgjnclaaGreatDoor.nn
open Go.ChangeShapes Go.WideShapes Go.ChangeAt Go.RowKit

theorem Tryz.own : ownKnob Tryz.prog.godebug = none := by kernel_rfl
theorem Tryz.laidOut : laidOutB Tryz.prog = true := by kernel_rfl
theorem wf_i64 {n : Int} (h : (Lit.int .i64 n).wf = true) : -9223372036854775808 ≤ n ∧ n ≤ 9223372036854775807 := by
  have h1 : IntKind.i64.min = -9223372036854775808 := rfl
  have h2 : IntKind.i64.max = 9223372036854775807 := rfl
  simp only [Lit.wf, Bool.and_eq_true, decide_eq_true_eq] at h
  omega
theorem wf_u8 {n : Int} (h : (Lit.int .u8 n).wf = true) : 0 ≤ n ∧ n < ((256 : Nat) : Int) := by
  have h1 : IntKind.u8.min = 0 := rfl
  have h2 : IntKind.u8.max = 255 := rfl
  simp only [Lit.wf, Bool.and_eq_true, decide_eq_true_eq] at h
  omega
theorem wf_u16 {n : Int} (h : (Lit.int .u16 n).wf = true) : 0 ≤ n ∧ n < ((65536 : Nat) : Int) := by
  have h1 : IntKind.u16.min = 0 := rfl
  have h2 : IntKind.u16.max = 65535 := rfl
  simp only [Lit.wf, Bool.and_eq_true, decide_eq_true_eq] at h
  omega
theorem wf_u64 {n : Int} (h : (Lit.int .u64 n).wf = true) : 0 ≤ n ∧ n < ((18446744073709551616 : Nat) : Int) := by
  have h1 : IntKind.u64.min = 0 := rfl
  have h2 : IntKind.u64.max = 18446744073709551615 := rfl
  simp only [Lit.wf, Bool.and_eq_true, decide_eq_true_eq] at h
  omega
theorem size_reach {s : ByteArray} (h : s.data.toList.length ≤ reachBytes) : s.size ≤ 140737488351232 := h
end Go.Proofs.YtcndkhgbgjnclaaGreatDoor.nn
