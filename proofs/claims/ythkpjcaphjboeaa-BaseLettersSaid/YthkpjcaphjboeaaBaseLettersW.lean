/- The walk of BaseLetters. -/
import Derived.Test.YthkpjcaphjboeaaBaseJoinsW
namespace Go.Proofs.Ythkpjcaphjboeaa.nn
open Go.RowKit

def mp (c : Nat) : Nat := if c = 43 then 45 else if c = 47 then 95 else c
theorem alp_mp : ∀ v : Fin 64, bt (alp 2) v.val = mp (bt (alp 1) v.val) := by decide
theorem bt_txt (X : List UInt8) (i : Nat) (h : i < X.length) : bt ⟨X.toArray⟩ i = (X[i]).toNat := by
  rw [bt_at (s := ⟨X.toArray⟩) (i := i) h]
  rfl
theorem ltrs_at {L : ByteArray} {w n m i : Nat} {f : Nat → Nat} (h : i < m) : (ltrs L w f n m)[i]'(by rw [ltrs_len]; exact h) = ltr L w f n i := by
  unfold ltrs
  rw [List.getElem_map, List.getElem_range]
/-- the three texts of n bytes -/
theorem letters_fact {n : Nat} {f : Nat → Nat} (TX TY : ByteArray) (hX : (⟨(enK 1 f n).toArray⟩ : ByteArray) = TX) (hY : (⟨(enK 2 f n).toArray⟩ : ByteArray) = TY) :
    TX.size % 4 = 0 ∧ TY.size ≤ TX.size ∧ TX.size ≤ TY.size + 2 ∧ (∀ i, i < TY.size → bt TY i = mp (bt TX i)) ∧ (∀ i, TY.size ≤ i → i < TX.size → bt TX i = 61) ∧ TX.size ≤ 2 * n + 16 := by
  obtain ⟨l, hl⟩ : ∃ l, (8 * n + 6 - 1) / 6 = l := ⟨_, rfl⟩
  have e1 : enK 1 f n = ltrs (alp 1) 6 f n l ++ List.replicate (up 4 l - l) 61 := by rw [← hl]; rfl
  have e2 : enK 2 f n = ltrs (alp 2) 6 f n l ++ List.replicate (up 1 l - l) 61 := by rw [← hl]; rfl
  have u1 : up 1 l - l = 0 := by unfold up; omega
  rw [u1, List.replicate_zero, List.append_nil] at e2
  have u4 : up 4 l - l ≤ 2 ∧ (l + (up 4 l - l)) % 4 = 0 := by unfold up; omega
  obtain ⟨p, hp⟩ : ∃ p, up 4 l - l = p := ⟨_, rfl⟩
  rw [hp] at e1 u4
  have sX : TX.size = l + p := by rw [← hX, e1]; show (ltrs (alp 1) 6 f n l ++ List.replicate p 61).length = _; rw [List.length_append, ltrs_len, List.length_replicate]
  have sY : TY.size = l := by rw [← hY, e2]; show (ltrs (alp 2) 6 f n l).length = _; rw [ltrs_len]
  refine ⟨by rw [sX]; exact u4.2, by omega, by omega, fun i hi => ?_, fun i h1 h2 => ?_, by omega⟩
  · rw [sY] at hi
    rw [← hX, ← hY, e1, e2, bt_txt _ _ (by rw [ltrs_len]; exact hi), bt_txt _ _ (by rw [List.length_append, ltrs_len]; omega), List.getElem_append_left (by rw [ltrs_len]; exact hi), ltrs_at hi, ltrs_at hi]
    have hv := gv_lt (f := f) (n := n) (i := i * 6) (k := 6)
    have hm := alp_mp ⟨gv f n (i * 6) 6, hv⟩
    unfold ltr
    rw [UInt8.toNat_ofNat', UInt8.toNat_ofNat', Nat.mod_eq_of_lt (bt_lt _ _), Nat.mod_eq_of_lt (bt_lt _ _)]
    exact hm
  · rw [sY] at h1
    rw [sX] at h2
    rw [← hX, e1, bt_txt _ _ (by rw [List.length_append, ltrs_len, List.length_replicate]; omega), List.getElem_append_right (by rw [ltrs_len]; omega), List.getElem_replicate]
    rfl
theorem hex_fact {n : Nat} {f : Nat → Nat} (TZ : ByteArray) (hZ : (⟨(enK 0 f n).toArray⟩ : ByteArray) = TZ) : TZ.size = 2 * n := by
  rw [← hZ]
  show (enK 0 f n).length = _
  have : enK 0 f n = encB (alp 0) 4 1 f n ((8 * n + 4 - 1) / 4) := rfl
  rw [this, encB_len (by decide)]
  unfold up
  omega

set_option maxRecDepth 100000 in
set_option maxHeartbeats 1000000 in
theorem letters_any (B : Option Addr) (m d : Nat) (b : Nat → Nat) (hb256 : ∀ i, i < m → b i < 256) (_ : m ≤ 140737488351232) (_ : m ≤ d) (_ : (B = none ∧ m = 0 ∧ d = 0) ∨ ∃ bb off, B = some ⟨bb, off, none⟩) (w : World) (hB : Rd w .u8 B m b) :
    Calls Try.prog 4 #[.slice B m d] w fun r w' => r = .returned (.bool true) ∧ Below w.heap.size w w' := by
  by_cases hlong : 10000 < m
  · clear hb256 hB
    go_enter Try.func4, Try.ntmps4
    go_wp2_with fail
    refine (awake4_any _).mono ?_
    rintro e w5 ⟨rfl, hb5⟩
    go_wp2_with fail
    go_ret
    exact ⟨rfl, hb5⟩
  · have hm4 : m ≤ 10000 := by omega
    have HB := Lib.hid hB
    obtain ⟨TX, hX⟩ : ∃ T : ByteArray, (⟨(enK 1 b m).toArray⟩ : ByteArray) = T := ⟨_, rfl⟩
    obtain ⟨TY, hY⟩ : ∃ T : ByteArray, (⟨(enK 2 b m).toArray⟩ : ByteArray) = T := ⟨_, rfl⟩
    obtain ⟨TZ, hZ⟩ : ∃ T : ByteArray, (⟨(enK 0 b m).toArray⟩ : ByteArray) = T := ⟨_, rfl⟩
    obtain ⟨x4, xy, yx, hlet, hpad, hsm⟩ := letters_fact TX TY hX hY
    have hz := hex_fact TZ hZ
    have H1 := Lib.hid (fun (W : World) (h : Rd W .u8 B m b) => bencode_any 1 B m d b W h hb256 (by omega))
    have H2 := Lib.hid (fun (W : World) (h : Rd W .u8 B m b) => bencode_any 2 B m d b W h hb256 (by omega))
    have H3 := Lib.hid (fun (W : World) (h : Rd W .u8 B m b) => bencode_any 0 B m d b W h hb256 (by omega))
    unfold EncAns at H1 H2 H3
    rw [hX, show erK 1 = 0 from rfl] at H1
    rw [hY, show erK 2 = 0 from rfl] at H2
    rw [hZ, show erK 0 = 0 from rfl] at H3
    have HLET := Lib.hid hlet
    have HPAD := Lib.hid hpad
    have q1 : ((TZ.size : Int) != 2 * (m : Int)) = false := by rw [hz]; simp
    have q2 : (TX.size : Int) % 4 = 0 := by omega
    have HX4 := Lib.hid x4
    clear hX hY hZ hlet hpad hB hb256 hz x4
    have H1' := Lib.hid (H1.out w HB.out)
    clear H1
    go_enter Try.func4, Try.ntmps4
    go_wp2_with fail
    refine H1'.out.mono ?_
    rintro e w1 ⟨rfl, b1⟩
    have B1 := Lib.hid b1
    have H2' := Lib.hid (H2.out w1 (HB.out.below b1))
    clear b1 H2
    go_wp2_with fail
    refine H2'.out.mono ?_
    rintro e w2 ⟨rfl, b2⟩
    have B2 := Lib.hid (B1.out.trans (b2.mono B1.out.size))
    have H3' := Lib.hid (H3.out w2 (HB.out.below B2.out))
    clear b2 H3
    go_wp2_with fail
    refine H3'.out.mono ?_
    rintro e w3 ⟨rfl, b3⟩
    have B3 := Lib.hid (B2.out.trans (b3.mono B2.out.size))
    clear b3
    go_wp2_with fail
    clear q1 q2
    go_loop [9] (fun s9 => ∃ i : Nat, i ≤ TX.size ∧ s9 = .int .i64 (i : Int)) (fun s9 => TX.size - (intOf s9).toNat)
    case atStart => exact ⟨0, Nat.zero_le _, rfl⟩
    case round =>
      obtain ⟨i, hi, rfl⟩ := hrel
      by_cases hlt : i < TX.size
      · have hbx := bt_at hlt
        by_cases hy : i < TY.size
        · have hby := bt_at hy
          have hl := HLET.out i hy
          rw [hbx, hby] at hl
          by_cases c1 : TX[i].toNat = 43
          · have r1 : ((TX[i].toNat : Int) == 43) = true := by rw [c1]; rfl
            have r2 : ((TY[i].toNat : Int) != 45) = false := by rw [hl, c1]; rfl
            clear hl hbx hby c1
            go_wp2_with fail
            go_round
            case rel => exact ⟨i + 1, hlt, by go_num⟩
            case measure => simp [intOf]; omega
          · have r1 : ((TX[i].toNat : Int) == 43) = false := by simp; omega
            by_cases c2 : TX[i].toNat = 47
            · have r2 : ((TX[i].toNat : Int) == 47) = true := by rw [c2]; rfl
              have r3 : ((TY[i].toNat : Int) != 95) = false := by rw [hl, c2]; rfl
              clear hl hbx hby c1 c2
              go_wp2_with fail
              go_round
              case rel => exact ⟨i + 1, hlt, by go_num⟩
              case measure => simp [intOf]; omega
            · have r2 : ((TX[i].toNat : Int) == 47) = false := by simp; omega
              have r3 : ((TY[i].toNat : Int) != (TX[i].toNat : Int)) = false := by rw [hl]; unfold mp; rw [if_neg c1, if_neg c2]; simp
              clear hl hbx hby c1 c2
              go_wp2_with fail
              go_round
              case rel => exact ⟨i + 1, hlt, by go_num⟩
              case measure => simp [intOf]; omega
        · have hp := HPAD.out i (by omega) hlt
          rw [hbx] at hp
          have r1 : ((TX[i].toNat : Int) != 61) = false := by rw [hp]; rfl
          clear hp hbx
          go_wp2_with fail
          go_round
          case rel => exact ⟨i + 1, hlt, by go_num⟩
          case measure => simp [intOf]; omega
      · obtain rfl : i = TX.size := by omega
        go_wp2_with fail
        refine (awake4_any _).mono ?_
        rintro e w5 ⟨rfl, b5⟩
        have B5 := Lib.hid (B3.out.trans (b5.mono B3.out.size))
        clear b5
        go_wp2_with fail
        go_ret
        exact ⟨rfl, B5.out⟩
end Go.Proofs.Ythkpjcaphjboeaa.nn
