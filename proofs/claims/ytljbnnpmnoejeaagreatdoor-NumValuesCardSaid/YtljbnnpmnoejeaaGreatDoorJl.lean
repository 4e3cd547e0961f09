/- Joined texts, what is wanted of them: RdG, RdH, NnB, RdI. -/
import Derived.Deep.DeepCutAuto
import Derived.Test.YtljbnnpmnoejeaaGreatDoorJb
import Derived.Test.YtljbnnpmnoejeaaGreatDoorJg
import Derived.Test.YtljbnnpmnoejeaaGreatDoorJc
import Derived.Test.YtljbnnpmnoejeaaGreatDoorJa
import Derived.Test.YtljbnnpmnoejeaaGreatDoorJd
import Derived.Test.YtljbnnpmnoejeaaGreatDoorJk
namespace Go.Proofs.YtljbnnpmnoejeaaGreatDoor.nn
open Go.RowKit

set_option maxRecDepth 100000 in
set_option maxHeartbeats 1000000 in
theorem run_any (s : ByteArray) (a : Nat) (w : World) (hs : s.size ≤ 140737488351232) (ha : a ≤ s.size) :
    Calls Tryz.prog 39 #[.string s, .int .i64 (a : Int)] w fun e w' => e = .returned (.int .i64 (rn s a : Int)) ∧ w = w' := by
  go_enter Tryz.func39, Tryz.ntmps39
  go_wp2
  go_loop [5] (fun s5 => ∃ i : Nat, a + i ≤ s.size ∧ s5 = .int .i64 (i : Int) ∧ Hid (dgs (fun j => bt s (a + j)) i = true)) (fun s5 => s.size - a - (intOf s5).toNat)
  case atStart => exact ⟨0, by omega, rfl, Lib.hid rfl⟩
  case round =>
    obtain ⟨i, hi, rfl, hd⟩ := hrel
    by_cases hlt : a + i < s.size
    · have hx := bt_at hlt
      obtain ⟨x, hxx⟩ : ∃ x, s[a + i].toNat = x := ⟨_, rfl⟩
      have hx256 : x < 256 := by rw [← hxx]; exact s[a + i].toNat_lt
      rw [hxx] at hx
      have t1 : ((a : Int) + (i : Int)).toNat = a + i := by omega
      by_cases hy : 48 ≤ x ∧ x ≤ 57
      · have HD : Hid (dgs (fun j => bt s (a + j)) (i + 1) = true) := Lib.hid (by rw [dgs, hd.out, hx]; exact decide_eq_true hy)
        obtain ⟨h1, h2⟩ := hy
        clear hx
        go_wp2
        go_round
        case rel => exact ⟨i + 1, by omega, by go_num, HD⟩
        case measure => simp [intOf]; omega
      · have HD : Hid (rn s a = i) := Lib.hid (dc_eq (by omega) hd.out (.inr (by show dg (bt s (a + i)) = false; rw [hx]; exact decide_eq_false hy)))
        clear hx
        by_cases h1 : 48 ≤ x
        · have h2 : 57 < x := by omega
          clear hy
          go_wp2
          go_ret
          exact ⟨ret_int (by rw [HD.out]), rfl⟩
        · clear hy
          go_wp2
          go_ret
          exact ⟨ret_int (by rw [HD.out]), rfl⟩
    · have HD : Hid (rn s a = i) := Lib.hid (dc_eq (by omega) hd.out (.inl (by omega)))
      go_wp2
      go_ret
      exact ⟨ret_int (by rw [HD.out]), rfl⟩

/-- what is told of digits with any exponent -/
def Wh (neg : Bool) (d : ByteArray) (z : Int) (V E : Nat) : Prop :=
  ((dv (bt d) d.size = 0 ∨ z < -2000) ∧ V = sB neg ∧ E = 0) ∨ (dv (bt d) d.size ≠ 0 ∧ 2000 < z ∧ V = 0 ∧ E = 8) ∨
  (dv (bt d) d.size ≠ 0 ∧ -2000 ≤ z ∧ z ≤ 2000 ∧ ∃ b, RN d z b ∧ V = roV neg b ∧ E = roE b)
def WhAns (neg : Bool) (d : ByteArray) (z : Int) (w : World) (e : Ending) (w' : World) : Prop := ∃ V E : Nat, e = .returned (.tuple #[.int .u64 (V : Int), .int .i64 (E : Int)]) ∧ Wh neg d z V E ∧ Below w.heap.size w w'
theorem dv_zeros {d : ByteArray} (hd : dgs (bt d) d.size = true) : dv (bt d) d.size = 0 ↔ ∀ i, i < d.size → bt d i = 48 := by
  have : ∀ n, n ≤ d.size → (dv (bt d) n = 0 ↔ ∀ i, i < n → bt d i = 48) := by
    intro n
    induction n with
    | zero => exact fun _ => ⟨fun _ i hi => by omega, fun _ => rfl⟩
    | succ n ih =>
      intro hn
      have hdn := dgs_at hd (show n < d.size by omega)
      rw [dv]
      constructor
      · intro h i hi
        by_cases e : i = n
        · subst e; omega
        · exact (ih (by omega)).1 (by omega) i (by omega)
      · intro h
        have h1 := (ih (by omega)).2 (fun i hi => h i (by omega))
        have h2 := h n (by omega)
        omega
  exact this _ (Nat.le_refl _)
set_option maxRecDepth 100000 in
set_option maxHeartbeats 2000000 in
theorem whence_any (neg : Bool) (d : ByteArray) (z : Int) (w : World) (h8 : d.size ≤ 800) (h0 : 0 < d.size) (hd : dgs (bt d) d.size = true) (hz1 : -2000000 ≤ z) (hz2 : z ≤ 2000000) :
    Calls Tryz.prog 40 #[.bool neg, .string d, .int .i64 z] w (WhAns neg d z w) := by
  by_cases hz : -2000 ≤ z ∧ z ≤ 2000
  · obtain ⟨b, hb⟩ := RN_ex d z
    have hr : rfE d z = 0 := by unfold rfE; rw [if_neg (by omega), hd, decide_eq_true h0, if_neg (by decide), if_neg (by omega)]
    have RR := Lib.hid (fun W => rround_yes neg d z b W hr hb)
    have HW : Hid (Wh neg d z (roV neg b) (roE b)) := Lib.hid (by
      by_cases hN : dv (bt d) d.size = 0
      · have hb0 : b = 0 := by
          refine near_uniq (rY_pos z) hb ?_
          have : rX d z = 0 := by unfold rX; rw [hN, Nat.zero_mul]
          rw [this]
          exact near_zero _ (rY_pos z)
        refine .inl ⟨.inl hN, ?_, ?_⟩
        · rw [hb0]; unfold roV; rw [if_pos (by decide)]; rfl
        · rw [hb0]; unfold roE; rw [if_pos (by decide)]
      · exact .inr (.inr ⟨hN, hz.1, hz.2, b, hb, rfl, rfl⟩))
    obtain ⟨k1, k2⟩ := hz
    unfold RoAns at RR
    obtain ⟨V, hV⟩ : ∃ V, roV neg b = V := ⟨_, rfl⟩
    obtain ⟨E, hE⟩ : ∃ E, roE b = E := ⟨_, rfl⟩
    rw [hV, hE] at RR HW
    clear hr hb hd hV hE
    go_enter Tryz.func40, Tryz.ntmps40
    go_wp2_with fail
    refine (RR.out _).mono ?_
    rintro e w1 ⟨rfl, hb1⟩
    have B1 := Lib.hid hb1
    clear hb1
    go_wp2_with fail
    go_ret2
    exact ⟨V, E, rfl, HW.out, B1.out⟩
  · have HS := Lib.hid (fun W => rsign_any neg W)
    have HZ := Lib.hid (dv_zeros hd)
    have HB := Lib.hid (Below.refl w.heap.size w)
    have start : z < -2000 ∨ 2000 < z := by omega
    have HW1 : Hid (dv (bt d) d.size = 0 ∨ z < -2000 → Wh neg d z (sB neg) 0) := Lib.hid fun h => .inl ⟨h, rfl, rfl⟩
    have HW2 : Hid (dv (bt d) d.size ≠ 0 → 2000 < z → Wh neg d z 0 8) := Lib.hid fun h g => .inr (.inl ⟨h, g, rfl, rfl⟩)
    clear hd hz
    rcases start with k1 | k1
    all_goals
      go_enter Tryz.func40, Tryz.ntmps40
      go_wp2_with fail
      go_loop [8, 9] (fun s8 s9 => ∃ (i : Nat) (B : Bool), i ≤ d.size ∧ s9 = .int .i64 (i : Int) ∧ s8 = .bool B ∧ Hid (B = true ↔ ∀ j, j < i → bt d j = 48)) (fun _ s9 => d.size - (intOf s9).toNat)
      case atStart => exact ⟨0, true, Nat.zero_le _, rfl, rfl, Lib.hid ⟨fun _ j hj => by omega, fun _ => rfl⟩⟩
      case round =>
        obtain ⟨i, B, hi, rfl, rfl, hB⟩ := hrel
        by_cases hlt : i < d.size
        · have hx := bt_at hlt
          obtain ⟨x, hxx⟩ : ∃ x, d[i].toNat = x := ⟨_, rfl⟩
          rw [hxx] at hx
          have HX := Lib.hid hx
          clear hx
          cases B with
          | false =>
            have HB2 : Hid (false = true ↔ ∀ j, j < i + 1 → bt d j = 48) := Lib.hid ⟨(fun h => by cases h), fun h => hB.out.2 (fun j hj => h j (by omega))⟩
            go_wp2_with fail
            go_round
            case rel => exact ⟨i + 1, false, by omega, by go_num, rfl, HB2⟩
            case measure => simp [intOf]; omega
          | true =>
            by_cases h48 : x = 48
            · subst h48
              have HB2 : Hid (true = true ↔ ∀ j, j < i + 1 → bt d j = 48) := Lib.hid ⟨fun _ j hj => by
                by_cases e : j = i
                · rw [e]; exact HX.out
                · exact hB.out.1 rfl j (by omega), fun _ => rfl⟩
              go_wp2_with fail
              go_round
              case rel => exact ⟨i + 1, true, by omega, by go_num, rfl, HB2⟩
              case measure => simp [intOf]; omega
            · have HB2 : Hid (false = true ↔ ∀ j, j < i + 1 → bt d j = 48) := Lib.hid ⟨(fun h => by cases h), fun h => absurd (HX.out.symm.trans (h i (by omega))) h48⟩
              have hne : ((x : Int) == 48) = false := by rw [beq_eq_false_iff_ne]; omega
              clear h48
              go_wp2_with fail
              go_round
              case rel => exact ⟨i + 1, false, by omega, by go_num, rfl, HB2⟩
              case measure => simp [intOf]; omega
        · obtain rfl : i = d.size := by omega
          cases B with
          | false =>
            have hN : Hid (dv (bt d) d.size ≠ 0) := Lib.hid fun h => by have := hB.out.2 (HZ.out.1 h); cases this
            first
              | (have W1 := Lib.hid (HW1.out (.inr k1))
                 go_wp2_with fail
                 refine (HS.out _).mono ?_
                 rintro e w' ⟨rfl, rfl⟩
                 go_wp2_with fail
                 go_ret2
                 exact ⟨_, 0, rfl, W1.out, HB.out⟩)
              | (have W1 := Lib.hid (HW2.out hN.out k1)
                 go_wp2_with fail
                 go_ret2
                 exact ⟨0, 8, rfl, W1.out, HB.out⟩)
          | true =>
            have W1 := Lib.hid (HW1.out (.inl (HZ.out.2 (hB.out.1 rfl))))
            go_wp2_with fail
            refine (HS.out _).mono ?_
            rintro e w' ⟨rfl, rfl⟩
            go_wp2_with fail
            go_ret2
            exact ⟨_, 0, rfl, W1.out, HB.out⟩
end Go.Proofs.YtljbnnpmnoejeaaGreatDoor.nn
namespace Go.Proofs.YtljbnnpmnoejeaaGreatDoor.nn
open Go.RowKit

/-- what is told once the places are found -/
theorem sc_wh {s : ByteArray} {V E : Nat} (hok : cOk s = true) (hl : ¬ scLong s) (h : Wh (scNeg s) (scD s) (scZ s) V E) : ScIs s V E := by
  rcases h with ⟨a, b, c⟩ | ⟨a, b, c, d⟩ | ⟨a, b, c, d⟩
  · exact .inr (.inr (.inl ⟨hok, hl, a, b, c⟩))
  · exact .inr (.inr (.inr (.inl ⟨hok, hl, a, b, c, d⟩)))
  · exact .inr (.inr (.inr (.inr ⟨hok, hl, a, b, c, d⟩)))

theorem scD_no {s : ByteArray} (h : cDot s = false) : scD s = cW s ∧ (cF s).size = 0 ∧ cC s = cB s := by
  have e1 : cF s = e0 := if_neg (by rw [h]; decide)
  have e2 : cC s = cB s := if_neg (by rw [h]; decide)
  refine ⟨?_, by rw [e1]; rfl, e2⟩
  unfold scD
  rw [e1]
  have hz : (cW s ++ e0).size = (cW s).size := by rw [ByteArray.size_append]; rfl
  exact fba_ext hz fun i hi => fbt_app_left (by omega)
/-- the number of digits that is asked for behind the point -/
def n1 (s : ByteArray) : Nat := if cDot s then rn s (cB s + 1) else rn s (cA s)
theorem cut_run {s : ByteArray} {a k : Nat} (h : a + k ≤ s.size) (W : World) : (Instr.slice 9 (.string s) (some (.int .i64 (a : Int))) (some (.int .i64 ((a : Int) + (k : Int)))) none).run Tryz.prog W = .ok (.string (cutT s a (a + k))) W := by
  rw [run_slice_string (P := Tryz.prog) (w := W) 9 s .i64 .i64 _ _ Tryz.underlying9 (by omega) (by omega) (by omega), Int.toNat_natCast, show ((a : Int) + (k : Int)).toNat = a + k by omega]
  rfl
theorem byte_of {s : ByteArray} {a : Nat} (h : a < s.size) : ∃ y, s[a].toNat = y ∧ bt s a = y ∧ y < 256 := ⟨_, rfl, bt_at h, s[a].toNat_lt⟩

set_option maxRecDepth 100000 in
set_option maxHeartbeats 8000000 in
theorem rscan_go (s : ByteArray) (w : World) (hs : s.size ≤ 140737488351232) (h0 : 0 < s.size) (hw : 0 < rn s (cA s)) :
    Calls Tryz.prog 19 #[.string s] w (ScAns s w) := by
  have a1 := cA_le s
  have a2 := cB_le s
  have a3 := (cC_le s).1
  have a3' := (cC_le s).2
  have a4 := cD_le s
  have HR := Lib.hid (fun a W (ha : a ≤ s.size) => run_any s a W hs ha)
  obtain ⟨x, hxx, hx, hx256⟩ := byte_of h0
  have hne := not_nil_text h0
  have hneg : ((x : Int) == 45) = scNeg s := by
    unfold scNeg at_
    rw [hx]
    by_cases h : x = 45
    · rw [decide_eq_true ⟨h0, h⟩]; subst h; rfl
    · rw [decide_eq_false (fun g => h g.2), beq_eq_false_iff_ne]; omega
  have hA : cA s = if scNeg s = true then 1 else 0 := rfl
  obtain ⟨neg, hng⟩ : ∃ b, scNeg s = b := ⟨_, rfl⟩
  rw [hng] at hneg hA
  have HA := Lib.hid hA
  have HNG := Lib.hid hng
  -- the places by name
  have eB : cB s = cA s + rn s (cA s) := rfl
  have HW : Hid (cutT s (cA s) (cB s) = cW s) := Lib.hid rfl
  have HB0 := Lib.hid (Below.refl w.heap.size w)
  obtain ⟨a, ha⟩ : ∃ a, cA s = a := ⟨_, rfl⟩
  obtain ⟨k0, hk0⟩ : ∃ n, rn s (cA s) = n := ⟨_, rfl⟩
  obtain ⟨b, hb⟩ : ∃ b, cB s = b := ⟨_, rfl⟩
  obtain ⟨c, hc⟩ : ∃ c, cC s = c := ⟨_, rfl⟩
  obtain ⟨d, hd⟩ : ∃ d, cD s = d := ⟨_, rfl⟩
  have R0 := Lib.hid (fun W => HR.out a W (by omega))
  rw [← ha, hk0] at R0
  have SL0 : Hid (∀ W, (Instr.slice 9 (.string s) (some (.int .i64 (a : Int))) (some (.int .i64 ((a : Int) + (k0 : Int)))) none).run Tryz.prog W = .ok (.string (cW s)) W) := Lib.hid fun W => by
    rw [cut_run (by omega) W, ← HW.out, ← hk0, ← ha, eB]
  rw [ha] at R0 HA
  have HP := Lib.hid (And.intro ha (And.intro hk0 (And.intro hb (And.intro hc hd))))
  have hab : a + k0 = b := by omega
  rw [ha] at a1
  rw [hb] at a2 a3'
  rw [hc] at a3
  rw [hd] at a4
  rw [hk0] at hw
  clear hA hx hng eB ha hk0 hb hc hd
  have sl0 := SL0.out
  go_enter Tryz.func19, Tryz.ntmps19
  go_upto_if 21 with (fail)
  go_cut [5] (fun s5 wx => s5 = .int .i64 (a : Int) ∧ wx = w)
  case first =>
    cases neg
    all_goals
      go_wp2_with fail
      go_meet
      exact ⟨by rw [HA.out]; rfl, rfl⟩
  case rest =>
    obtain ⟨rfl, hww⟩ := hcut
    obtain rfl : w = wc := hww.symm
    go_wp2_with fail
    refine (R0.out _).mono ?_
    rintro e w' ⟨rfl, rfl⟩
    obtain ⟨Wt, hWt⟩ : ∃ T, cW s = T := ⟨_, rfl⟩
    rw [hWt] at sl0
    have HWt := Lib.hid hWt
    have kab : (a : Int) + (k0 : Int) = (b : Int) := by omega
    rw [kab] at sl0
    clear hWt hxx hne hneg
    go_upto_region 10 with fail
    have cdot : cDot s = at_ s b 46 := by show at_ s (cB s) 46 = _; rw [HP.out.2.2.1]
    have CD := Lib.hid cdot
    clear sl0 cdot
    go_cut [48] (fun s48 wx => s48 = .bool (cDot s) ∧ wx = w)
    case first =>
      by_cases hbl : b < s.size
      · obtain ⟨y, hyy, hy, hy256⟩ := byte_of hbl
        by_cases h46 : y = 46
        · subst h46
          have hdt : Hid (cDot s = true) := Lib.hid (by rw [CD.out]; exact decide_eq_true ⟨hbl, hy⟩)
          clear hy
          go_wp2_with fail
          go_meet
          exact ⟨by rw [hdt.out], rfl⟩
        · have hdt : Hid (cDot s = false) := Lib.hid (by rw [CD.out]; exact decide_eq_false (fun g => h46 (hy.symm.trans g.2)))
          have hne46 : ((y : Int) == 46) = false := by rw [beq_eq_false_iff_ne]; omega
          clear hy h46
          go_wp2_with fail
          go_meet
          exact ⟨by rw [hdt.out], rfl⟩
      · have hdt : Hid (cDot s = false) := Lib.hid (by rw [CD.out]; exact decide_eq_false (fun g => hbl g.1))
        go_wp2_with fail
        go_meet
        exact ⟨by rw [hdt.out], rfl⟩
    case rest =>
      obtain ⟨rfl, hww⟩ := hcut
      obtain rfl : w = wc := hww.symm
      go_upto_if 48 with (fail)
      go_cut [5, 6, 7, 9] (fun s5 s6 s7 s9 wx => s5 = .int .i64 (c : Int) ∧ s6 = .int .i64 (n1 s : Int) ∧ s7 = .string (scD s) ∧ s9 = .int .i64 (-((cF s).size : Int)) ∧ wx = w)
      case first =>
        cases hdt : cDot s with
        | true =>
          have h1 := a3' hdt
          have e1 : n1 s = rn s (b + 1) := by unfold n1; rw [if_pos hdt, HP.out.2.2.1]
          have e2 : c = b + 1 + rn s (b + 1) := by rw [← HP.out.2.2.2.1]; show (if cDot s = true then _ else _) = _; rw [if_pos hdt, HP.out.2.2.1]
          have e3 : cF s = cutT s (b + 1) c := by show (if cDot s = true then _ else _) = _; rw [if_pos hdt, HP.out.2.2.1, HP.out.2.2.2.1]
          have e4 : scD s = Wt ++ cF s := by unfold scD; rw [HWt.out]
          have R1 := Lib.hid (fun W => HR.out (b + 1) W h1)
          obtain ⟨m, hm⟩ : ∃ m, rn s (b + 1) = m := ⟨_, rfl⟩
          rw [hm] at R1 e1 e2
          have sl1 : ∀ W, (Instr.slice 9 (.string s) (some (.int .i64 ((b : Int) + 1))) (some (.int .i64 ((b : Int) + 1 + (m : Int)))) none).run Tryz.prog W = .ok (.string (cF s)) W := fun W => by
            have := cut_run (s := s) (a := b + 1) (k := m) (by omega) W
            rw [e3, e2]
            exact this
          have e5 : (cF s).size = m := by rw [e3, cutT_size a3]; omega
          have e6 : Wt.size ≤ s.size := by rw [← HWt.out]; unfold cW cutT; rw [ByteArray.size_extract]; omega
          have hm2 : b + 1 + m ≤ s.size := by omega
          have R1' : Hid (∀ W, Calls Tryz.prog 39 #[.string s, .int .i64 ((b : Int) + 1)] W fun e w' => e = .returned (.int .i64 (m : Int)) ∧ W = w') := R1
          have EE := Lib.hid (And.intro e1 (And.intro e2 (And.intro e4 e5)))
          obtain ⟨Fs, hFs⟩ : ∃ T, cF s = T := ⟨_, rfl⟩
          rw [hFs] at sl1 EE e5
          have HFs := Lib.hid hFs
          have bw : Wt.size + Fs.size ≤ 281474976702464 := by omega
          clear e1 e2 e3 e4 e5 hm hdt h1 R1 hFs
          go_wp2_with fail
          refine (R1'.out _).mono ?_
          rintro e w' ⟨rfl, rfl⟩
          go_wp2_with fail
          go_meet
          refine ⟨?_, ?_, ?_, ?_, rfl⟩
          · rw [EE.out.2.1]; go_num
          · rw [EE.out.1]
          · rw [EE.out.2.2.1]
          · rw [HFs.out, EE.out.2.2.2]
        | false =>
          obtain ⟨e1, e2, e3⟩ := scD_no hdt
          have e4 : n1 s = k0 := by unfold n1; rw [if_neg (by rw [hdt]; decide), HP.out.2.1]
          rw [HP.out.2.2.1, HP.out.2.2.2.1] at e3
          have EE := Lib.hid (And.intro e1 (And.intro e2 (And.intro e3 e4)))
          clear e1 e2 e3 e4 hdt
          go_wp2_with fail
          go_meet
          refine ⟨?_, ?_, ?_, ?_, rfl⟩
          · rw [EE.out.2.2.1]
          · rw [EE.out.2.2.2]
          · rw [EE.out.1, HWt.out]
          · rw [EE.out.2.1]; rfl
      case rest =>
        obtain ⟨rfl, rfl, rfl, rfl, hww⟩ := hcut
        obtain rfl : w = wc := hww.symm
        by_cases hn1 : n1 s = 0
        · have HS : Hid (ScIs s 0 4) := Lib.hid (by
            refine .inl ⟨?_, rfl, rfl⟩
            unfold n1 at hn1
            cases hdt : cDot s with
            | true =>
              rw [hdt, if_pos rfl] at hn1
              unfold cOk
              rw [hn1, hdt]
              simp
            | false =>
              rw [hdt, if_neg (by decide), HP.out.2.1] at hn1
              omega)
          rw [hn1]
          go_wp2_with fail
          go_ret2
          exact ⟨0, 4, rfl, HS.out, HB0.out⟩
        · obtain ⟨nn1, hnn⟩ : ∃ k, n1 s = k := ⟨_, rfl⟩
          have HN1 := Lib.hid hnn
          rw [hnn] at hn1
          rw [hnn]
          clear hnn kab
          have hn1' : ((nn1 : Int) == 0) = false := by rw [beq_eq_false_iff_ne]; omega
          have hk0' : ((k0 : Int) == 0) = false := by rw [beq_eq_false_iff_ne]; omega
          obtain ⟨Dg, hDg⟩ : ∃ T, scD s = T := ⟨_, rfl⟩
          have HDg := Lib.hid hDg
          rw [hDg]
          obtain ⟨fz, hfz⟩ : ∃ T, (cF s).size = T := ⟨_, rfl⟩
          have HFz := Lib.hid hfz
          rw [hfz]
          clear hDg hfz
          go_upto_region 19 with fail
          clear hn1' hk0'
          have ce : cE s = (at_ s c 101 || at_ s c 69) := by show (at_ s (cC s) 101 || at_ s (cC s) 69) = _; rw [HP.out.2.2.2.1]
          have CE := Lib.hid ce
          clear ce
          go_cut [90] (fun s90 wx => s90 = .bool (cE s) ∧ wx = w)
          case first =>
            by_cases hcl : c < s.size
            · obtain ⟨y, hyy, hy, hy256⟩ := byte_of hcl
              by_cases h1 : y = 101
              · subst h1
                have hdt : Hid (cE s = true) := Lib.hid (by rw [CE.out, show at_ s c 101 = true from decide_eq_true ⟨hcl, hy⟩]; rfl)
                clear hy
                go_wp2_with fail
                go_meet
                exact ⟨by rw [hdt.out], rfl⟩
              · have g1 : at_ s c 101 = false := decide_eq_false (fun g => h1 (hy.symm.trans g.2))
                have hne1 : ((y : Int) == 101) = false := by rw [beq_eq_false_iff_ne]; omega
                by_cases h2 : y = 69
                · subst h2
                  have hdt : Hid (cE s = true) := Lib.hid (by rw [CE.out, show at_ s c 69 = true from decide_eq_true ⟨hcl, hy⟩, Bool.or_true])
                  clear hy h1 g1
                  go_wp2_with fail
                  go_meet
                  exact ⟨by rw [hdt.out], rfl⟩
                · have hdt : Hid (cE s = false) := Lib.hid (by rw [CE.out, g1, show at_ s c 69 = false from decide_eq_false (fun g => h2 (hy.symm.trans g.2))]; rfl)
                  have hne2 : ((y : Int) == 69) = false := by rw [beq_eq_false_iff_ne]; omega
                  clear hy h1 h2 g1
                  go_wp2_with fail
                  go_meet
                  exact ⟨by rw [hdt.out], rfl⟩
            · have hdt : Hid (cE s = false) := Lib.hid (by rw [CE.out, show at_ s c 101 = false from decide_eq_false (fun g => hcl g.1), show at_ s c 69 = false from decide_eq_false (fun g => hcl g.1)]; rfl)
              go_wp2_with fail
              go_meet
              exact ⟨by rw [hdt.out], rfl⟩
          case rest =>
            obtain ⟨rfl, hww⟩ := hcut
            obtain rfl : w = wc := hww.symm
            go_upto_if 90 with (fail)
            go_cut [5, 10, 11] (fun s5 s10 s11 wx => s5 = .int .i64 (d : Int) ∧ s10 = .string (cX s) ∧ s11 = .bool (cN s) ∧ (cE s = true → 0 < rn s (cS s)) ∧ wx = w)
            case first =>
              cases hE : cE s with
              | true =>
                have hq := cE_lt hE
                rw [HP.out.2.2.2.1] at hq
                have eS : cS s = sgA s (c + 1) := by show sgA s (cC s + 1) = _; rw [HP.out.2.2.2.1]
                have eN : cN s = sgB s (c + 1) := by show (if cE s = true then _ else _) = _; rw [if_pos hE, HP.out.2.2.2.1]
                by_cases hcl : c + 1 < s.size
                · obtain ⟨y, hyy, hy, hy256⟩ := byte_of hcl
                  have hidx : ((c : Int) + 1).toNat = c + 1 := by omega
                  by_cases h1 : y = 43
                  · subst h1
                    have g1 : at_ s (c + 1) 43 = true := decide_eq_true ⟨hcl, hy⟩
                    skip
                    have R2 := Lib.hid (fun W => HR.out (c + 1 + 1) W (by omega))
                    have R2' : Hid (∀ W, Calls Tryz.prog 39 #[.string s, .int .i64 ((c : Int) + 1 + 1)] W fun e w' => e = .returned (.int .i64 (rn s (c + 1 + 1) : Int)) ∧ W = w') := R2
                    have hkS : cS s = (c + 1 + 1) := by rw [eS]; show sgA s (c + 1) = _; unfold sgA; rw [g1, if_pos rfl]
                    have hN : cN s = false := by rw [eN]; show sgB s (c + 1) = _; unfold sgB; rw [g1, if_pos rfl]
                    have eX : cX s = cutT s (c + 1 + 1) d := by rw [← hkS, ← HP.out.2.2.2.2]; exact if_pos hE
                    have eD : d = (c + 1 + 1) + rn s (c + 1 + 1) := by rw [← hkS, ← HP.out.2.2.2.2]; exact if_pos hE
                    obtain ⟨k, hk⟩ : ∃ k, rn s (c + 1 + 1) = k := ⟨_, rfl⟩
                    rw [hk] at R2' eD
                    have HK : Hid (rn s (cS s) = k) := Lib.hid (by rw [hkS, hk])
                    have HE := Lib.hid hE
                    by_cases hk0' : k = 0
                    · have HS : Hid (ScIs s 0 4) := Lib.hid (by
                        refine .inl ⟨?_, rfl, rfl⟩
                        unfold cOk
                        rw [HK.out, hk0', hE]
                        simp)
                      subst hk0'
                      clear R2 hkS hN eX eD hk hE eS eN g1 hy
                      go_wp2_with fail
                      refine (R2'.out _).mono ?_
                      rintro e w' ⟨rfl, rfl⟩
                      go_wp2_with fail
                      go_ret2
                      exact ⟨0, 4, rfl, HS.out, HB0.out⟩
                    · have hpk : (c + 1 + 1) + k ≤ s.size := by omega
                      have sl2 : ∀ W, (Instr.slice 9 (.string s) (some (.int .i64 ((c : Int) + 1 + 1))) (some (.int .i64 (((c : Int) + 1 + 1) + (k : Int)))) none).run Tryz.prog W = .ok (.string (cX s)) W := fun W => by
                        have := cut_run (s := s) (a := (c + 1 + 1)) (k := k) hpk W
                        rw [eX, eD]
                        exact this
                      have hkb : ((k : Int) == 0) = false := by rw [beq_eq_false_iff_ne]; omega
                      have HD2 := Lib.hid eD
                      have HN := Lib.hid hN
                      obtain ⟨X, hXX⟩ : ∃ T, cX s = T := ⟨_, rfl⟩
                      rw [hXX] at sl2
                      have HXX := Lib.hid hXX
                      have hk1 : 0 < k := by omega
                      clear R2 hkS hN eX eD hk hE eS eN hk0' hXX g1 hy
                      go_wp2_with fail
                      refine (R2'.out _).mono ?_
                      rintro e w' ⟨rfl, rfl⟩
                      go_wp2_with fail
                      go_meet
                      refine ⟨by rw [HD2.out]; go_num, by rw [HXX.out], by rw [HN.out], (fun _ => by rw [HK.out]; exact hk1), rfl⟩
                  · have g1 : at_ s (c + 1) 43 = false := decide_eq_false (fun g => h1 (hy.symm.trans g.2))
                    have hne1 : ((y : Int) == 43) = false := by rw [beq_eq_false_iff_ne]; omega
                    by_cases h2 : y = 45
                    · subst h2
                      have g2 : at_ s (c + 1) 45 = true := decide_eq_true ⟨hcl, hy⟩
                      skip
                      have R2 := Lib.hid (fun W => HR.out (c + 1 + 1) W (by omega))
                      have R2' : Hid (∀ W, Calls Tryz.prog 39 #[.string s, .int .i64 ((c : Int) + 1 + 1)] W fun e w' => e = .returned (.int .i64 (rn s (c + 1 + 1) : Int)) ∧ W = w') := R2
                      have hkS : cS s = (c + 1 + 1) := by rw [eS]; show sgA s (c + 1) = _; unfold sgA; (rw [g1, if_neg (by decide), g2]; try rw [if_pos rfl])
                      have hN : cN s = true := by rw [eN]; show sgB s (c + 1) = _; unfold sgB; (rw [g1, if_neg (by decide), g2]; try rw [if_pos rfl])
                      have eX : cX s = cutT s (c + 1 + 1) d := by rw [← hkS, ← HP.out.2.2.2.2]; exact if_pos hE
                      have eD : d = (c + 1 + 1) + rn s (c + 1 + 1) := by rw [← hkS, ← HP.out.2.2.2.2]; exact if_pos hE
                      obtain ⟨k, hk⟩ : ∃ k, rn s (c + 1 + 1) = k := ⟨_, rfl⟩
                      rw [hk] at R2' eD
                      have HK : Hid (rn s (cS s) = k) := Lib.hid (by rw [hkS, hk])
                      have HE := Lib.hid hE
                      by_cases hk0' : k = 0
                      · have HS : Hid (ScIs s 0 4) := Lib.hid (by
                          refine .inl ⟨?_, rfl, rfl⟩
                          unfold cOk
                          rw [HK.out, hk0', hE]
                          simp)
                        subst hk0'
                        clear R2 hkS hN eX eD hk hE eS eN g1 g2 hy
                        go_wp2_with fail
                        refine (R2'.out _).mono ?_
                        rintro e w' ⟨rfl, rfl⟩
                        go_wp2_with fail
                        go_ret2
                        exact ⟨0, 4, rfl, HS.out, HB0.out⟩
                      · have hpk : (c + 1 + 1) + k ≤ s.size := by omega
                        have sl2 : ∀ W, (Instr.slice 9 (.string s) (some (.int .i64 ((c : Int) + 1 + 1))) (some (.int .i64 (((c : Int) + 1 + 1) + (k : Int)))) none).run Tryz.prog W = .ok (.string (cX s)) W := fun W => by
                          have := cut_run (s := s) (a := (c + 1 + 1)) (k := k) hpk W
                          rw [eX, eD]
                          exact this
                        have hkb : ((k : Int) == 0) = false := by rw [beq_eq_false_iff_ne]; omega
                        have HD2 := Lib.hid eD
                        have HN := Lib.hid hN
                        obtain ⟨X, hXX⟩ : ∃ T, cX s = T := ⟨_, rfl⟩
                        rw [hXX] at sl2
                        have HXX := Lib.hid hXX
                        have hk1 : 0 < k := by omega
                        clear R2 hkS hN eX eD hk hE eS eN hk0' hXX g1 g2 hy
                        go_wp2_with fail
                        refine (R2'.out _).mono ?_
                        rintro e w' ⟨rfl, rfl⟩
                        go_wp2_with fail
                        go_meet
                        refine ⟨by rw [HD2.out]; go_num, by rw [HXX.out], by rw [HN.out], (fun _ => by rw [HK.out]; exact hk1), rfl⟩
                    · have g2 : at_ s (c + 1) 45 = false := decide_eq_false (fun g => h2 (hy.symm.trans g.2))
                      have hne2 : ((y : Int) == 45) = false := by rw [beq_eq_false_iff_ne]; omega
                      skip
                      have R2 := Lib.hid (fun W => HR.out (c + 1) W (by omega))
                      have R2' : Hid (∀ W, Calls Tryz.prog 39 #[.string s, .int .i64 ((c : Int) + 1)] W fun e w' => e = .returned (.int .i64 (rn s (c + 1) : Int)) ∧ W = w') := R2
                      have hkS : cS s = (c + 1) := by rw [eS]; show sgA s (c + 1) = _; unfold sgA; (rw [g1, if_neg (by decide), g2]; try rw [if_neg (by decide)])
                      have hN : cN s = false := by rw [eN]; show sgB s (c + 1) = _; unfold sgB; (rw [g1, if_neg (by decide), g2]; try rw [if_neg (by decide)])
                      have eX : cX s = cutT s (c + 1) d := by rw [← hkS, ← HP.out.2.2.2.2]; exact if_pos hE
                      have eD : d = (c + 1) + rn s (c + 1) := by rw [← hkS, ← HP.out.2.2.2.2]; exact if_pos hE
                      obtain ⟨k, hk⟩ : ∃ k, rn s (c + 1) = k := ⟨_, rfl⟩
                      rw [hk] at R2' eD
                      have HK : Hid (rn s (cS s) = k) := Lib.hid (by rw [hkS, hk])
                      have HE := Lib.hid hE
                      by_cases hk0' : k = 0
                      · have HS : Hid (ScIs s 0 4) := Lib.hid (by
                          refine .inl ⟨?_, rfl, rfl⟩
                          unfold cOk
                          rw [HK.out, hk0', hE]
                          simp)
                        subst hk0'
                        clear R2 hkS hN eX eD hk hE eS eN g1 g2 hy h1 h2
                        go_wp2_with fail
                        refine (R2'.out _).mono ?_
                        rintro e w' ⟨rfl, rfl⟩
                        go_wp2_with fail
                        go_ret2
                        exact ⟨0, 4, rfl, HS.out, HB0.out⟩
                      · have hpk : (c + 1) + k ≤ s.size := by omega
                        have sl2 : ∀ W, (Instr.slice 9 (.string s) (some (.int .i64 ((c : Int) + 1))) (some (.int .i64 (((c : Int) + 1) + (k : Int)))) none).run Tryz.prog W = .ok (.string (cX s)) W := fun W => by
                          have := cut_run (s := s) (a := (c + 1)) (k := k) hpk W
                          rw [eX, eD]
                          exact this
                        have hkb : ((k : Int) == 0) = false := by rw [beq_eq_false_iff_ne]; omega
                        have HD2 := Lib.hid eD
                        have HN := Lib.hid hN
                        obtain ⟨X, hXX⟩ : ∃ T, cX s = T := ⟨_, rfl⟩
                        rw [hXX] at sl2
                        have HXX := Lib.hid hXX
                        have hk1 : 0 < k := by omega
                        clear R2 hkS hN eX eD hk hE eS eN hk0' hXX g1 g2 hy h1 h2
                        go_wp2_with fail
                        refine (R2'.out _).mono ?_
                        rintro e w' ⟨rfl, rfl⟩
                        go_wp2_with fail
                        go_meet
                        refine ⟨by rw [HD2.out]; go_num, by rw [HXX.out], by rw [HN.out], (fun _ => by rw [HK.out]; exact hk1), rfl⟩
                · have g1 : at_ s (c + 1) 43 = false := decide_eq_false (fun g => hcl g.1)
                  have g2 : at_ s (c + 1) 45 = false := decide_eq_false (fun g => hcl g.1)
                  skip
                  have R2 := Lib.hid (fun W => HR.out (c + 1) W (by omega))
                  have R2' : Hid (∀ W, Calls Tryz.prog 39 #[.string s, .int .i64 ((c : Int) + 1)] W fun e w' => e = .returned (.int .i64 (rn s (c + 1) : Int)) ∧ W = w') := R2
                  have hkS : cS s = (c + 1) := by rw [eS]; show sgA s (c + 1) = _; unfold sgA; (rw [g1, if_neg (by decide), g2]; try rw [if_neg (by decide)])
                  have hN : cN s = false := by rw [eN]; show sgB s (c + 1) = _; unfold sgB; (rw [g1, if_neg (by decide), g2]; try rw [if_neg (by decide)])
                  have eX : cX s = cutT s (c + 1) d := by rw [← hkS, ← HP.out.2.2.2.2]; exact if_pos hE
                  have eD : d = (c + 1) + rn s (c + 1) := by rw [← hkS, ← HP.out.2.2.2.2]; exact if_pos hE
                  obtain ⟨k, hk⟩ : ∃ k, rn s (c + 1) = k := ⟨_, rfl⟩
                  rw [hk] at R2' eD
                  have HK : Hid (rn s (cS s) = k) := Lib.hid (by rw [hkS, hk])
                  have HE := Lib.hid hE
                  by_cases hk0' : k = 0
                  · have HS : Hid (ScIs s 0 4) := Lib.hid (by
                      refine .inl ⟨?_, rfl, rfl⟩
                      unfold cOk
                      rw [HK.out, hk0', hE]
                      simp)
                    subst hk0'
                    clear R2 hkS hN eX eD hk hE eS eN g1 g2
                    go_wp2_with fail
                    refine (R2'.out _).mono ?_
                    rintro e w' ⟨rfl, rfl⟩
                    go_wp2_with fail
                    go_ret2
                    exact ⟨0, 4, rfl, HS.out, HB0.out⟩
                  · have hpk : (c + 1) + k ≤ s.size := by omega
                    exfalso
                    omega
              | false =>
                have e1 : cX s = e0 := if_neg (by rw [hE]; decide)
                have e2 : cN s = false := if_neg (by rw [hE]; decide)
                have e3 : d = c := by rw [← HP.out.2.2.2.2, ← HP.out.2.2.2.1]; exact if_neg (by rw [hE]; decide)
                have EE := Lib.hid (And.intro e1 (And.intro e2 e3))
                have HE := Lib.hid hE
                clear e1 e2 e3 hE
                go_wp2_with fail
                go_meet
                refine ⟨by rw [EE.out.2.2], by rw [EE.out.1]; rfl, by rw [EE.out.2.1], (fun h => by rw [HE.out] at h; cases h), rfl⟩
            case rest =>
              obtain ⟨rfl, rfl, rfl, hk, hww⟩ := hcut
              obtain rfl : w = wc := hww.symm
              by_cases hds : d = s.size
              · have hok : cOk s = true := by
                  unfold cOk
                  rw [HP.out.2.1, decide_eq_true hw, HP.out.2.2.2.2, decide_eq_true hds, Bool.true_and, Bool.and_true]
                  have m1 : (!cDot s || decide (0 < rn s (cB s + 1))) = true := by
                    cases hdt : cDot s with
                    | false => rfl
                    | true =>
                      have := HN1.out
                      unfold n1 at this
                      rw [hdt, if_pos rfl] at this
                      rw [this, decide_eq_true (by omega)]
                      rfl
                  have m2 : (!cE s || decide (0 < rn s (cS s))) = true := by
                    cases hE : cE s with
                    | false => rfl
                    | true => rw [decide_eq_true (hk hE)]; rfl
                  rw [m1, m2]
                  rfl
                have hdl : Dg.size = (cW s).size + (cF s).size := by rw [← HDg.out]; exact ByteArray.size_append
                have hls : scLong s ↔ 800 < Dg.size ∨ 4 < (cX s).size := by unfold scLong; rw [hdl]
                have hDs : Dg.size ≤ 281474976702464 := by
                  rw [hdl]
                  have q1 : (cW s).size ≤ s.size := by unfold cW cutT; rw [ByteArray.size_extract]; omega
                  have q2 : (cF s).size ≤ s.size := by
                    unfold cF
                    split
                    · unfold cutT; rw [ByteArray.size_extract]; omega
                    · exact Nat.zero_le _
                  omega
                by_cases hl : scLong s
                · have HS : Hid (ScIs s 0 2) := Lib.hid (.inr (.inl ⟨hok, hl, rfl, rfl⟩))
                  have hl2 := hls.1 hl
                  obtain ⟨X, hXX⟩ : ∃ T, cX s = T := ⟨_, rfl⟩
                  rw [hXX] at hl2
                  rw [hXX]
                  clear hls hl hok hdl hk hXX
                  by_cases g1 : 800 < Dg.size
                  · clear hl2
                    subst hds
                    go_wp2_with fail
                    go_ret2
                    exact ⟨0, 2, rfl, HS.out, HB0.out⟩
                  · have g2 : 4 < X.size := by omega
                    clear hl2
                    subst hds
                    go_wp2_with fail
                    go_ret2
                    exact ⟨0, 2, rfl, HS.out, HB0.out⟩
                · obtain ⟨t1, t2, t3, t4, t5, t6, t7, t8⟩ := sc_facts hok hl
                  have HSC := Lib.hid (fun V E (h : Wh (scNeg s) (scD s) (scZ s) V E) => sc_wh hok hl h)
                  have hz : scZ s = (if cN s = true then -(dv (bt (cX s)) (cX s).size : Int) else (dv (bt (cX s)) (cX s).size : Int)) - (fz : Int) := by rw [← HFz.out]; rfl
                  have hfz8 : fz ≤ 800 := by rw [← HFz.out]; exact t6
                  have h10 : dv (bt (cX s)) (cX s).size < 10000 := by
                    have h1 := dv_lt t5
                    have h2 : 10 ^ (cX s).size ≤ 10 ^ 4 := Nat.pow_le_pow_right (by decide) t4
                    omega
                  rw [HDg.out] at t1 t2 t3
                  have HWH := Lib.hid (fun z W (h1 : -2000000 ≤ z) (h2 : z ≤ 2000000) => whence_any neg Dg z W t1 t2 t3 h1 h2)
                  rw [HNG.out, HDg.out] at HSC
                  obtain ⟨zz, hzz⟩ : ∃ z, scZ s = z := ⟨_, rfl⟩
                  rw [hzz] at HSC hz
                  obtain ⟨ng, hng2⟩ : ∃ b, cN s = b := ⟨_, rfl⟩
                  obtain ⟨X, hXX⟩ : ∃ T, cX s = T := ⟨_, rfl⟩
                  rw [hXX] at hz t4 t5 h10
                  rw [hng2] at hz
                  rw [hng2, hXX]
                  have HT5 := Lib.hid t5
                  have HZ := Lib.hid hz
                  clear hls hl hok hdl hk hXX hng2 hzz hz t2 t3 t5 t6 t7 t8 h10
                  subst hds
                  go_wp2_with fail
                  go_loop [12, 13] (fun s12 s13 => ∃ i : Nat, i ≤ X.size ∧ s13 = .int .i64 (i : Int) ∧ s12 = .int .i64 (dv (bt X) i : Int)) (fun _ s13 => X.size - (intOf s13).toNat)
                  case atStart => exact ⟨0, Nat.zero_le _, rfl, rfl⟩
                  case round =>
                    obtain ⟨i, hi, rfl, rfl⟩ := hrel
                    have hv : dv (bt X) i < 10000 := by
                      have h1 := dv_lt (dgs_mono HT5.out hi)
                      have h2 : 10 ^ i ≤ 10 ^ 4 := Nat.pow_le_pow_right (by decide) (by omega)
                      omega
                    by_cases hlt : i < X.size
                    · have hx := bt_at hlt
                      have hdx := dgs_at HT5.out hlt
                      have HV : Hid (dv (bt X) (i + 1) = dv (bt X) i * 10 + (bt X i - 48)) := Lib.hid rfl
                      obtain ⟨x2, hxx2⟩ : ∃ x, X[i].toNat = x := ⟨_, rfl⟩
                      rw [hxx2] at hx
                      rw [hx] at hdx HV
                      obtain ⟨D, hDD⟩ : ∃ D, dv (bt X) i = D := ⟨_, rfl⟩
                      rw [hDD] at hv HV
                      rw [hDD]
                      clear hx hDD
                      go_wp2_with fail
                      go_round
                      case rel => exact ⟨i + 1, by omega, by go_num, congrArg (Value.int .i64) (by rw [HV.out]; omega)⟩
                      case measure => simp [intOf]; omega
                    · obtain rfl : i = X.size := by omega
                      have HZ2 := HZ.out
                      obtain ⟨D, hDD⟩ : ∃ D, dv (bt X) X.size = D := ⟨_, rfl⟩
                      rw [hDD] at hv HZ2
                      rw [hDD]
                      have HZ3 := Lib.hid HZ2
                      clear hDD HZ2
                      cases ng
                      all_goals
                        go_wp2_with fail
                        refine (HWH.out _ _ (by omega) (by omega)).mono ?_
                        rintro e w1 ⟨V, E, rfl, hwh, hb1⟩
                        have hzq := HZ3.out
                        have AA := Lib.hid (HSC.out V E (by
                          rw [hzq]
                          refine Eq.mp (congrArg (fun z => Wh neg Dg z V E) ?_) hwh
                          simp
                          omega))
                        have B1 := Lib.hid hb1
                        clear hwh hb1 hzq
                        go_wp2_with fail
                        go_ret2
                        exact ⟨V, E, rfl, AA.out, B1.out⟩
              · have HS : Hid (ScIs s 0 4) := Lib.hid (by
                  refine .inl ⟨?_, rfl, rfl⟩
                  unfold cOk
                  rw [HP.out.2.2.2.2, decide_eq_false hds, Bool.and_false])
                clear hk
                go_wp2_with fail
                go_ret2
                exact ⟨0, 4, rfl, HS.out, HB0.out⟩
end Go.Proofs.YtljbnnpmnoejeaaGreatDoor.nn
namespace Go.Proofs.YtljbnnpmnoejeaaGreatDoor.nn
open Go.RowKit

set_option maxRecDepth 100000 in
set_option maxHeartbeats 1000000 in
theorem nrun_any (s : ByteArray) (a : Nat) (w : World) (hs : s.size ≤ 4611686018427387904) (ha : a ≤ s.size) :
    Calls Tryz.prog 37 #[.string s, .int .i64 (a : Int)] w fun e w' => e = .returned (.int .i64 (rn s a : Int)) ∧ w = w' := by
  go_enter Tryz.func37, Tryz.ntmps37
  go_wp2
  go_loop [5] (fun s5 => ∃ i : Nat, a + i ≤ s.size ∧ s5 = .int .i64 (i : Int) ∧ Hid (dgs (fun j => bt s (a + j)) i = true)) (fun s5 => s.size - a - (intOf s5).toNat)
  case atStart => exact ⟨0, by omega, rfl, Lib.hid rfl⟩
  case round =>
    obtain ⟨i, hi, rfl, hd⟩ := hrel
    by_cases hlt : a + i < s.size
    · have hx := bt_at hlt
      obtain ⟨x, hxx⟩ : ∃ x, s[a + i].toNat = x := ⟨_, rfl⟩
      have hx256 : x < 256 := by rw [← hxx]; exact s[a + i].toNat_lt
      rw [hxx] at hx
      have t1 : ((a : Int) + (i : Int)).toNat = a + i := by omega
      by_cases hy : 48 ≤ x ∧ x ≤ 57
      · have HD : Hid (dgs (fun j => bt s (a + j)) (i + 1) = true) := Lib.hid (by rw [dgs, hd.out, hx]; exact decide_eq_true hy)
        obtain ⟨h1, h2⟩ := hy
        clear hx
        go_wp2
        go_round
        case rel => exact ⟨i + 1, by omega, by go_num, HD⟩
        case measure => simp [intOf]; omega
      · have HD : Hid (rn s a = i) := Lib.hid (dc_eq (by omega) hd.out (.inr (by show dg (bt s (a + i)) = false; rw [hx]; exact decide_eq_false hy)))
        clear hx
        by_cases h1 : 48 ≤ x
        · have h2 : 57 < x := by omega
          clear hy
          go_wp2
          go_ret
          exact ⟨ret_int (by rw [HD.out]), rfl⟩
        · clear hy
          go_wp2
          go_ret
          exact ⟨ret_int (by rw [HD.out]), rfl⟩
    · have HD : Hid (rn s a = i) := Lib.hid (dc_eq (by omega) hd.out (.inl (by omega)))
      go_wp2
      go_ret
      exact ⟨ret_int (by rw [HD.out]), rfl⟩
/-- the error of a digit that is not there -/
def nbE (s : ByteArray) (a : Nat) : Nat := if s.size ≤ a then 3 else 4
set_option maxRecDepth 100000 in
set_option maxHeartbeats 1000000 in
theorem nbad_any (s : ByteArray) (a : Nat) (w : World) (_ : s.size ≤ 4611686018427387904) (ha : a ≤ s.size) :
    Calls Tryz.prog 38 #[.string s, .int .i64 (a : Int)] w fun e w' => e = .returned (.tuple #[.int .i64 (a : Int), .int .i64 (nbE s a : Int)]) ∧ w = w' := by
  unfold nbE
  by_cases h : s.size ≤ a
  · obtain rfl : a = s.size := by omega
    rw [if_pos h]
    go_enter Tryz.func38, Tryz.ntmps38
    go_wp2_with fail
    go_ret2
    exact ⟨rfl, rfl⟩
  · rw [if_neg h]
    go_enter Tryz.func38, Tryz.ntmps38
    go_wp2_with fail
    go_ret2
    exact ⟨rfl, rfl⟩
/-- what is told of a number at the beginning -/
def NmAns (s : ByteArray) (w : World) (e : Ending) (w' : World) : Prop := ∃ p E : Nat, e = .returned (.tuple #[.int .i64 (p : Int), .int .i64 (E : Int)]) ∧ NmIs s p E ∧ Below w.heap.size w w'
/-- behind the whole part -/
structure Beh (s : ByteArray) (p q : Nat) : Prop where
  at_ : At s p q
  st : q = 2 ∨ q = 3 ∨ q = 5
  dg : p < s.size → q ≠ 2 → nn.dg (bt s p) = false
theorem Beh.first {s : ByteArray} {a q : Nat} (h : At s a q) (hq : q = 0 ∨ q = 1) (hn : 0 < rn s a) : ∃ q', Beh s (a + (if bt s a = 48 then 1 else rn s a)) q' ∧ (q' = 2 ∨ q' = 3) := by
  obtain ⟨h1, h2⟩ := h.first hq hn
  by_cases e : bt s a = 48
  · rw [if_pos e]
    exact ⟨2, ⟨h1 e, .inl rfl, fun _ g => absurd rfl g⟩, .inl rfl⟩
  · rw [if_neg e]
    exact ⟨3, ⟨h2 e, .inr (.inl rfl), fun hl _ => by
      rcases (rn_facts s a).2 with g | g
      · have := rn_le s a; have := h.1; omega
      · exact g⟩, .inr rfl⟩
theorem Beh.point {s : ByteArray} {p q : Nat} (h : Beh s p q) (hq : q = 2 ∨ q = 3) (hd : nn.at_ s p 46 = true) : At s (p + 1) 4 := by
  obtain ⟨h1, h2⟩ := at_le hd
  refine h.at_.step h1 h2 ?_
  rcases hq with rfl | rfl <;> rfl
theorem Beh.frac {s : ByteArray} {p : Nat} (h : At s p 4) (hn : 0 < rn s p) : Beh s (p + rn s p) 5 := by
  refine ⟨h.digits (.inl ⟨rfl, rfl⟩) hn, .inr (.inr rfl), fun hl _ => ?_⟩
  rcases (rn_facts s p).2 with g | g
  · have := rn_le s p; have := h.1; omega
  · exact g
theorem Beh.exp {s : ByteArray} {p q : Nat} (h : Beh s p q) (hd : (nn.at_ s p 101 || nn.at_ s p 69) = true) : At s (p + 1) 6 := by
  rw [Bool.or_eq_true] at hd
  have hq := h.st
  rcases hd with hd | hd
  · obtain ⟨h1, h2⟩ := at_le hd
    refine h.at_.step h1 h2 ?_
    rcases hq with rfl | rfl | rfl <;> rfl
  · obtain ⟨h1, h2⟩ := at_le hd
    refine h.at_.step h1 h2 ?_
    rcases hq with rfl | rfl | rfl <;> rfl
theorem Beh.fine {s : ByteArray} {p q : Nat} (h : Beh s p q) (hd : (nn.at_ s p 101 || nn.at_ s p 69) = false) (hp : (q = 2 ∨ q = 3) → nn.at_ s p 46 = false) : NmIs s p 0 := by
  rw [Bool.or_eq_false_iff] at hd
  refine h.at_.fine (by have := h.st; omega) h.dg (fun hl hq e => ?_) (fun hl _ => ⟨fun e => ?_, fun e => ?_⟩)
  · have := of_decide_eq_false (hp hq); exact this ⟨hl, e⟩
  · have := of_decide_eq_false hd.1; exact this ⟨hl, e⟩
  · have := of_decide_eq_false hd.2; exact this ⟨hl, e⟩
theorem At.signed {s : ByteArray} {p : Nat} (h : At s p 6) (hd : (nn.at_ s p 43 || nn.at_ s p 45) = true) : At s (p + 1) 7 := by
  rw [Bool.or_eq_true] at hd
  rcases hd with hd | hd
  · obtain ⟨h1, h2⟩ := at_le hd
    exact h.step h1 h2 rfl
  · obtain ⟨h1, h2⟩ := at_le hd
    exact h.step h1 h2 rfl
theorem At.last {s : ByteArray} {p q : Nat} (h : At s p q) (hq : q = 6 ∨ q = 7) (hn : 0 < rn s p) : NmIs s (p + rn s p) 0 := by
  refine (h.digits (.inr ⟨hq, rfl⟩) hn).fine (.inr (.inr (.inr rfl))) (fun hl _ => ?_) (fun _ g => by omega) (fun _ g => absurd rfl g)
  rcases (rn_facts s p).2 with g | g
  · have := rn_le s p; have := h.1; omega
  · exact g
theorem at_neg {s : ByteArray} : At s (cA s) (if nn.at_ s 0 45 = true then 1 else 0) := by
  unfold cA
  cases h : nn.at_ s 0 45 with
  | true =>
    obtain ⟨h1, h2⟩ := at_le h
    exact (At.zero s).step h1 h2 rfl
  | false => exact At.zero s

set_option maxRecDepth 100000 in
set_option maxHeartbeats 8000000 in
theorem nscan_any (s : ByteArray) (w : World) (hs : s.size ≤ 4611686018427387904) :
    Calls Tryz.prog 17 #[.string s] w (NmAns s w) := by
  have a1 := cA_le s
  have HR := Lib.hid (fun a W (ha : a ≤ s.size) => nrun_any s a W hs ha)
  have HBD := Lib.hid (fun a W (ha : a ≤ s.size) => nbad_any s a W hs ha)
  have HA0 := Lib.hid (at_neg (s := s))
  have HB0 := Lib.hid (Below.refl w.heap.size w)
  by_cases h0 : s.size = 0
  · have hr : rn s 0 = 0 := by have := rn_le s 0; omega
    have R0 := Lib.hid (fun W => HR.out 0 W (by omega))
    have B0 := Lib.hid (fun W => HBD.out 0 W (by omega))
    rw [hr] at R0
    have HN : Hid (NmIs s 0 (nbE s 0)) := Lib.hid ((At.zero s).bad (.inl rfl) hr (fun _ h => by omega) (fun h => by omega))
    obtain rfl := nil_text h0
    clear hr h0 HA0 a1 hs
    go_enter Tryz.func17, Tryz.ntmps17
    go_wp2_with fail
    refine (R0.out _).mono ?_
    rintro e w' ⟨rfl, rfl⟩
    go_wp2_with fail
    refine (B0.out _).mono ?_
    rintro e w' ⟨rfl, rfl⟩
    go_wp2_with fail
    go_ret2
    exact ⟨0, _, rfl, HN.out, HB0.out⟩
  have hpos : 0 < s.size := by omega
  obtain ⟨x, hxx, hx, hx256⟩ := byte_of hpos
  have hne := not_nil_text hpos
  have hneg : ((x : Int) == 45) = at_ s 0 45 := by
    unfold at_
    rw [hx]
    by_cases h : x = 45
    · rw [decide_eq_true ⟨hpos, h⟩]; subst h; rfl
    · rw [decide_eq_false (fun g => h g.2), beq_eq_false_iff_ne]; omega
  have hA : cA s = if at_ s 0 45 = true then 1 else 0 := rfl
  have HX0 : Hid (at_ s 0 45 = false → bt s 0 ≠ 45) := Lib.hid fun h g => of_decide_eq_false h ⟨hpos, g⟩
  obtain ⟨neg, hng⟩ : ∃ b, at_ s 0 45 = b := ⟨_, rfl⟩
  rw [hng] at hneg hA HA0 HX0
  obtain ⟨a, ha⟩ : ∃ a, cA s = a := ⟨_, rfl⟩
  rw [ha] at hA HA0 a1
  have HA := Lib.hid hA
  clear hA hx hng ha h0
  go_enter Tryz.func17, Tryz.ntmps17
  go_upto_if 12 with (fail)
  go_cut [4] (fun s4 wx => s4 = .int .i64 (a : Int) ∧ wx = w)
  case first =>
    cases neg
    all_goals
      go_wp2_with fail
      go_meet
      exact ⟨by rw [HA.out]; rfl, rfl⟩
  case rest =>
    obtain ⟨rfl, hww⟩ := hcut
    obtain rfl : w = wc := hww.symm
    clear hxx hne hneg
    obtain ⟨k0, hk0⟩ : ∃ n, rn s a = n := ⟨_, rfl⟩
    have hkl := rn_le s a
    have R0 := Lib.hid (fun W => HR.out a W a1)
    rw [hk0] at R0 hkl
    by_cases hz : k0 = 0
    · have HN : Hid (NmIs s a (nbE s a)) := Lib.hid (by
        refine HA0.out.bad (by cases neg <;> simp) (by rw [hk0, hz]) (fun g hl => ?_) (fun g => by cases neg <;> simp at g)
        cases neg with
        | true => simp at g
        | false =>
          have h := HA.out
          rw [if_neg (by decide)] at h
          rw [h]
          exact HX0.out rfl)
      have B0 := Lib.hid (fun W => HBD.out a W a1)
      subst hz
      clear hk0 HR HBD
      go_wp2_with fail
      refine (R0.out _).mono ?_
      rintro e w' ⟨rfl, rfl⟩
      go_wp2_with fail
      refine (B0.out _).mono ?_
      rintro e w' ⟨rfl, rfl⟩
      go_wp2_with fail
      go_ret2
      exact ⟨a, _, rfl, HN.out, HB0.out⟩
    · have hz' : ((k0 : Int) == 0) = false := by rw [beq_eq_false_iff_ne]; omega
      have hal : a < s.size := by omega
      obtain ⟨y, hyy, hy, hy256⟩ := byte_of hal
      have HB1 := Lib.hid (Beh.first HA0.out (by cases neg <;> simp) (show 0 < rn s a by omega))
      rw [hk0, hy] at HB1
      obtain ⟨k1, hk1⟩ : ∃ n, (if y = 48 then 1 else k0) = n := ⟨_, rfl⟩
      rw [hk1] at HB1
      have HK1 := Lib.hid hk1
      have hk1l : a + k1 ≤ s.size := by rw [← hk1]; split <;> omega
      have h48 : ((y : Int) == 48) = decide (y = 48) := by
        by_cases h : y = 48
        · subst h; rfl
        · rw [decide_eq_false h, beq_eq_false_iff_ne]; omega
      clear hk0 hk1 hy
      go_wp2_with fail
      refine (R0.out _).mono ?_
      rintro e w' ⟨rfl, rfl⟩
      go_upto_if 26 with (fail)
      clear hz'
      go_cut [5] (fun s5 wx => s5 = .int .i64 (k1 : Int) ∧ wx = w)
      case first =>
        by_cases h : y = 48
        · subst h
          go_wp2_with fail
          go_meet
          exact ⟨by rw [← HK1.out]; rfl, rfl⟩
        · rw [decide_eq_false h]
          go_wp2_with fail
          go_meet
          exact ⟨by rw [← HK1.out, if_neg h], rfl⟩
      case rest =>
        obtain ⟨rfl, hww⟩ := hcut
        obtain rfl : w = wc := hww.symm
        obtain ⟨p, hp⟩ : ∃ p, a + k1 = p := ⟨_, rfl⟩
        have kp : (a : Int) + (k1 : Int) = (p : Int) := by omega
        rw [hp] at HB1 hk1l
        obtain ⟨q, hB, hq⟩ := HB1.out
        have HQ := Lib.hid (And.intro hB hq)
        clear hyy h48 hB hq HB1 hp hz
        go_upto_region 10 with fail
        clear kp
        go_cut [39] (fun s39 wx => s39 = .bool (at_ s p 46) ∧ wx = w)
        case first =>
          by_cases hbl : p < s.size
          · obtain ⟨z, hzz, hz, hz256⟩ := byte_of hbl
            by_cases h46 : z = 46
            · subst h46
              have hdt : Hid (at_ s p 46 = true) := Lib.hid (decide_eq_true ⟨hbl, hz⟩)
              clear hz
              go_wp2_with fail
              go_meet
              exact ⟨by rw [hdt.out], rfl⟩
            · have hdt : Hid (at_ s p 46 = false) := Lib.hid (decide_eq_false (fun g => h46 (hz.symm.trans g.2)))
              have hne46 : ((z : Int) == 46) = false := by rw [beq_eq_false_iff_ne]; omega
              clear hz h46
              go_wp2_with fail
              go_meet
              exact ⟨by rw [hdt.out], rfl⟩
          · have hdt : Hid (at_ s p 46 = false) := Lib.hid (decide_eq_false (fun g => hbl g.1))
            go_wp2_with fail
            go_meet
            exact ⟨by rw [hdt.out], rfl⟩
        case rest =>
          obtain ⟨rfl, hww⟩ := hcut
          obtain rfl : w = wc := hww.symm
          go_upto_if 39 with (fail)
          go_cut [4] (fun s4 wx => (∃ c q', s4 = .int .i64 ((c : Nat) : Int) ∧ c ≤ s.size ∧ Hid (Beh s c q' ∧ ((q' = 2 ∨ q' = 3) → at_ s c 46 = false))) ∧ wx = w)
          case first =>
            cases hdt : at_ s p 46 with
            | true =>
              have hA4 := Beh.point HQ.out.1 HQ.out.2 hdt
              have h1 : p + 1 ≤ s.size := hA4.1
              have R1 := Lib.hid (fun W => HR.out (p + 1) W h1)
              have hml := rn_le s (p + 1)
              have HF := Lib.hid (fun h => Beh.frac hA4 h)
              have HZ := Lib.hid (fun h => hA4.bad (.inr (.inr (.inl rfl))) h (fun g => by omega) (fun g => by omega))
              obtain ⟨m, hm⟩ : ∃ m, rn s (p + 1) = m := ⟨_, rfl⟩
              rw [hm] at R1 hml HF HZ
              have R1' : Hid (∀ W, Calls Tryz.prog 37 #[.string s, .int .i64 ((p : Int) + 1)] W fun e w' => e = .returned (.int .i64 (m : Int)) ∧ W = w') := R1
              have B1' : Hid (∀ W, Calls Tryz.prog 38 #[.string s, .int .i64 ((p : Int) + 1)] W fun e w' => e = .returned (.tuple #[.int .i64 ((p + 1 : Nat) : Int), .int .i64 (nbE s (p + 1) : Int)]) ∧ W = w') := Lib.hid (fun W => HBD.out (p + 1) W h1)
              clear hA4 hm R1 hdt HR HBD
              by_cases hm0 : m = 0
              · have HN : Hid (NmIs s (p + 1) (nbE s (p + 1))) := Lib.hid (HZ.out hm0)
                subst hm0
                clear HZ HF
                go_wp2_with fail
                refine (R1'.out _).mono ?_
                rintro e w' ⟨rfl, rfl⟩
                go_wp2_with fail
                refine (B1'.out _).mono ?_
                rintro e w' ⟨rfl, rfl⟩
                go_wp2_with fail
                go_ret2
                exact ⟨p + 1, _, rfl, HN.out, HB0.out⟩
              · have hm' : ((m : Int) == 0) = false := by rw [beq_eq_false_iff_ne]; omega
                have HF2 := Lib.hid (HF.out (by omega))
                clear HF HZ
                go_wp2_with fail
                refine (R1'.out _).mono ?_
                rintro e w' ⟨rfl, rfl⟩
                go_wp2_with fail
                go_meet
                exact ⟨⟨p + 1 + m, 5, by go_num, by omega, Lib.hid ⟨HF2.out, fun g => by omega⟩⟩, rfl⟩
            | false =>
              have HDT := Lib.hid hdt
              clear hdt
              go_wp2_with fail
              go_meet
              exact ⟨⟨p, q, rfl, hk1l, Lib.hid ⟨HQ.out.1, fun _ => HDT.out⟩⟩, rfl⟩
          case rest =>
            obtain ⟨⟨c, q', rfl, hcs, hBQ⟩, hww⟩ := hcut
            obtain rfl : w = wc := hww.symm
            clear HQ hk1l
            go_upto_region 15 with fail
            go_cut [71] (fun s71 wx => s71 = .bool (at_ s c 101 || at_ s c 69) ∧ wx = w)
            case first =>
              by_cases hcl : c < s.size
              · obtain ⟨z, hzz, hz, hz256⟩ := byte_of hcl
                by_cases h1 : z = 101
                · subst h1
                  have hdt : Hid ((at_ s c 101 || at_ s c 69) = true) := Lib.hid (by rw [show at_ s c 101 = true from decide_eq_true ⟨hcl, hz⟩]; rfl)
                  clear hz
                  go_wp2_with fail
                  go_meet
                  exact ⟨by rw [hdt.out], rfl⟩
                · have g1 : at_ s c 101 = false := decide_eq_false (fun g => h1 (hz.symm.trans g.2))
                  have hne1 : ((z : Int) == 101) = false := by rw [beq_eq_false_iff_ne]; omega
                  by_cases h2 : z = 69
                  · subst h2
                    have hdt : Hid ((at_ s c 101 || at_ s c 69) = true) := Lib.hid (by rw [show at_ s c 69 = true from decide_eq_true ⟨hcl, hz⟩, Bool.or_true])
                    clear hz h1 g1
                    go_wp2_with fail
                    go_meet
                    exact ⟨by rw [hdt.out], rfl⟩
                  · have hdt : Hid ((at_ s c 101 || at_ s c 69) = false) := Lib.hid (by rw [g1, show at_ s c 69 = false from decide_eq_false (fun g => h2 (hz.symm.trans g.2))]; rfl)
                    have hne2 : ((z : Int) == 69) = false := by rw [beq_eq_false_iff_ne]; omega
                    clear hz h1 h2 g1
                    go_wp2_with fail
                    go_meet
                    exact ⟨by rw [hdt.out], rfl⟩
              · have hdt : Hid ((at_ s c 101 || at_ s c 69) = false) := Lib.hid (by rw [show at_ s c 101 = false from decide_eq_false (fun g => hcl g.1), show at_ s c 69 = false from decide_eq_false (fun g => hcl g.1)]; rfl)
                go_wp2_with fail
                go_meet
                exact ⟨by rw [hdt.out], rfl⟩
            case rest =>
              obtain ⟨rfl, hww⟩ := hcut
              obtain rfl : w = wc := hww.symm
              cases hE : (at_ s c 101 || at_ s c 69) with
              | false =>
                have HN : Hid (NmIs s c 0) := Lib.hid (hBQ.out.1.fine hE hBQ.out.2)
                clear hE
                go_wp2_with fail
                go_ret2
                exact ⟨c, 0, rfl, HN.out, HB0.out⟩
              | true =>
                have h6 := hBQ.out.1.exp hE
                have hc1 : c + 1 ≤ s.size := h6.1
                have H6 := Lib.hid h6
                obtain ⟨r, hr⟩ : ∃ r, c + 1 = r := ⟨_, rfl⟩
                have kr : (c : Int) + 1 = (r : Int) := by omega
                rw [hr] at H6 hc1
                clear hE h6 hr
                go_upto_region 17 with fail
                clear kr
                go_cut [89] (fun s89 wx => s89 = .bool (at_ s r 43 || at_ s r 45) ∧ wx = w)
                case first =>
                  by_cases hcl : r < s.size
                  · obtain ⟨z, hzz, hz, hz256⟩ := byte_of hcl
                    by_cases h1 : z = 43
                    · subst h1
                      have hdt : Hid ((at_ s r 43 || at_ s r 45) = true) := Lib.hid (by rw [show at_ s r 43 = true from decide_eq_true ⟨hcl, hz⟩]; rfl)
                      clear hz
                      go_wp2_with fail
                      go_meet
                      exact ⟨by rw [hdt.out], rfl⟩
                    · have g1 : at_ s r 43 = false := decide_eq_false (fun g => h1 (hz.symm.trans g.2))
                      have hne1 : ((z : Int) == 43) = false := by rw [beq_eq_false_iff_ne]; omega
                      by_cases h2 : z = 45
                      · subst h2
                        have hdt : Hid ((at_ s r 43 || at_ s r 45) = true) := Lib.hid (by rw [show at_ s r 45 = true from decide_eq_true ⟨hcl, hz⟩, Bool.or_true])
                        clear hz h1 g1
                        go_wp2_with fail
                        go_meet
                        exact ⟨by rw [hdt.out], rfl⟩
                      · have hdt : Hid ((at_ s r 43 || at_ s r 45) = false) := Lib.hid (by rw [g1, show at_ s r 45 = false from decide_eq_false (fun g => h2 (hz.symm.trans g.2))]; rfl)
                        have hne2 : ((z : Int) == 45) = false := by rw [beq_eq_false_iff_ne]; omega
                        clear hz h1 h2 g1
                        go_wp2_with fail
                        go_meet
                        exact ⟨by rw [hdt.out], rfl⟩
                  · have hdt : Hid ((at_ s r 43 || at_ s r 45) = false) := Lib.hid (by rw [show at_ s r 43 = false from decide_eq_false (fun g => hcl g.1), show at_ s r 45 = false from decide_eq_false (fun g => hcl g.1)]; rfl)
                    go_wp2_with fail
                    go_meet
                    exact ⟨by rw [hdt.out], rfl⟩
                case rest =>
                  obtain ⟨rfl, hww⟩ := hcut
                  obtain rfl : w = wc := hww.symm
                  go_upto_if 89 with (fail)
                  go_cut [4] (fun s4 wx => (∃ t q2, s4 = .int .i64 ((t : Nat) : Int) ∧ t ≤ s.size ∧ Hid (At s t q2 ∧ (q2 = 6 ∨ q2 = 7) ∧ (q2 = 6 → t < s.size → bt s t ≠ 45 ∧ bt s t ≠ 43))) ∧ wx = w)
                  case first =>
                    cases hS : (at_ s r 43 || at_ s r 45) with
                    | true =>
                      have h7 := H6.out.signed hS
                      have hr1 : r + 1 ≤ s.size := h7.1
                      have H7 := Lib.hid h7
                      clear hS h7
                      go_wp2_with fail
                      go_meet
                      exact ⟨⟨r + 1, 7, by go_num, hr1, Lib.hid ⟨H7.out, .inr rfl, fun g => by omega⟩⟩, rfl⟩
                    | false =>
                      rw [Bool.or_eq_false_iff] at hS
                      have HS := Lib.hid hS
                      clear hS
                      go_wp2_with fail
                      go_meet
                      exact ⟨⟨r, 6, rfl, hc1, Lib.hid ⟨H6.out, .inl rfl, fun _ hl => ⟨fun g => of_decide_eq_false HS.out.2 ⟨hl, g⟩, fun g => of_decide_eq_false HS.out.1 ⟨hl, g⟩⟩⟩⟩, rfl⟩
                  case rest =>
                    obtain ⟨⟨t, q2, rfl, hts, hT⟩, hww⟩ := hcut
                    obtain rfl : w = wc := hww.symm
                    have R2 := Lib.hid (fun W => HR.out t W hts)
                    have B2 := Lib.hid (fun W => HBD.out t W hts)
                    have hml := rn_le s t
                    have HZ := Lib.hid (fun h => hT.out.1.bad (by have := hT.out.2.1; omega) h (fun g => by have := hT.out.2.1; omega) hT.out.2.2)
                    have HL := Lib.hid (fun h => hT.out.1.last hT.out.2.1 h)
                    obtain ⟨m, hm⟩ : ∃ m, rn s t = m := ⟨_, rfl⟩
                    rw [hm] at R2 hml HZ HL
                    clear hm HR HBD
                    by_cases hm0 : m = 0
                    · have HN : Hid (NmIs s t (nbE s t)) := Lib.hid (HZ.out hm0)
                      subst hm0
                      clear HZ HL
                      go_wp2_with fail
                      refine (R2.out _).mono ?_
                      rintro e w' ⟨rfl, rfl⟩
                      go_wp2_with fail
                      refine (B2.out _).mono ?_
                      rintro e w' ⟨rfl, rfl⟩
                      go_wp2_with fail
                      go_ret2
                      exact ⟨t, _, rfl, HN.out, HB0.out⟩
                    · have hm' : ((m : Int) == 0) = false := by rw [beq_eq_false_iff_ne]; omega
                      have HN := Lib.hid (HL.out (by omega))
                      clear HL HZ
                      go_wp2_with fail
                      refine (R2.out _).mono ?_
                      rintro e w' ⟨rfl, rfl⟩
                      go_wp2_with fail
                      go_ret2
                      exact ⟨t + m, 0, by go_num, HN.out, HB0.out⟩
end Go.Proofs.YtljbnnpmnoejeaaGreatDoor.nn
namespace Go.Proofs.YtljbnnpmnoejeaaGreatDoor.nn
open Go.RowKit

set_option maxRecDepth 100000 in
set_option maxHeartbeats 1000000 in
theorem rscan_empty (s : ByteArray) (w : World) (h : s.size = 0) :
    Calls Tryz.prog 19 #[.string s] w (ScAns s w) := by
  have hr : rn s 0 = 0 := by have := rn_le s 0; omega
  have hA : cA s = 0 := if_neg (by have : at_ s 0 45 = false := decide_eq_false (fun g => by omega); rw [this]; decide)
  have HS : Hid (ScIs s 0 4) := Lib.hid (.inl ⟨by unfold cOk; rw [hA, hr]; simp, rfl, rfl⟩)
  have R0 := Lib.hid (fun W => run_any s 0 W (by omega) (by omega))
  rw [hr] at R0
  have HB0 := Lib.hid (Below.refl w.heap.size w)
  obtain rfl := nil_text h
  clear hr hA h
  go_enter Tryz.func19, Tryz.ntmps19
  go_wp2_with fail
  refine (R0.out _).mono ?_
  rintro e w' ⟨rfl, rfl⟩
  go_wp2_with fail
  go_ret2
  exact ⟨0, 4, rfl, HS.out, HB0.out⟩
set_option maxRecDepth 100000 in
set_option maxHeartbeats 1000000 in
theorem rscan_none (s : ByteArray) (w : World) (hs : s.size ≤ 140737488351232) (h0 : 0 < s.size) (hr : rn s (cA s) = 0) :
    Calls Tryz.prog 19 #[.string s] w (ScAns s w) := by
  have HS : Hid (ScIs s 0 4) := Lib.hid (.inl ⟨by unfold cOk; rw [hr]; simp, rfl, rfl⟩)
  have HB0 := Lib.hid (Below.refl w.heap.size w)
  have hne := not_nil_text h0
  obtain ⟨x, hxx, hx, hx256⟩ := byte_of h0
  by_cases h45 : x = 45
  · subst h45
    have hA : cA s = 1 := if_pos (decide_eq_true ⟨h0, hx⟩)
    have R0 := Lib.hid (fun W => run_any s 1 W hs (by omega))
    rw [hA] at hr
    rw [hr] at R0
    clear hr hA hx
    go_enter Tryz.func19, Tryz.ntmps19
    go_wp2_with fail
    refine (R0.out _).mono ?_
    rintro e w' ⟨rfl, rfl⟩
    go_wp2_with fail
    go_ret2
    exact ⟨0, 4, rfl, HS.out, HB0.out⟩
  · have hA : cA s = 0 := if_neg (by have : at_ s 0 45 = false := decide_eq_false (fun g => h45 (hx.symm.trans g.2)); rw [this]; decide)
    have hne2 : ((x : Int) == 45) = false := by rw [beq_eq_false_iff_ne]; omega
    have R0 := Lib.hid (fun W => run_any s 0 W hs (by omega))
    rw [hA] at hr
    rw [hr] at R0
    clear hr hA hx h45
    go_enter Tryz.func19, Tryz.ntmps19
    go_wp2_with fail
    refine (R0.out _).mono ?_
    rintro e w' ⟨rfl, rfl⟩
    go_wp2_with fail
    go_ret2
    exact ⟨0, 4, rfl, HS.out, HB0.out⟩
end Go.Proofs.YtljbnnpmnoejeaaGreatDoor.nn
