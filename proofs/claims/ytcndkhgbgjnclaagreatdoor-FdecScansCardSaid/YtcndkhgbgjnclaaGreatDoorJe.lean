/- Joined texts: RdD, RdE, RdF, FdParse, FdCut, FdCut2, FdCut3, FdCut4, FdCut5, FdScan, RdG, FdScan2. -/
import Derived.Test.YtcndkhgbgjnclaaGreatDoorShelf
import Derived.Deep.QuietTactic
import Derived.BigQuiet
import Derived.Deep.RegionHeld3
import Derived.Test.YtcndkhgbgjnclaaGreatDoorJd
/- The document's answers of layer 6: over, Power, sign. -/
namespace Go.Proofs.YtcndkhgbgjnclaaGreatDoor.nn
open Go.RowKit

theorem cm_pos {a b : Nat} : (0 ≤ cm a b ↔ b ≤ a) := by
  unfold cm
  constructor
  · intro h
    split at h
    · omega
    · omega
  · intro h
    rw [if_neg (by omega)]
    split <;> omega
set_option maxRecDepth 100000 in
set_option maxHeartbeats 1000000 in
theorem over_any (v u : Value) (X Y m m' : Nat) (z : Int) (B : Bool) (w : World) (hv : U w v X m) (hu : U w u Y m') (hm : m ≤ 2000) (hm' : m' ≤ 2000) (hz1 : -30000 ≤ z) (hz2 : z ≤ 30000) (hB : ge2 X Y z ↔ B = true) :
    Calls Tryz.prog 141 #[v, u, .int .i64 z] w fun e w' => e = .returned (.bool B) ∧ Below w.heap.size w w' := by
  have HTW := Lib.hid (fun n W (hn : n ≤ 100000) => (two_any n W hn : Calls _ _ _ _ (TwAns n W)))
  by_cases h0 : 0 ≤ z
  · obtain ⟨n, rfl⟩ := Int.eq_ofNat_of_zero_le h0
    have hB2 : Y * 2 ^ n ≤ X ↔ B = true := by
      rw [← hB, ge2_iff X Y (show (n : Int) = ((n : Nat) : Int) - ((0 : Nat) : Int) by omega), Nat.pow_zero, Nat.mul_one]
    have HT := Lib.hid (fun u2 W (h : Below w.heap.size w W) (h2 : U W u2 (2 ^ n) (n / 32 + 1)) => rtimes_u u u2 Y (2 ^ n) m' (n / 32 + 1) W (hu.below h) h2 (by omega) (by omega))
    have HV := Lib.hid (fun W (h : Below w.heap.size w W) => hv.below h)
    obtain ⟨P, hP⟩ : ∃ P, Y * 2 ^ n = P := ⟨_, rfl⟩
    rw [hP] at HT hB2
    have hc := cm_pos (a := X) (b := P)
    rw [hB2] at hc
    obtain ⟨c, hcc⟩ : ∃ c, cm X P = c := ⟨_, rfl⟩
    rw [hcc] at hc
    have HC := Lib.hid hcc
    have hn : n ≤ 30000 := by omega
    have HR : Hid (decide (0 ≤ c) = B) := Lib.hid (by
      cases B with
      | true => exact decide_eq_true (hc.2 rfl)
      | false => exact decide_eq_false (fun g => by have := hc.1 g; cases this))
    clear hP hB hB2 hc hcc hv hu hz1 hz2
    go_enter Tryz.func141, Tryz.ntmps141
    go_wp2_with fail
    refine (HTW.out n _ (by omega)).mono ?_
    rintro e w1 ⟨t1, rfl, hU1, hb1⟩
    have B1 := Lib.hid hb1
    have U1 := Lib.hid hU1
    clear hb1 hU1
    go_wp2_with fail
    refine (HT.out _ _ B1.out U1.out).mono ?_
    rintro e w2 ⟨t2, rfl, hN2, hU2, hb2⟩
    have B2 := Lib.hid (B1.out.trans (hb2.mono B1.out.size))
    have U2 := Lib.hid hU2
    clear hb2 hU2 hN2
    go_wp2_with fail
    refine (rcmp_u _ _ X P m _ _ (HV.out _ B2.out) U2.out (by omega) (by omega)).mono ?_
    rw [HC.out]
    rintro e w3 ⟨rfl, hb3⟩
    have B3 := Lib.hid (B2.out.trans (hb3.mono B2.out.size))
    clear hb3
    go_wp2_with fail
    go_ret
    exact ⟨congrArg (fun b => Ending.returned (.bool b)) HR.out, B3.out⟩
  · obtain ⟨n, hn⟩ : ∃ n : Nat, -z = (n : Int) := ⟨(-z).toNat, by omega⟩
    have hB2 : Y ≤ X * 2 ^ n ↔ B = true := by
      rw [← hB, ge2_iff X Y (show z = ((0 : Nat) : Int) - ((n : Nat) : Int) by omega), Nat.pow_zero, Nat.mul_one]
    have HT := Lib.hid (fun u2 W (h : Below w.heap.size w W) (h2 : U W u2 (2 ^ n) (n / 32 + 1)) => rtimes_u v u2 X (2 ^ n) m (n / 32 + 1) W (hv.below h) h2 (by omega) (by omega))
    have HV := Lib.hid (fun W (h : Below w.heap.size w W) => hu.below h)
    obtain ⟨P, hP⟩ : ∃ P, X * 2 ^ n = P := ⟨_, rfl⟩
    rw [hP] at HT hB2
    have hc := cm_pos (a := P) (b := Y)
    rw [hB2] at hc
    obtain ⟨c, hcc⟩ : ∃ c, cm P Y = c := ⟨_, rfl⟩
    rw [hcc] at hc
    have HC := Lib.hid hcc
    have hn3 : n ≤ 30000 := by omega
    have hz3 : z < 0 := by omega
    have HR : Hid (decide (0 ≤ c) = B) := Lib.hid (by
      cases B with
      | true => exact decide_eq_true (hc.2 rfl)
      | false => exact decide_eq_false (fun g => by have := hc.1 g; cases this))
    clear hP hB hB2 hc hcc hv hu hz2 h0
    go_enter Tryz.func141, Tryz.ntmps141
    go_wp2_with fail
    refine (HTW.out n _ (by omega)).mono ?_
    rintro e w1 ⟨t1, rfl, hU1, hb1⟩
    have B1 := Lib.hid hb1
    have U1 := Lib.hid hU1
    clear hb1 hU1
    go_wp2_with fail
    refine (HT.out _ _ B1.out U1.out).mono ?_
    rintro e w2 ⟨t2, rfl, hN2, hU2, hb2⟩
    have B2 := Lib.hid (B1.out.trans (hb2.mono B1.out.size))
    have U2 := Lib.hid hU2
    clear hb2 hU2 hN2
    go_wp2_with fail
    refine (rcmp_u _ _ P Y _ m' _ U2.out (HV.out _ B2.out) (by omega) (by omega)).mono ?_
    rw [HC.out]
    rintro e w3 ⟨rfl, hb3⟩
    have B3 := Lib.hid (B2.out.trans (hb3.mono B2.out.size))
    clear hb3
    go_wp2_with fail
    go_ret
    exact ⟨congrArg (fun b => Ending.returned (.bool b)) HR.out, B3.out⟩

set_option maxRecDepth 100000 in
theorem rsign_any (neg : Bool) (w : World) : Calls Tryz.prog 77 #[.bool neg] w fun e w' => e = .returned (.int .u64 (sB neg : Int)) ∧ w = w' := by
  cases neg
  all_goals
    go_enter Tryz.func77, Tryz.ntmps77
    go_wp2
    go_ret
    exact ⟨rfl, rfl⟩

/-- one limb in a new block -/
theorem U.one (w : World) (x : Nat) (T : TypeId) (hx : x < 2 ^ 32) : U (w.alloc (.cells #[.int .u32 (x : Int)] T)) (.slice (some ⟨w.heap.size, 0, none⟩) 1 1) x 1 :=
  ⟨_, 1, 1, _, rfl, Nat.le_refl _, by simp [maxLen], rd_one w .u32 x T, fun _ _ => hx, by simp [sm], Nat.le_refl _⟩
theorem ten_lt {i m : Nat} (h : 4 * i < 32 * m) : 10 ^ i < 2 ^ (32 * m) := Nat.lt_of_le_of_lt (ten_two i) ((Nat.pow_lt_pow_iff_right (by decide)).2 h)
def PoAns (n : Nat) (w : World) (e : Ending) (w' : World) : Prop := ∃ v, e = .returned v ∧ U w' v (10 ^ n) 400 ∧ Below w.heap.size w w'
set_option maxRecDepth 100000 in
set_option maxHeartbeats 1000000 in
theorem power_any (n : Nat) (w : World) (hn : n ≤ 3000) : Calls Tryz.prog 102 #[.int .i64 (n : Int)] w (PoAns n w) := by
  have H1 := Lib.hid (U.one w 1 100 (by decide))
  rw [show ((1 : Nat) : Int) = 1 from rfl] at H1
  have B1 := Lib.hid ((Below.refl w.heap.size w).alloc (Nat.le_refl _) (.cells #[.int .u32 1] 100))
  have HT := Lib.hid (fun v W i (hi : i ≤ 3000) (h : U W v (10 ^ i) 400) => by
    have := rtimes_u v _ (10 ^ i) 10 400 1 _ (h.alloc _) (U.one W 10 100 (by decide)) (by omega) (by omega)
    rw [← Nat.pow_succ, show ((10 : Nat) : Int) = 10 from rfl] at this
    exact this)
  go_enter Tryz.func102, Tryz.ntmps102
  go_wp2_with fail
  go_loopw [3, 4] (fun s3 s4 wr => ∃ i : Nat, i ≤ n ∧ s4 = .int .i64 (i : Int) ∧ Hid (U wr s3 (10 ^ i) 400 ∧ Below w.heap.size w wr)) (fun _ s4 _ => n - (intOf s4).toNat)
  case atStart => exact ⟨0, Nat.zero_le _, rfl, Lib.hid ⟨H1.out.wide (by omega), B1.out⟩⟩
  case round =>
    obtain ⟨i, hi, rfl, hH⟩ := hrel
    by_cases hlt : i < n
    · have HM := Lib.hid (fun W => HT.out u3 W i (by omega))
      go_wp2_with fail
      refine (HM.out _ hH.out.1).mono ?_
      rintro e w1 ⟨v1, rfl, hN1, _, hb1⟩
      have B2 := Lib.hid ((hH.out.2.alloc hH.out.2.size _).trans (hb1.mono (by have := hH.out.2.size; rw [hsz]; omega)))
      have U2 := Lib.hid (U.of (m := 400) hN1 (ten_lt (m := 400) (by omega)))
      clear hb1 hN1
      go_wp2_with fail
      go_roundw
      case rel => exact ⟨i + 1, by omega, by go_num, Lib.hid ⟨U2.out, B2.out⟩⟩
      case measure => simp [intOf]; omega
    · obtain rfl : i = n := by omega
      go_wp2_with fail
      go_ret
      exact ⟨_, rfl, hH.out.1, hH.out.2⟩
end Go.Proofs.YtcndkhgbgjnclaaGreatDoor.nn
/- The document's answers of layer 6: nearest. -/
namespace Go.Proofs.YtcndkhgbgjnclaaGreatDoor.nn
open Go.RowKit

theorem and_one (Q : Nat) (hQ : Q < 18446744073709551616) : bits .and .u64 (Q : Int) 1 = ((Q % 2 : Nat) : Int) := by
  have := u64_and_nat Q 1 hQ (by decide)
  rw [show ((1 : Nat) : Int) = 1 from rfl] at this
  rw [this, Nat.and_one_is_mod]
def RneAns (X Y : Nat) (w : World) (e : Ending) (w' : World) : Prop :=
  ∃ b, Near (X * 2 ^ e74) Y b ∧ e = .returned (.tuple #[.int .u64 (neV b : Int), .int .i64 (roE b : Int)]) ∧ Below w.heap.size w w'
theorem ro_yes {b : Nat} (h : b < inf) : neV b = b ∧ roE b = 0 := ⟨if_pos h, if_pos h⟩
theorem ro_no {b : Nat} (h : inf ≤ b) : neV b = 0 ∧ roE b = 8 := ⟨if_neg (by omega), if_neg (by omega)⟩
theorem ret_ui {a b : Int} {c d : Int} (h : a = b) (g : c = d) : Ending.returned (.tuple #[.int .u64 a, .int .i64 c]) = .returned (.tuple #[.int .u64 b, .int .i64 d]) := by rw [h, g]

set_option maxRecDepth 100000 in
set_option maxHeartbeats 4000000 in
theorem rnearest_any (v y : Value) (X Y m m' : Nat) (w : World) (hv : U w v X m) (hy : U w y Y m') (hm : m ≤ 900) (hm' : m' ≤ 900) (hX : X < 2 ^ b20) (hY : Y < 2 ^ b20) (hX0 : X ≠ 0) (h0 : 0 < Y) :
    Calls Tryz.prog 114 #[v, y] w (RneAns X Y w) := by
  have HV := Lib.hid (And.intro hv hy)
  have lx := bl_le hX
  have ly := bl_le hY
  rw [b20_eq] at lx ly
  obtain ⟨x1, x2⟩ := bl_ge hX0
  obtain ⟨y1, y2⟩ := bl_ge (show Y ≠ 0 by omega)
  obtain ⟨g1, g2⟩ := ge2_bits x1 x2 (bl_lt X) y1 y2 (bl_lt Y)
  have HBX := Lib.hid (rbits_u v X m w hv (by omega))
  have HBY := Lib.hid (fun W (hW : Below w.heap.size w W) => rbits_u y Y m' W (hy.below hW) (by omega))
  obtain ⟨a, ha⟩ : ∃ a, bl X = a := ⟨_, rfl⟩
  obtain ⟨b0, hb0⟩ : ∃ b, bl Y = b := ⟨_, rfl⟩
  rw [ha] at g1 g2 lx HBX
  rw [hb0] at g1 g2 ly HBY
  obtain ⟨n, hn⟩ : ∃ n : Int, (a : Int) - (b0 : Int) = n := ⟨_, rfl⟩
  have hn1 : -20000 ≤ n := by omega
  have hn2 : n ≤ 20000 := by omega
  rw [show (a : Int) - (b0 : Int) - 1 = n - 1 by omega] at g1
  rw [show (a : Int) - (b0 : Int) + 1 = n + 1 by omega] at g2
  obtain ⟨B, hB⟩ : ∃ B : Bool, ge2 X Y n ↔ B = true := by
    by_cases h : ge2 X Y n
    · exact ⟨true, fun _ => rfl, fun _ => h⟩
    · exact ⟨false, fun g => absurd g h, fun g => by cases g⟩
  have HO := Lib.hid (fun W (hW : Below w.heap.size w W) => over_any v y X Y m m' n B W (hv.below hW) (hy.below hW) (by omega) (by omega) (by omega) (by omega) hB)
  obtain ⟨h, hh⟩ : ∃ h : Int, h = if B = true then n else n - 1 := ⟨_, rfl⟩
  have hi : HiIs X Y h := by
    right
    refine ⟨hX0, ?_⟩
    cases B with
    | true => rw [hh, if_pos rfl]; exact ⟨hB.2 rfl, g2⟩
    | false =>
      rw [hh, if_neg (by decide)]
      refine ⟨g1, fun g => ?_⟩
      rw [Int.sub_add_cancel] at g
      have := hB.1 g
      cases this
  obtain ⟨u, hu⟩ : ∃ u, max (h - 52) (-1074) = u := ⟨_, rfl⟩
  have hU := unit_of h0 hi hu
  have hlu := hU.least
  have hhb : -20001 ≤ h ∧ h ≤ 20000 := by rw [hh]; split <;> omega
  have hup : u ≤ 20001 := by omega
  obtain ⟨X', hX'⟩ : ∃ X', X' = X * 2 ^ (-u).toNat := ⟨_, rfl⟩
  obtain ⟨Y', hY'⟩ : ∃ Y', Y' = Y * 2 ^ u.toNat := ⟨_, rfl⟩
  obtain ⟨k, hk⟩ : ∃ k, (u + 1074).toNat = k := ⟨_, rfl⟩
  have hk0 : u + 1074 = (k : Int) := by omega
  have hY0 : 0 < Y' := by rw [hY']; exact Nat.mul_pos h0 (Nat.two_pow_pos _)
  have key := fun up hq => near_unit h0 hU hX' hY' (up := up) hq
  rw [hk] at key
  obtain ⟨Q, hQ⟩ : ∃ Q, X' / Y' = Q := ⟨_, rfl⟩
  obtain ⟨R, hR⟩ : ∃ R, X' % Y' = R := ⟨_, rfl⟩
  rw [hQ, hR] at key
  obtain ⟨up, hup2⟩ : ∃ up, up = if Y' < 2 * R ∨ (2 * R = Y' ∧ Q % 2 = 1) then 1 else 0 := ⟨_, rfl⟩
  obtain ⟨q1, q2, near⟩ := key up hup2
  have hu01 : up ≤ 1 := by rw [hup2]; split <;> omega
  have hXq : X' < Y' * 2 ^ 63 := by
    have h1 : X' < 2 * h52 * Y' := by rw [← hQ] at q1; exact (Nat.div_lt_iff_lt_mul hY0).1 q1
    have h2 : 2 * h52 ≤ 2 ^ 63 := by decide
    rw [Nat.mul_comm]
    exact Nat.lt_of_lt_of_le h1 (Nat.mul_le_mul_right Y' h2)
  have HQ := Lib.hid (fun v1 u1 W (h1 : U W v1 X' 1600) (h2 : U W u1 Y' 1600) => quot_any v1 u1 X' Y' 1600 1600 W h1 h2 (by omega) (by omega) hY0 hXq)
  unfold QuAns at HQ
  rw [hQ, hR] at HQ
  obtain ⟨c, hc⟩ : ∃ c, cm (R * 2) Y' = c := ⟨_, rfl⟩
  have cases4 : (c = 1 ∧ up = 1) ∨ (c = 0 ∧ Q % 2 = 1 ∧ up = 1) ∨ (c = 0 ∧ Q % 2 = 0 ∧ up = 0) ∨ (c = -1 ∧ up = 0) := by
    rcases Nat.lt_trichotomy (R * 2) Y' with g | g | g
    · rw [cm_lt g] at hc
      rw [if_neg (by omega)] at hup2
      exact .inr (.inr (.inr ⟨hc.symm, hup2⟩))
    · rw [cm_eq g] at hc
      by_cases par : Q % 2 = 1
      · rw [if_pos (by omega)] at hup2
        exact .inr (.inl ⟨hc.symm, par, hup2⟩)
      · rw [if_neg (by omega)] at hup2
        exact .inr (.inr (.inl ⟨hc.symm, by omega, hup2⟩))
    · rw [cm_gt g] at hc
      rw [if_pos (by omega)] at hup2
      exact .inl ⟨hc.symm, hup2⟩
  have HC := Lib.hid (fun v1 u1 W (h1 : U W v1 (R * 2) 1700) (h2 : U W u1 Y' 1600) => rcmp_u v1 u1 (R * 2) Y' 1700 1600 W h1 h2 (by omega) (by omega))
  rw [hc] at HC
  have HTW := Lib.hid (fun n W (hn : n ≤ 100000) => (two_any n W hn : Calls _ _ _ _ (TwAns n W)))
  have HR2 := Lib.hid (fun v1 W (h : U W v1 R 1600) => by
    have := rtimes_u v1 _ R 2 1600 1 _ (h.alloc _) (U.one W 2 100 (by decide)) (by omega) (by omega)
    rw [show ((2 : Nat) : Int) = 2 from rfl] at this
    exact this)
  obtain ⟨C, hC⟩ : ∃ C, Q + up = C := ⟨_, rfl⟩
  obtain ⟨b, hb⟩ : ∃ b, k * h52 + C = b := ⟨_, rfl⟩
  rw [hC, hb] at near
  have HN := Lib.hid near
  have hb2 : b = k * 4503599627370496 + C := hb.symm
  have q1' : Q < 9007199254740992 := q1
  have q2' : u = -1074 ∨ 4503599627370496 ≤ Q := q2
  have hQA := and_one Q (by omega)
  obtain ⟨qi, hqi⟩ : ∃ qi : Int, (Q : Int) = qi := ⟨_, rfl⟩
  obtain ⟨ci, hci⟩ : ∃ ci : Int, (C : Int) = ci := ⟨_, rfl⟩
  have hcu : ci = qi + (up : Int) := by omega
  have hbi : (b : Int) = (k : Int) * 4503599627370496 + ci := by omega
  have qi1 : qi < 9007199254740992 := by omega
  have qi0 : 0 ≤ qi := by omega
  have qi2 : u = -1074 ∨ 4503599627370496 ≤ qi := by omega
  rw [hqi] at HQ hQA
  have HI : inf = 9218868437227405312 := inf_eq
  have HII := Lib.hid HI
  have hmY : ∀ W t, 0 ≤ u → U W t (2 ^ u.toNat) (u.toNat / 32 + 1) → Below w.heap.size w W → Calls Tryz.prog 59 #[y, t] W (UA W Y' 1600) := fun W t hu0 ht hW => by
    have := rtimes_u y t Y (2 ^ u.toNat) m' (u.toNat / 32 + 1) W (hy.below hW) ht (by omega) (by omega)
    rw [← hY'] at this
    exact this.mono fun e w' ⟨v, h1, h2, h3, h4⟩ => ⟨v, h1, h2, h3.wide (by omega), h4⟩
  have hmX : ∀ W t, U W t (2 ^ (-u).toNat) ((-u).toNat / 32 + 1) → Below w.heap.size w W → Calls Tryz.prog 59 #[v, t] W (UA W X' 1600) := fun W t ht hW => by
    have := rtimes_u v t X (2 ^ (-u).toNat) m ((-u).toNat / 32 + 1) W (hv.below hW) ht (by omega) (by omega)
    rw [← hX'] at this
    exact this.mono fun e w' ⟨v, h1, h2, h3, h4⟩ => ⟨v, h1, h2, h3.wide (by omega), h4⟩
  have HMY := Lib.hid hmY
  have HMX := Lib.hid hmX
  have HXX : Hid (0 ≤ u → X' = X) := Lib.hid fun hu0 => by rw [hX', show (-u).toNat = 0 by omega, Nat.pow_zero, Nat.mul_one]
  have HYY : Hid (u < 0 → Y' = Y) := Lib.hid fun hu0 => by rw [hY', show u.toNat = 0 by omega, Nat.pow_zero, Nat.mul_one]
  clear hmY hmX HI q1 q2 near hb key hX' hY' hk hX hY hv hy x1 x2 y1 y2 g1 g2 hB hi hU hXq hup2 hc hQ hR ha hb0 hX0 h0 hY0 hb2 q1' q2' hqi hci hC
  cases B
  all_goals
    first
      | rw [if_pos rfl] at hh
      | rw [if_neg (by decide)] at hh
    subst hh
    clear hhb
    go_enter Tryz.func114, Tryz.ntmps114
    go_wp2_with fail
    refine HBX.out.mono ?_
    rintro e w1 ⟨rfl, hb1⟩
    have B1 := Lib.hid hb1
    clear hb1
    go_wp2_with fail
    refine (HBY.out _ B1.out).mono ?_
    rintro e w2 ⟨rfl, hb1⟩
    have B2 := Lib.hid (B1.out.trans (hb1.mono B1.out.size))
    clear hb1
    go_wp2_with fail
    refine (HO.out _ B2.out).mono ?_
    rintro e w3 ⟨rfl, hb1⟩
    have B3 := Lib.hid (B2.out.trans (hb1.mono B2.out.size))
    clear hb1
    by_cases hu0 : 0 ≤ u
    · obtain ⟨un, hun⟩ : ∃ un : Nat, u = (un : Int) := ⟨u.toNat, by omega⟩
      have T4 := Lib.hid (fun W => HTW.out u.toNat W (by omega))
      have eun : (u.toNat : Int) = u := by omega
      rw [eun] at T4
      clear eun hun
      go_wp2_with fail
      refine (T4.out _).mono ?_
      rintro e w4 ⟨t4, rfl, hu4, hb1⟩
      have B4 := Lib.hid (B3.out.trans (hb1.mono B3.out.size))
      have M4 := Lib.hid (HMY.out _ _ hu0 hu4 B4.out)
      clear hb1 hu4
      go_wp2_with fail
      refine M4.out.mono ?_
      rintro e w5 ⟨v5, rfl, _, hu5, hb1⟩
      have B5 := Lib.hid (B4.out.trans (hb1.mono B4.out.size))
      have U5 := Lib.hid (show U w5 v X' 1600 ∧ U w5 v5 Y' 1600 from ⟨by rw [HXX.out hu0]; exact (HV.out.1.below B5.out).wide (by omega), hu5⟩)
      clear hb1 hu5
      go_wp2_with fail
      refine (HQ.out _ _ _ U5.out.1 U5.out.2).mono ?_
      rintro e w6 ⟨v6, rfl, hu6, hb1⟩
      have B6 := Lib.hid (B5.out.trans (hb1.mono B5.out.size))
      have U6 := Lib.hid (And.intro hu6 (U5.out.2.below hb1))
      have R6 := Lib.hid (HR2.out v6 _ U6.out.1)
      clear hb1 hu6
      go_wp2_with fail
      refine R6.out.mono ?_
      rintro e w7 ⟨v7, rfl, _, hu7, hb1⟩
      have B7 := Lib.hid ((B6.out.alloc B6.out.size (.cells #[.int .u32 2] 100)).trans (hb1.mono (by have := B6.out.size; rw [hsz]; omega)))
      have U7 := Lib.hid (And.intro (hu7.wide (by omega : 1600 + 1 + 1 ≤ 1700)) ((U6.out.2.alloc (.cells #[.int .u32 2] 100)).below hb1))
      clear hb1 hu7
      go_wp2_with fail
      refine (HC.out _ _ _ U7.out.1 U7.out.2).mono ?_
      rintro e w8 ⟨rfl, hb1⟩
      have B8 := Lib.hid (B7.out.trans (hb1.mono B7.out.size))
      clear hb1
      rcases cases4 with ⟨rfl, rfl⟩ | ⟨rfl, par, rfl⟩ | ⟨rfl, par, rfl⟩ | ⟨rfl, rfl⟩
      · have k1 : qi + 1 = ci := by omega
        clear hQA
        clear hcu
        by_cases c1 : ci = 9007199254740992
        · subst c1
          by_cases c2 : 970 < u
          · have E := Lib.hid (ro_no (b := b) (by rw [HII.out]; omega))
            first
              | (exfalso; omega)
              | (go_wp2_with fail; go_ret2; refine ⟨b, HN.out, ?_, B8.out⟩; rw [E.out.1, E.out.2]; exact ret_ui rfl rfl)
          · have c3 : b < inf := by rw [HII.out]; omega
            have E := Lib.hid (ro_yes c3)
            obtain ⟨k2, hk2⟩ : ∃ k2 : Nat, k2 = k + 1 := ⟨_, rfl⟩
            have k3 : u + 1 + 1074 = (k2 : Int) := by omega
            have k4 : k2 ≤ 2046 := by omega
            clear c3
            first
              | (exfalso; omega)
              | (go_wp2_with fail; go_ret2; refine ⟨b, HN.out, ?_, B8.out⟩; rw [E.out.1, E.out.2]; exact ret_ui (by omega) rfl)
        · by_cases c2 : ci < 4503599627370496
          · have hkz : k = 0 := by omega
            have c3 : b < inf := by rw [HII.out]; omega
            have E := Lib.hid (ro_yes c3)
            clear c3 hkz
            first
              | (exfalso; omega)
              | (go_wp2_with fail; go_ret2; refine ⟨b, HN.out, ?_, B8.out⟩; rw [E.out.1, E.out.2]; exact ret_ui (by omega) rfl)
          · have f1 : (ci == 9007199254740992) = false := by rw [beq_eq_false_iff_ne]; omega
            have f2 : decide (ci < 4503599627370496) = false := decide_eq_false (by omega)
            have c5 : k ≤ 2045 ∨ 971 < u := by omega
            have c6 : 971 < u → inf ≤ b := fun g => by rw [HII.out]; omega
            have c7 : u ≤ 971 → b < inf := fun g => by rw [HII.out]; omega
            have C6 := Lib.hid (And.intro c6 c7)
            clear c1 c2 c6 c7
            by_cases c4 : 971 < u
            · have E := Lib.hid (ro_no (b := b) (C6.out.1 c4))
              first
                | (exfalso; omega)
                | (go_wp2_with fail; go_ret2; refine ⟨b, HN.out, ?_, B8.out⟩; rw [E.out.1, E.out.2]; exact ret_ui rfl rfl)
            · have E := Lib.hid (ro_yes (C6.out.2 (by omega)))
              have k4 : k ≤ 2045 := by omega
              clear c5
              first
                | (exfalso; omega)
                | (go_wp2_with fail; go_ret2; refine ⟨b, HN.out, ?_, B8.out⟩; rw [E.out.1, E.out.2]; exact ret_ui (by omega) rfl)
      · have k1 : qi + 1 = ci := by omega
        rw [par] at hQA
        clear hcu
        by_cases c1 : ci = 9007199254740992
        · subst c1
          by_cases c2 : 970 < u
          · have E := Lib.hid (ro_no (b := b) (by rw [HII.out]; omega))
            first
              | (exfalso; omega)
              | (go_wp2_with fail; go_ret2; refine ⟨b, HN.out, ?_, B8.out⟩; rw [E.out.1, E.out.2]; exact ret_ui rfl rfl)
          · have c3 : b < inf := by rw [HII.out]; omega
            have E := Lib.hid (ro_yes c3)
            obtain ⟨k2, hk2⟩ : ∃ k2 : Nat, k2 = k + 1 := ⟨_, rfl⟩
            have k3 : u + 1 + 1074 = (k2 : Int) := by omega
            have k4 : k2 ≤ 2046 := by omega
            clear c3
            first
              | (exfalso; omega)
              | (go_wp2_with fail; go_ret2; refine ⟨b, HN.out, ?_, B8.out⟩; rw [E.out.1, E.out.2]; exact ret_ui (by omega) rfl)
        · by_cases c2 : ci < 4503599627370496
          · have hkz : k = 0 := by omega
            have c3 : b < inf := by rw [HII.out]; omega
            have E := Lib.hid (ro_yes c3)
            clear c3 hkz
            first
              | (exfalso; omega)
              | (go_wp2_with fail; go_ret2; refine ⟨b, HN.out, ?_, B8.out⟩; rw [E.out.1, E.out.2]; exact ret_ui (by omega) rfl)
          · have f1 : (ci == 9007199254740992) = false := by rw [beq_eq_false_iff_ne]; omega
            have f2 : decide (ci < 4503599627370496) = false := decide_eq_false (by omega)
            have c5 : k ≤ 2045 ∨ 971 < u := by omega
            have c6 : 971 < u → inf ≤ b := fun g => by rw [HII.out]; omega
            have c7 : u ≤ 971 → b < inf := fun g => by rw [HII.out]; omega
            have C6 := Lib.hid (And.intro c6 c7)
            clear c1 c2 c6 c7
            by_cases c4 : 971 < u
            · have E := Lib.hid (ro_no (b := b) (C6.out.1 c4))
              first
                | (exfalso; omega)
                | (go_wp2_with fail; go_ret2; refine ⟨b, HN.out, ?_, B8.out⟩; rw [E.out.1, E.out.2]; exact ret_ui rfl rfl)
            · have E := Lib.hid (ro_yes (C6.out.2 (by omega)))
              have k4 : k ≤ 2045 := by omega
              clear c5
              first
                | (exfalso; omega)
                | (go_wp2_with fail; go_ret2; refine ⟨b, HN.out, ?_, B8.out⟩; rw [E.out.1, E.out.2]; exact ret_ui (by omega) rfl)
      · obtain rfl : ci = qi := by omega
        rw [par] at hQA
        clear hcu
        by_cases c1 : ci = 9007199254740992
        · subst c1
          by_cases c2 : 970 < u
          · have E := Lib.hid (ro_no (b := b) (by rw [HII.out]; omega))
            first
              | (exfalso; omega)
              | (go_wp2_with fail; go_ret2; refine ⟨b, HN.out, ?_, B8.out⟩; rw [E.out.1, E.out.2]; exact ret_ui rfl rfl)
          · have c3 : b < inf := by rw [HII.out]; omega
            have E := Lib.hid (ro_yes c3)
            obtain ⟨k2, hk2⟩ : ∃ k2 : Nat, k2 = k + 1 := ⟨_, rfl⟩
            have k3 : u + 1 + 1074 = (k2 : Int) := by omega
            have k4 : k2 ≤ 2046 := by omega
            clear c3
            first
              | (exfalso; omega)
              | (go_wp2_with fail; go_ret2; refine ⟨b, HN.out, ?_, B8.out⟩; rw [E.out.1, E.out.2]; exact ret_ui (by omega) rfl)
        · by_cases c2 : ci < 4503599627370496
          · have hkz : k = 0 := by omega
            have c3 : b < inf := by rw [HII.out]; omega
            have E := Lib.hid (ro_yes c3)
            clear c3 hkz
            first
              | (exfalso; omega)
              | (go_wp2_with fail; go_ret2; refine ⟨b, HN.out, ?_, B8.out⟩; rw [E.out.1, E.out.2]; exact ret_ui (by omega) rfl)
          · have f1 : (ci == 9007199254740992) = false := by rw [beq_eq_false_iff_ne]; omega
            have f2 : decide (ci < 4503599627370496) = false := decide_eq_false (by omega)
            have c5 : k ≤ 2045 ∨ 971 < u := by omega
            have c6 : 971 < u → inf ≤ b := fun g => by rw [HII.out]; omega
            have c7 : u ≤ 971 → b < inf := fun g => by rw [HII.out]; omega
            have C6 := Lib.hid (And.intro c6 c7)
            clear c1 c2 c6 c7
            by_cases c4 : 971 < u
            · have E := Lib.hid (ro_no (b := b) (C6.out.1 c4))
              first
                | (exfalso; omega)
                | (go_wp2_with fail; go_ret2; refine ⟨b, HN.out, ?_, B8.out⟩; rw [E.out.1, E.out.2]; exact ret_ui rfl rfl)
            · have E := Lib.hid (ro_yes (C6.out.2 (by omega)))
              have k4 : k ≤ 2045 := by omega
              clear c5
              first
                | (exfalso; omega)
                | (go_wp2_with fail; go_ret2; refine ⟨b, HN.out, ?_, B8.out⟩; rw [E.out.1, E.out.2]; exact ret_ui (by omega) rfl)
      · obtain rfl : ci = qi := by omega
        clear hQA
        clear hcu
        by_cases c1 : ci = 9007199254740992
        · subst c1
          by_cases c2 : 970 < u
          · have E := Lib.hid (ro_no (b := b) (by rw [HII.out]; omega))
            first
              | (exfalso; omega)
              | (go_wp2_with fail; go_ret2; refine ⟨b, HN.out, ?_, B8.out⟩; rw [E.out.1, E.out.2]; exact ret_ui rfl rfl)
          · have c3 : b < inf := by rw [HII.out]; omega
            have E := Lib.hid (ro_yes c3)
            obtain ⟨k2, hk2⟩ : ∃ k2 : Nat, k2 = k + 1 := ⟨_, rfl⟩
            have k3 : u + 1 + 1074 = (k2 : Int) := by omega
            have k4 : k2 ≤ 2046 := by omega
            clear c3
            first
              | (exfalso; omega)
              | (go_wp2_with fail; go_ret2; refine ⟨b, HN.out, ?_, B8.out⟩; rw [E.out.1, E.out.2]; exact ret_ui (by omega) rfl)
        · by_cases c2 : ci < 4503599627370496
          · have hkz : k = 0 := by omega
            have c3 : b < inf := by rw [HII.out]; omega
            have E := Lib.hid (ro_yes c3)
            clear c3 hkz
            first
              | (exfalso; omega)
              | (go_wp2_with fail; go_ret2; refine ⟨b, HN.out, ?_, B8.out⟩; rw [E.out.1, E.out.2]; exact ret_ui (by omega) rfl)
          · have f1 : (ci == 9007199254740992) = false := by rw [beq_eq_false_iff_ne]; omega
            have f2 : decide (ci < 4503599627370496) = false := decide_eq_false (by omega)
            have c5 : k ≤ 2045 ∨ 971 < u := by omega
            have c6 : 971 < u → inf ≤ b := fun g => by rw [HII.out]; omega
            have c7 : u ≤ 971 → b < inf := fun g => by rw [HII.out]; omega
            have C6 := Lib.hid (And.intro c6 c7)
            clear c1 c2 c6 c7
            by_cases c4 : 971 < u
            · have E := Lib.hid (ro_no (b := b) (C6.out.1 c4))
              first
                | (exfalso; omega)
                | (go_wp2_with fail; go_ret2; refine ⟨b, HN.out, ?_, B8.out⟩; rw [E.out.1, E.out.2]; exact ret_ui rfl rfl)
            · have E := Lib.hid (ro_yes (C6.out.2 (by omega)))
              have k4 : k ≤ 2045 := by omega
              clear c5
              first
                | (exfalso; omega)
                | (go_wp2_with fail; go_ret2; refine ⟨b, HN.out, ?_, B8.out⟩; rw [E.out.1, E.out.2]; exact ret_ui (by omega) rfl)
    · have hu1 : u < 0 := by omega
      have T4 := Lib.hid (fun W => HTW.out (-u).toNat W (by omega))
      have eun : ((-u).toNat : Int) = -u := by omega
      rw [eun] at T4
      clear eun
      go_wp2_with fail
      refine (T4.out _).mono ?_
      rintro e w4 ⟨t4, rfl, hu4, hb1⟩
      have B4 := Lib.hid (B3.out.trans (hb1.mono B3.out.size))
      have M4 := Lib.hid (HMX.out _ _ hu4 B4.out)
      clear hb1 hu4
      go_wp2_with fail
      refine M4.out.mono ?_
      rintro e w5 ⟨v5, rfl, _, hu5, hb1⟩
      have B5 := Lib.hid (B4.out.trans (hb1.mono B4.out.size))
      have U5 := Lib.hid (show U w5 v5 X' 1600 ∧ U w5 y Y' 1600 from ⟨hu5, by rw [HYY.out hu1]; exact (HV.out.2.below B5.out).wide (by omega)⟩)
      clear hb1 hu5
      go_wp2_with fail
      refine (HQ.out _ _ _ U5.out.1 U5.out.2).mono ?_
      rintro e w6 ⟨v6, rfl, hu6, hb1⟩
      have B6 := Lib.hid (B5.out.trans (hb1.mono B5.out.size))
      have U6 := Lib.hid (And.intro hu6 (U5.out.2.below hb1))
      have R6 := Lib.hid (HR2.out v6 _ U6.out.1)
      clear hb1 hu6
      go_wp2_with fail
      refine R6.out.mono ?_
      rintro e w7 ⟨v7, rfl, _, hu7, hb1⟩
      have B7 := Lib.hid ((B6.out.alloc B6.out.size (.cells #[.int .u32 2] 100)).trans (hb1.mono (by have := B6.out.size; rw [hsz]; omega)))
      have U7 := Lib.hid (And.intro (hu7.wide (by omega : 1600 + 1 + 1 ≤ 1700)) ((U6.out.2.alloc (.cells #[.int .u32 2] 100)).below hb1))
      clear hb1 hu7
      go_wp2_with fail
      refine (HC.out _ _ _ U7.out.1 U7.out.2).mono ?_
      rintro e w8 ⟨rfl, hb1⟩
      have B8 := Lib.hid (B7.out.trans (hb1.mono B7.out.size))
      clear hb1
      rcases cases4 with ⟨rfl, rfl⟩ | ⟨rfl, par, rfl⟩ | ⟨rfl, par, rfl⟩ | ⟨rfl, rfl⟩
      · have k1 : qi + 1 = ci := by omega
        clear hQA
        clear hcu
        by_cases c1 : ci = 9007199254740992
        · subst c1
          by_cases c2 : 970 < u
          · have E := Lib.hid (ro_no (b := b) (by rw [HII.out]; omega))
            first
              | (exfalso; omega)
              | (go_wp2_with fail; go_ret2; refine ⟨b, HN.out, ?_, B8.out⟩; rw [E.out.1, E.out.2]; exact ret_ui rfl rfl)
          · have c3 : b < inf := by rw [HII.out]; omega
            have E := Lib.hid (ro_yes c3)
            obtain ⟨k2, hk2⟩ : ∃ k2 : Nat, k2 = k + 1 := ⟨_, rfl⟩
            have k3 : u + 1 + 1074 = (k2 : Int) := by omega
            have k4 : k2 ≤ 2046 := by omega
            clear c3
            first
              | (exfalso; omega)
              | (go_wp2_with fail; go_ret2; refine ⟨b, HN.out, ?_, B8.out⟩; rw [E.out.1, E.out.2]; exact ret_ui (by omega) rfl)
        · by_cases c2 : ci < 4503599627370496
          · have hkz : k = 0 := by omega
            have c3 : b < inf := by rw [HII.out]; omega
            have E := Lib.hid (ro_yes c3)
            clear c3 hkz
            first
              | (exfalso; omega)
              | (go_wp2_with fail; go_ret2; refine ⟨b, HN.out, ?_, B8.out⟩; rw [E.out.1, E.out.2]; exact ret_ui (by omega) rfl)
          · have f1 : (ci == 9007199254740992) = false := by rw [beq_eq_false_iff_ne]; omega
            have f2 : decide (ci < 4503599627370496) = false := decide_eq_false (by omega)
            have c5 : k ≤ 2045 ∨ 971 < u := by omega
            have c6 : 971 < u → inf ≤ b := fun g => by rw [HII.out]; omega
            have c7 : u ≤ 971 → b < inf := fun g => by rw [HII.out]; omega
            have C6 := Lib.hid (And.intro c6 c7)
            clear c1 c2 c6 c7
            by_cases c4 : 971 < u
            · have E := Lib.hid (ro_no (b := b) (C6.out.1 c4))
              first
                | (exfalso; omega)
                | (go_wp2_with fail; go_ret2; refine ⟨b, HN.out, ?_, B8.out⟩; rw [E.out.1, E.out.2]; exact ret_ui rfl rfl)
            · have E := Lib.hid (ro_yes (C6.out.2 (by omega)))
              have k4 : k ≤ 2045 := by omega
              clear c5
              first
                | (exfalso; omega)
                | (go_wp2_with fail; go_ret2; refine ⟨b, HN.out, ?_, B8.out⟩; rw [E.out.1, E.out.2]; exact ret_ui (by omega) rfl)
      · have k1 : qi + 1 = ci := by omega
        rw [par] at hQA
        clear hcu
        by_cases c1 : ci = 9007199254740992
        · subst c1
          by_cases c2 : 970 < u
          · have E := Lib.hid (ro_no (b := b) (by rw [HII.out]; omega))
            first
              | (exfalso; omega)
              | (go_wp2_with fail; go_ret2; refine ⟨b, HN.out, ?_, B8.out⟩; rw [E.out.1, E.out.2]; exact ret_ui rfl rfl)
          · have c3 : b < inf := by rw [HII.out]; omega
            have E := Lib.hid (ro_yes c3)
            obtain ⟨k2, hk2⟩ : ∃ k2 : Nat, k2 = k + 1 := ⟨_, rfl⟩
            have k3 : u + 1 + 1074 = (k2 : Int) := by omega
            have k4 : k2 ≤ 2046 := by omega
            clear c3
            first
              | (exfalso; omega)
              | (go_wp2_with fail; go_ret2; refine ⟨b, HN.out, ?_, B8.out⟩; rw [E.out.1, E.out.2]; exact ret_ui (by omega) rfl)
        · by_cases c2 : ci < 4503599627370496
          · have hkz : k = 0 := by omega
            have c3 : b < inf := by rw [HII.out]; omega
            have E := Lib.hid (ro_yes c3)
            clear c3 hkz
            first
              | (exfalso; omega)
              | (go_wp2_with fail; go_ret2; refine ⟨b, HN.out, ?_, B8.out⟩; rw [E.out.1, E.out.2]; exact ret_ui (by omega) rfl)
          · have f1 : (ci == 9007199254740992) = false := by rw [beq_eq_false_iff_ne]; omega
            have f2 : decide (ci < 4503599627370496) = false := decide_eq_false (by omega)
            have c5 : k ≤ 2045 ∨ 971 < u := by omega
            have c6 : 971 < u → inf ≤ b := fun g => by rw [HII.out]; omega
            have c7 : u ≤ 971 → b < inf := fun g => by rw [HII.out]; omega
            have C6 := Lib.hid (And.intro c6 c7)
            clear c1 c2 c6 c7
            by_cases c4 : 971 < u
            · have E := Lib.hid (ro_no (b := b) (C6.out.1 c4))
              first
                | (exfalso; omega)
                | (go_wp2_with fail; go_ret2; refine ⟨b, HN.out, ?_, B8.out⟩; rw [E.out.1, E.out.2]; exact ret_ui rfl rfl)
            · have E := Lib.hid (ro_yes (C6.out.2 (by omega)))
              have k4 : k ≤ 2045 := by omega
              clear c5
              first
                | (exfalso; omega)
                | (go_wp2_with fail; go_ret2; refine ⟨b, HN.out, ?_, B8.out⟩; rw [E.out.1, E.out.2]; exact ret_ui (by omega) rfl)
      · obtain rfl : ci = qi := by omega
        rw [par] at hQA
        clear hcu
        by_cases c1 : ci = 9007199254740992
        · subst c1
          by_cases c2 : 970 < u
          · have E := Lib.hid (ro_no (b := b) (by rw [HII.out]; omega))
            first
              | (exfalso; omega)
              | (go_wp2_with fail; go_ret2; refine ⟨b, HN.out, ?_, B8.out⟩; rw [E.out.1, E.out.2]; exact ret_ui rfl rfl)
          · have c3 : b < inf := by rw [HII.out]; omega
            have E := Lib.hid (ro_yes c3)
            obtain ⟨k2, hk2⟩ : ∃ k2 : Nat, k2 = k + 1 := ⟨_, rfl⟩
            have k3 : u + 1 + 1074 = (k2 : Int) := by omega
            have k4 : k2 ≤ 2046 := by omega
            clear c3
            first
              | (exfalso; omega)
              | (go_wp2_with fail; go_ret2; refine ⟨b, HN.out, ?_, B8.out⟩; rw [E.out.1, E.out.2]; exact ret_ui (by omega) rfl)
        · by_cases c2 : ci < 4503599627370496
          · have hkz : k = 0 := by omega
            have c3 : b < inf := by rw [HII.out]; omega
            have E := Lib.hid (ro_yes c3)
            clear c3 hkz
            first
              | (exfalso; omega)
              | (go_wp2_with fail; go_ret2; refine ⟨b, HN.out, ?_, B8.out⟩; rw [E.out.1, E.out.2]; exact ret_ui (by omega) rfl)
          · have f1 : (ci == 9007199254740992) = false := by rw [beq_eq_false_iff_ne]; omega
            have f2 : decide (ci < 4503599627370496) = false := decide_eq_false (by omega)
            have c5 : k ≤ 2045 ∨ 971 < u := by omega
            have c6 : 971 < u → inf ≤ b := fun g => by rw [HII.out]; omega
            have c7 : u ≤ 971 → b < inf := fun g => by rw [HII.out]; omega
            have C6 := Lib.hid (And.intro c6 c7)
            clear c1 c2 c6 c7
            by_cases c4 : 971 < u
            · have E := Lib.hid (ro_no (b := b) (C6.out.1 c4))
              first
                | (exfalso; omega)
                | (go_wp2_with fail; go_ret2; refine ⟨b, HN.out, ?_, B8.out⟩; rw [E.out.1, E.out.2]; exact ret_ui rfl rfl)
            · have E := Lib.hid (ro_yes (C6.out.2 (by omega)))
              have k4 : k ≤ 2045 := by omega
              clear c5
              first
                | (exfalso; omega)
                | (go_wp2_with fail; go_ret2; refine ⟨b, HN.out, ?_, B8.out⟩; rw [E.out.1, E.out.2]; exact ret_ui (by omega) rfl)
      · obtain rfl : ci = qi := by omega
        clear hQA
        clear hcu
        by_cases c1 : ci = 9007199254740992
        · subst c1
          by_cases c2 : 970 < u
          · have E := Lib.hid (ro_no (b := b) (by rw [HII.out]; omega))
            first
              | (exfalso; omega)
              | (go_wp2_with fail; go_ret2; refine ⟨b, HN.out, ?_, B8.out⟩; rw [E.out.1, E.out.2]; exact ret_ui rfl rfl)
          · have c3 : b < inf := by rw [HII.out]; omega
            have E := Lib.hid (ro_yes c3)
            obtain ⟨k2, hk2⟩ : ∃ k2 : Nat, k2 = k + 1 := ⟨_, rfl⟩
            have k3 : u + 1 + 1074 = (k2 : Int) := by omega
            have k4 : k2 ≤ 2046 := by omega
            clear c3
            first
              | (exfalso; omega)
              | (go_wp2_with fail; go_ret2; refine ⟨b, HN.out, ?_, B8.out⟩; rw [E.out.1, E.out.2]; exact ret_ui (by omega) rfl)
        · by_cases c2 : ci < 4503599627370496
          · have hkz : k = 0 := by omega
            have c3 : b < inf := by rw [HII.out]; omega
            have E := Lib.hid (ro_yes c3)
            clear c3 hkz
            first
              | (exfalso; omega)
              | (go_wp2_with fail; go_ret2; refine ⟨b, HN.out, ?_, B8.out⟩; rw [E.out.1, E.out.2]; exact ret_ui (by omega) rfl)
          · have f1 : (ci == 9007199254740992) = false := by rw [beq_eq_false_iff_ne]; omega
            have f2 : decide (ci < 4503599627370496) = false := decide_eq_false (by omega)
            have c5 : k ≤ 2045 ∨ 971 < u := by omega
            have c6 : 971 < u → inf ≤ b := fun g => by rw [HII.out]; omega
            have c7 : u ≤ 971 → b < inf := fun g => by rw [HII.out]; omega
            have C6 := Lib.hid (And.intro c6 c7)
            clear c1 c2 c6 c7
            by_cases c4 : 971 < u
            · have E := Lib.hid (ro_no (b := b) (C6.out.1 c4))
              first
                | (exfalso; omega)
                | (go_wp2_with fail; go_ret2; refine ⟨b, HN.out, ?_, B8.out⟩; rw [E.out.1, E.out.2]; exact ret_ui rfl rfl)
            · have E := Lib.hid (ro_yes (C6.out.2 (by omega)))
              have k4 : k ≤ 2045 := by omega
              clear c5
              first
                | (exfalso; omega)
                | (go_wp2_with fail; go_ret2; refine ⟨b, HN.out, ?_, B8.out⟩; rw [E.out.1, E.out.2]; exact ret_ui (by omega) rfl)
end Go.Proofs.YtcndkhgbgjnclaaGreatDoor.nn
/- The document's answers of layer 6: Round. -/
namespace Go.Proofs.YtcndkhgbgjnclaaGreatDoor.nn
open Go.RowKit

set_option maxRecDepth 100000 in
set_option maxHeartbeats 1000000 in
theorem rround_no (neg : Bool) (s : ByteArray) (z : Int) (w : World) (hs : s.size ≤ maxLen) (hz1 : -9223372036854775808 ≤ z) (hz2 : z ≤ 9223372036854775807) (hr : rfE s z ≠ 0) :
    Calls Tryz.prog 76 #[.bool neg, .string s, .int .i64 z] w (RoAns 0 (rfE s z) w) := by
  have HB := Lib.hid (Below.refl w.heap.size w)
  have hF := rfromDigits_any s w hs
  unfold maxLen at hs
  by_cases h8 : 800 < s.size
  · have e1 : rfE s z = 2 := if_pos h8
    rw [e1]
    clear e1 hr hF
    go_enter Tryz.func76, Tryz.ntmps76
    go_wp2_with fail
    go_ret2
    exact ⟨rfl, HB.out⟩
  · have f4 : ¬ 4096 < s.size := by omega
    cases hd : (dgs (bt s) s.size && decide (0 < s.size)) with
    | false =>
      have e1 : rfE s z = 4 := by unfold rfE; rw [if_neg h8, if_pos hd]
      have e2 : fdR (bt s) s.size = 0 := by unfold fdR; rw [if_neg f4, hd, if_neg (by decide)]
      have e3 : fdE (bt s) s.size = 4 := by unfold fdE; rw [if_neg f4, hd, if_neg (by decide)]
      rw [e2, e3] at hF
      have HF := Lib.hid hF
      rw [e1]
      clear e1 e2 e3 hF hd hr
      go_enter Tryz.func76, Tryz.ntmps76
      go_wp2_with fail
      refine HF.out.mono ?_
      rintro e w1 ⟨A1, n1, c1, f1, rfl, hN, hb1⟩
      have B1 := Lib.hid hb1
      clear hN hb1
      go_wp2_with fail
      go_ret2
      exact ⟨rfl, B1.out⟩
    | true =>
      have hz : z < -2000 ∨ 2000 < z := by
        unfold rfE at hr
        rw [if_neg h8, hd, if_neg (by decide)] at hr
        split at hr
        · assumption
        · exact absurd rfl hr
      have e1 : rfE s z = 1 := by unfold rfE; rw [if_neg h8, hd, if_neg (by decide), if_pos hz]
      have e3 : fdE (bt s) s.size = 0 := by unfold fdE; rw [if_neg f4, hd, if_pos rfl]
      rw [e3] at hF
      have HF := Lib.hid hF
      rw [e1]
      clear e1 e3 hF hd hr
      by_cases c1 : z < -2000
      · clear hz
        go_enter Tryz.func76, Tryz.ntmps76
        go_wp2_with fail
        refine HF.out.mono ?_
        rintro e w1 ⟨A1, n1, c1', f1, rfl, hN, hb1⟩
        have B1 := Lib.hid hb1
        clear hN hb1
        go_wp2_with fail
        go_ret2
        exact ⟨rfl, B1.out⟩
      · have c2 : 2000 < z := by omega
        clear hz
        go_enter Tryz.func76, Tryz.ntmps76
        go_wp2_with fail
        refine HF.out.mono ?_
        rintro e w1 ⟨A1, n1, c1', f1, rfl, hN, hb1⟩
        have B1 := Lib.hid hb1
        clear hN hb1
        go_wp2_with fail
        go_ret2
        exact ⟨rfl, B1.out⟩
theorem num_len0 {w : World} {A : Option Addr} {n c X : Nat} {f : Nat → Nat} (h : Num w A n c f X) : X = 0 ↔ n = 0 := by
  constructor
  · intro h0
    rcases Nat.eq_zero_or_pos n with h1 | h1
    · exact h1
    · have := sm_pos (Nat.two_pow_pos 32) h.trm (by omega)
      rw [h.val] at this
      omega
  · intro h0
    subst h0
    have := h.val
    simp [sm] at this
    exact this.symm
theorem near_zero (Y : Nat) (hY : 0 < Y) : Near (0 * 2 ^ e74) Y 0 := by
  have := near_self Y 0 hY
  rw [vf_zero, Nat.zero_mul] at this
  rw [Nat.zero_mul]
  exact this
theorem or_sB (neg : Bool) {m : Nat} (h : m < 9223372036854775808) : bits .or .u64 (sB neg : Int) (m : Int) = ((sB neg + m : Nat) : Int) := by
  rw [u64_or_nat _ _ (by unfold sB; split <;> omega) (by omega)]
  cases neg with
  | false => simp [sB]
  | true =>
    have h2 := Nat.two_pow_add_eq_or_of_lt (i := 63) (b := m) (by omega) 1
    rw [show (2 : Nat) ^ 63 * 1 = 9223372036854775808 by decide] at h2
    show (((9223372036854775808 ||| m : Nat)) : Int) = _
    rw [← h2]
    rfl

set_option maxRecDepth 100000 in
set_option maxHeartbeats 2000000 in
theorem rround_yes (neg : Bool) (s : ByteArray) (z : Int) (b : Nat) (w : World) (hr : rfE s z = 0) (hb : RN s z b) :
    Calls Tryz.prog 76 #[.bool neg, .string s, .int .i64 z] w (RoAns (roV neg b) (roE b) w) := by
  obtain ⟨h1, h2, h3, h4, h5⟩ := rf_zero hr
  obtain ⟨f1, f2⟩ := rX_fits hr
  have hF := rfromDigits_any s w (by unfold maxLen; omega)
  have hd : (dgs (bt s) s.size && decide (0 < s.size)) = true := by rw [h3, decide_eq_true h2]; rfl
  have e2 : fdR (bt s) s.size = dv (bt s) s.size := by unfold fdR; rw [if_neg (by omega), hd, if_pos rfl]
  have e3 : fdE (bt s) s.size = 0 := by unfold fdE; rw [if_neg (by omega), hd, if_pos rfl]
  rw [e2, e3] at hF
  have hdv : dv (bt s) s.size < 2 ^ (32 * 110) := Nat.lt_of_lt_of_le (dv_lt h3) (Nat.le_of_lt (ten_lt (m := 110) (by omega)))
  have HS := Lib.hid (fun W => rsign_any neg W)
  obtain ⟨D, hD⟩ : ∃ D, dv (bt s) s.size = D := ⟨_, rfl⟩
  have hX : rX s z = D * 10 ^ z.toNat := by unfold rX; rw [hD]
  rw [hD] at hF hdv
  by_cases hD0 : D = 0
  · have hb0 : b = 0 := by
      refine near_uniq (rY_pos z) hb ?_
      have : rX s z = 0 := by rw [hX, hD0, Nat.zero_mul]
      rw [this]
      exact near_zero _ (rY_pos z)
    have e5 : roV neg b = sB neg := by rw [hb0]; unfold roV; rw [if_pos (by decide)]; rfl
    have e6 : roE b = 0 := by rw [hb0]; unfold roE; rw [if_pos (by decide)]
    rw [e5, e6]
    rw [hD0] at hF
    have HF := Lib.hid hF
    clear hF e5 e6 hb0 hb hX hD hdv f1 f2 hr h3 hd e2 e3
    go_enter Tryz.func76, Tryz.ntmps76
    go_wp2_with fail
    refine HF.out.mono ?_
    rintro e w1 ⟨A1, n1, c1, f1, rfl, hN, hb1⟩
    obtain rfl := (num_len0 hN).1 rfl
    have B1 := Lib.hid hb1
    clear hN hb1
    go_wp2_with fail
    refine (HS.out _).mono ?_
    rintro e w' ⟨rfl, rfl⟩
    go_wp2_with fail
    go_ret2
    exact ⟨rfl, B1.out⟩
  · have hX0 : rX s z ≠ 0 := by
      rw [hX]
      have := Nat.mul_pos (show 0 < D by omega) (Nat.pow_pos (n := z.toNat) (show 0 < 10 by decide))
      omega
    have HNR := Lib.hid (fun v u W (hv : U W v (rX s z) 900) (hu : U W u (rY z) 900) => rnearest_any v u (rX s z) (rY z) 900 900 W hv hu (by omega) (by omega) f1 f2 hX0 (rY_pos z))
    have HU : Hid (∀ b', Near (rX s z * 2 ^ e74) (rY z) b' → b' = b) := Lib.hid fun b' h => near_uniq (rY_pos z) h hb
    have HPW := Lib.hid (fun n W (hn : n ≤ 3000) => power_any n W hn)
    have HTM := Lib.hid (fun v u W (hv : U W v D 110) (hu : U W u (10 ^ z.toNat) 400) => rtimes_u v u D (10 ^ z.toNat) 110 400 W hv hu (by omega) (by omega))
    rw [← hX] at HTM
    have HP : Hid (z < 0 → rX s z = D) := Lib.hid fun h => by rw [hX, show z.toNat = 0 by omega, Nat.pow_zero, Nat.mul_one]
    have HQ : Hid (0 ≤ z → rY z = 1) := Lib.hid fun h => by unfold rY; rw [show (-z).toNat = 0 by omega, Nat.pow_zero]
    have HY : Hid (rY z = 10 ^ (-z).toNat) := Lib.hid rfl
    have HF := Lib.hid hF
    have HV := Lib.hid hdv
    clear hF hX hD hdv f1 f2 hr h3 hd e2 e3 hX0 hb
    obtain ⟨P, hP⟩ : ∃ P, rX s z = P := ⟨_, rfl⟩
    obtain ⟨Q, hQ⟩ : ∃ Q, rY z = Q := ⟨_, rfl⟩
    rw [hP] at HNR HU HTM HP
    rw [hQ] at HNR HU HQ HY
    clear hP hQ
    -- the two ends
    have fin : (b < inf ∧ roV neg b = sB neg + b ∧ roE b = 0 ∧ neV b = b) ∨ (inf ≤ b ∧ roV neg b = 0 ∧ roE b = 8 ∧ neV b = 0) := by
      rcases Nat.lt_or_ge b inf with g | g
      · exact .inl ⟨g, if_pos g, if_pos g, if_pos g⟩
      · exact .inr ⟨g, if_neg (by omega), if_neg (by omega), if_neg (by omega)⟩
    have HO := Lib.hid (fun (h : b < 9223372036854775808) => or_sB neg h)
    by_cases hz : 0 ≤ z
    · obtain ⟨n, rfl⟩ := Int.eq_ofNat_of_zero_le hz
      rw [Int.toNat_natCast] at HTM
      have PW := Lib.hid (fun W => HPW.out n W (by omega))
      unfold PoAns at PW
      have Q1 := HQ.out (by omega)
      subst Q1
      have hn2 : n ≤ 2000 := by omega
      rcases fin with ⟨g, g1, g2, g3⟩ | ⟨g, g1, g2, g3⟩
      all_goals
        rw [inf_eq] at g
        rw [g1, g2]
        try (have ho := HO.out (by omega))
        have G := Lib.hid (And.intro g2 g3)
        clear g1 g2 g3 hz h4 h5
        go_enter Tryz.func76, Tryz.ntmps76
        go_wp2_with fail
        refine HF.out.mono ?_
        rintro e w1 ⟨A1, n1, c1, f1, rfl, hN, hb1⟩
        have hn0 : n1 ≠ 0 := fun h => hD0 ((num_len0 hN).2 h)
        have hk : ((n1 : Int) == 0) = false := by rw [beq_eq_false_iff_ne]; omega
        have B1 := Lib.hid hb1
        have U1 := Lib.hid (U.of (m := 110) (⟨A1, n1, c1, f1, rfl, hN⟩ : N w1 (.slice A1 n1 c1) D) HV.out)
        clear hN hb1 hn0
        go_wp2_with fail
        refine (PW.out _).mono ?_
        rintro e w2 ⟨v2, rfl, hu2, hb2⟩
        have U2 := Lib.hid (And.intro ((U1.out.alloc (.cells #[.int .u32 1] 100)).below hb2) hu2)
        have hone := (U.one w1 1 100 (by decide))
        rw [show ((1 : Nat) : Int) = 1 from rfl] at hone
        have O2 := Lib.hid (hone.below hb2)
        have B2 := Lib.hid ((B1.out.alloc B1.out.size (.cells #[.int .u32 1] 100)).trans (hb2.mono (by have := B1.out.size; rw [hsz]; omega)))
        clear hu2 hb2 hone
        go_wp2_with fail
        refine (HTM.out _ _ _ U2.out.1 U2.out.2).mono ?_
        rintro e w3 ⟨v3, rfl, _, hu3, hb3⟩
        have B3 := Lib.hid (B2.out.trans (hb3.mono B2.out.size))
        have U3 := Lib.hid (And.intro (hu3.wide (by omega : 110 + 400 + 1 ≤ 900)) ((O2.out.below hb3).wide (by omega : 1 ≤ 900)))
        clear hu3 hb3
        go_wp2_with fail
        refine (HNR.out _ _ _ U3.out.1 U3.out.2).mono ?_
        rintro e w4 ⟨b', hnr, rfl, hb4⟩
        obtain rfl := HU.out b' hnr
        have B4 := Lib.hid (B3.out.trans (hb4.mono B3.out.size))
        rw [G.out.1, G.out.2]
        clear hnr hb4
        go_wp2_with (go_at_call 77; refine (HS.out _).mono ?_; rintro e w' ⟨rfl, rfl⟩)
        go_ret2
        exact ⟨rfl, B4.out⟩
    · obtain ⟨n, hn⟩ : ∃ n : Nat, -z = (n : Int) := ⟨(-z).toNat, by omega⟩
      have PW := Lib.hid (fun W => HPW.out n W (by omega))
      unfold PoAns at PW
      have P1 := HP.out (by omega)
      subst P1
      have Y1 := HY.out
      rw [show (-z).toNat = n by omega] at Y1
      subst Y1
      have hz0 : z < 0 := by omega
      rcases fin with ⟨g, g1, g2, g3⟩ | ⟨g, g1, g2, g3⟩
      all_goals
        rw [inf_eq] at g
        rw [g1, g2]
        try (have ho := HO.out (by omega))
        have G := Lib.hid (And.intro g2 g3)
        clear g1 g2 g3 hz
        go_enter Tryz.func76, Tryz.ntmps76
        go_wp2_with fail
        refine HF.out.mono ?_
        rintro e w1 ⟨A1, n1, c1, f1, rfl, hN, hb1⟩
        have hn0 : n1 ≠ 0 := fun h => hD0 ((num_len0 hN).2 h)
        have hk : ((n1 : Int) == 0) = false := by rw [beq_eq_false_iff_ne]; omega
        have B1 := Lib.hid hb1
        have U1 := Lib.hid (U.of (m := 110) (⟨A1, n1, c1, f1, rfl, hN⟩ : N w1 (.slice A1 n1 c1) P) HV.out)
        clear hN hb1 hn0
        go_wp2_with fail
        refine (PW.out _).mono ?_
        rintro e w2 ⟨v2, rfl, hu2, hb2⟩
        have U3 := Lib.hid (And.intro (((U1.out.alloc (.cells #[.int .u32 1] 100)).below hb2).wide (by omega : 110 ≤ 900)) (hu2.wide (by omega : 400 ≤ 900)))
        have B3 := Lib.hid ((B1.out.alloc B1.out.size (.cells #[.int .u32 1] 100)).trans (hb2.mono (by have := B1.out.size; rw [hsz]; omega)))
        clear hu2 hb2
        go_wp2_with fail
        refine (HNR.out _ _ _ U3.out.1 U3.out.2).mono ?_
        rintro e w4 ⟨b', hnr, rfl, hb4⟩
        obtain rfl := HU.out b' hnr
        have B4 := Lib.hid (B3.out.trans (hb4.mono B3.out.size))
        rw [G.out.1, G.out.2]
        clear hnr hb4
        go_wp2_with (go_at_call 77; refine (HS.out _).mono ?_; rintro e w' ⟨rfl, rfl⟩)
        go_ret2
        exact ⟨rfl, B4.out⟩
end Go.Proofs.YtcndkhgbgjnclaaGreatDoor.nn
/- Plain facts on the places of a written number in a text. No program is named here. -/
namespace Go.Proofs.YtcndkhgbgjnclaaGreatDoor.nn

/-- how many digits stand in s from place a on -/
def rn (s : ByteArray) (a : Nat) : Nat := dc (fun i => bt s (a + i)) (s.size - a)
theorem rn_le (s : ByteArray) (a : Nat) : rn s a ≤ s.size - a := (dc_facts _ _).1
/-- from place a on -/
def sfx (s : ByteArray) (a : Nat) : ByteArray := s.extract a s.size
/-- from place a to place b -/
def cutT (s : ByteArray) (a b : Nat) : ByteArray := s.extract a b
theorem fba_ext {a b : ByteArray} (h : a.size = b.size) (e : ∀ i, i < a.size → bt a i = bt b i) : a = b := by
  apply ByteArray.ext_getElem h
  intro i h1 h2
  have := e i h1
  rw [bt_at h1, bt_at h2] at this
  exact UInt8.toNat_inj.1 this
theorem cutT_size {s : ByteArray} {a b : Nat} (h : b ≤ s.size) : (cutT s a b).size = b - a := by
  unfold cutT
  rw [ByteArray.size_extract]
  omega
theorem sfx_size (s : ByteArray) (a : Nat) : (sfx s a).size = s.size - a := by
  unfold sfx
  rw [ByteArray.size_extract]
  omega
theorem bt_cutT {s : ByteArray} {a b i : Nat} (h : b ≤ s.size) (hi : i < b - a) : bt (cutT s a b) i = bt s (a + i) := by
  have h1 : i < (s.extract a b).size := by
    have := cutT_size (a := a) h
    unfold cutT at this
    omega
  have h2 : a + i < s.size := by omega
  show bt (s.extract a b) i = _
  rw [bt_at h1, bt_at h2, ByteArray.getElem_extract]
theorem bt_sfx {s : ByteArray} {a i : Nat} (hi : i < s.size - a) : bt (sfx s a) i = bt s (a + i) := bt_cutT (Nat.le_refl _) hi
theorem sfx_zero (s : ByteArray) : sfx s 0 = s := by
  refine fba_ext (by rw [sfx_size]; omega) fun i hi => ?_
  rw [sfx_size] at hi
  rw [bt_sfx hi, Nat.zero_add]
theorem sfx_cut {s : ByteArray} {a k : Nat} (h : a + k ≤ s.size) : (sfx s a).extract 0 k = cutT s a (a + k) := by
  have e1 : ((sfx s a).extract 0 k).size = k := by rw [ByteArray.size_extract, sfx_size]; omega
  refine fba_ext (by rw [e1, cutT_size h]; omega) fun i hi => ?_
  rw [e1] at hi
  rw [bt_cutT h (by omega), ← bt_sfx (by omega)]
  have := bt_cutT (s := sfx s a) (a := 0) (b := k) (i := i) (by rw [sfx_size]; omega) (by omega)
  rw [Nat.zero_add] at this
  exact this
theorem sfx_sfx {s : ByteArray} {a k : Nat} (h : a + k ≤ s.size) : (sfx s a).extract k (sfx s a).size = sfx s (a + k) := by
  have e1 : ((sfx s a).extract k (sfx s a).size).size = s.size - (a + k) := by rw [ByteArray.size_extract, sfx_size]; omega
  refine fba_ext (by rw [e1, sfx_size]) fun i hi => ?_
  rw [e1] at hi
  rw [bt_sfx hi]
  have := bt_sfx (s := sfx s a) (a := k) (i := i) (by rw [sfx_size]; omega)
  unfold sfx at this ⊢
  rw [this]
  have h2 := bt_sfx (s := s) (a := a) (i := k + i) (by omega)
  unfold sfx at h2
  rw [h2, Nat.add_assoc]
theorem dc_sfx {s : ByteArray} (a : Nat) : dc (bt (sfx s a)) (sfx s a).size = rn s a := by
  have : ∀ n, n ≤ s.size - a → dc (bt (sfx s a)) n = dc (fun i => bt s (a + i)) n := by
    intro n
    induction n with
    | zero => exact fun _ => rfl
    | succ n ih =>
      intro hn
      rw [dc, dc, ih (by omega), bt_sfx (by omega)]
  rw [sfx_size]
  exact this _ (Nat.le_refl _)
/-- the digits that are run through are digits -/
theorem rn_dgs {s : ByteArray} {a : Nat} (ha : a ≤ s.size) : dgs (bt (cutT s a (a + rn s a))) (rn s a) = true := by
  have h1 := rn_le s a
  obtain ⟨_, h2, _⟩ := dc_facts (fun i => bt s (a + i)) (s.size - a)
  rw [dgs_congr (g := fun i => bt s (a + i)) (fun i hi => bt_cutT (by omega) (by omega))]
  exact h2
end Go.Proofs.YtcndkhgbgjnclaaGreatDoor.nn
/- The real fdec: CutPrefix of one byte, cutDigits, cutSign, place. -/
namespace Go.Proofs.YtcndkhgbgjnclaaGreatDoor.nn
open Go.RowKit

theorem hp_one (S : ByteArray) (c : UInt8) : Lib.hasPrefix S.data.toList (⟨#[c]⟩ : ByteArray).data.toList = decide (0 < S.size ∧ bt S 0 = c.toNat) := by
  obtain ⟨⟨l⟩⟩ := S
  cases l with
  | nil => rfl
  | cons x l =>
    have h1 : bt ⟨⟨x :: l⟩⟩ 0 = x.toNat := by
      rw [bt_at (show 0 < (ByteArray.mk ⟨x :: l⟩).size by simp [ByteArray.size])]
      rfl
    rw [h1]
    have h2 : 0 < (ByteArray.mk ⟨x :: l⟩).size := by simp [ByteArray.size]
    show [c].isPrefixOf (x :: l) = _
    simp only [List.isPrefixOf, Bool.and_true]
    by_cases h : c = x
    · subst h
      rw [decide_eq_true ⟨h2, rfl⟩]
      exact beq_self_eq_true c
    · have h3 : x.toNat ≠ c.toNat := fun g => h (UInt8.toNat_inj.1 g).symm
      rw [decide_eq_false (fun g => h3 g.2)]
      exact beq_eq_false_iff_ne.2 h
def CpAns (_S T : ByteArray) (B : Bool) (w : World) (e : Ending) (w' : World) : Prop := e = .returned (.tuple #[.string T, .bool B]) ∧ w = w'
set_option maxRecDepth 100000 in
set_option maxHeartbeats 400000 in
theorem cutPrefix_no (S : ByteArray) (c : UInt8) (w : World) (h : ¬ (0 < S.size ∧ bt S 0 = c.toNat)) :
    Calls Tryz.prog 70 #[.string S, .string ⟨#[c]⟩] w fun e w' => e = .returned (.tuple #[.string S, .bool false]) ∧ w = w' := by
  have HP := Lib.hid (fun W => Tryz.stringslite_HasPrefix S ⟨#[c]⟩ W)
  rw [hp_one, decide_eq_false h] at HP
  clear h
  have key : Hid (∀ W, Calls Tryz.prog 111 #[.string S, .string ⟨#[c]⟩] W fun e w' => e = .returned (.tuple #[.string S, .bool false]) ∧ W = w') := Lib.hid fun W => by
    go_enter Tryz.func111, Tryz.ntmps111
    go_wp2_with fail
    refine (HP.out _).mono ?_
    rintro e w' ⟨rfl, rfl⟩
    go_wp2_with fail
    go_ret2
    exact ⟨rfl, rfl⟩
  go_enter Tryz.func70, Tryz.ntmps70
  go_wp2_with fail
  refine (key.out _).mono ?_
  rintro e w' ⟨rfl, rfl⟩
  go_wp2_with fail
  go_ret2
  exact ⟨rfl, rfl⟩
set_option maxRecDepth 100000 in
set_option maxHeartbeats 400000 in
theorem cutPrefix_yes (S : ByteArray) (c : UInt8) (w : World) (hs : S.size ≤ maxLen) (h : 0 < S.size ∧ bt S 0 = c.toNat) :
    Calls Tryz.prog 70 #[.string S, .string ⟨#[c]⟩] w fun e w' => e = .returned (.tuple #[.string (S.extract 1 S.size), .bool true]) ∧ w = w' := by
  have HP := Lib.hid (fun W => Tryz.stringslite_HasPrefix S ⟨#[c]⟩ W)
  rw [hp_one, decide_eq_true h] at HP
  have h1 := h.1
  clear h
  unfold maxLen at hs
  have key : Hid (∀ W, Calls Tryz.prog 111 #[.string S, .string ⟨#[c]⟩] W fun e w' => e = .returned (.tuple #[.string (S.extract 1 S.size), .bool true]) ∧ W = w') := Lib.hid fun W => by
    go_enter Tryz.func111, Tryz.ntmps111
    go_wp2_with fail
    refine (HP.out _).mono ?_
    rintro e w' ⟨rfl, rfl⟩
    go_wp2_with fail
    go_ret2
    exact ⟨rfl, rfl⟩
  go_enter Tryz.func70, Tryz.ntmps70
  go_wp2_with fail
  refine (key.out _).mono ?_
  rintro e w' ⟨rfl, rfl⟩
  go_wp2_with fail
  go_ret2
  exact ⟨rfl, rfl⟩
/-- in s, at place a -/
def at_ (s : ByteArray) (a c : Nat) : Bool := decide (a < s.size ∧ bt s a = c)
def CpIs (s : ByteArray) (a : Nat) (B : Bool) (w : World) (e : Ending) (w' : World) : Prop := e = .returned (.tuple #[.string (sfx s (if B then a + 1 else a)), .bool B]) ∧ w = w'
theorem cutPrefix_at (s : ByteArray) (a : Nat) (c : UInt8) (w : World) (hs : s.size ≤ maxLen) (ha : a ≤ s.size) :
    Calls Tryz.prog 70 #[.string (sfx s a), .string ⟨#[c]⟩] w (CpIs s a (at_ s a c.toNat) w) := by
  have hz := sfx_size s a
  by_cases h : a < s.size ∧ bt s a = c.toNat
  · have e1 : at_ s a c.toNat = true := decide_eq_true h
    rw [e1]
    refine (cutPrefix_yes (sfx s a) c w (by unfold maxLen at *; omega) ⟨by omega, by rw [bt_sfx (by omega)]; exact h.2⟩).mono ?_
    rintro e w' ⟨rfl, rfl⟩
    rw [sfx_sfx (by omega)]
    exact ⟨rfl, rfl⟩
  · have e1 : at_ s a c.toNat = false := decide_eq_false h
    rw [e1]
    refine (cutPrefix_no (sfx s a) c w (fun g => h ⟨by omega, by have := g.2; rw [bt_sfx (by omega)] at this; exact this⟩)).mono ?_
    rintro e w' ⟨rfl, rfl⟩
    exact ⟨rfl, rfl⟩

set_option maxRecDepth 100000 in
set_option maxHeartbeats 1000000 in
theorem cutDigits_any (S A B : ByteArray) (k : Nat) (w : World) (hs : S.size ≤ maxLen) (hk : dc (bt S) S.size = k) (hA : S.extract 0 k = A) (hB : S.extract k S.size = B) :
    Calls Tryz.prog 71 #[.string S] w fun e w' => e = .returned (.tuple #[.string A, .string B]) ∧ ∃ j, w' = w.drewN j := by
  have HC := Lib.hid (fun W => countDigits_any S W hs)
  have hle := (dc_facts (bt S) S.size).1
  rw [hk] at HC hle
  unfold maxLen at hs
  have s1 : ∀ W, (Instr.slice 9 (.string S) none (some (.int .i64 (k : Int))) none).run Tryz.prog W = .ok (.string A) W := fun W => by
    rw [run_slice_string_h (w := W) (s := S) (ht := Tryz.underlying9) (h0 := by omega) (h2 := by omega), Int.toNat_natCast, hA]
  have s2 : ∀ W, (Instr.slice 9 (.string S) (some (.int .i64 (k : Int))) none none).run Tryz.prog W = .ok (.string B) W := fun W => by
    rw [run_slice_string_l (w := W) (s := S) (ht := Tryz.underlying9) (h0 := by omega) (h1 := by omega), Int.toNat_natCast, hB]
  clear hk hA hB
  go_enter Tryz.func71, Tryz.ntmps71
  go_wp2_with fail
  refine (HC.out _).mono ?_
  rintro e w' ⟨rfl, rfl⟩
  go_wp2_with fail
  go_quiet (fail)
  go_wp2
  go_ret2
  exact ⟨rfl, _, rfl⟩
/-- cutDigits, in s at place a -/
def CdIs (s : ByteArray) (a : Nat) (w : World) (e : Ending) (w' : World) : Prop := e = .returned (.tuple #[.string (cutT s a (a + rn s a)), .string (sfx s (a + rn s a))]) ∧ ∃ j, w' = w.drewN j
theorem cutDigits_at (s : ByteArray) (a : Nat) (w : World) (hs : s.size ≤ maxLen) (ha : a ≤ s.size) :
    Calls Tryz.prog 71 #[.string (sfx s a)] w (CdIs s a w) := by
  have h1 := rn_le s a
  refine (cutDigits_any (sfx s a) _ _ (rn s a) w (by have := sfx_size s a; unfold maxLen at *; omega) (dc_sfx a) rfl rfl).mono ?_
  rintro e w' ⟨rfl, j, rfl⟩
  rw [sfx_cut (by omega), sfx_sfx (by omega)]
  exact ⟨rfl, j, rfl⟩
/-- cutSign, in s at place a -/
def sgB (s : ByteArray) (a : Nat) : Bool := if at_ s a 43 then false else at_ s a 45
def sgA (s : ByteArray) (a : Nat) : Nat := if at_ s a 43 then a + 1 else if at_ s a 45 then a + 1 else a
def CsIs (s : ByteArray) (a : Nat) (w : World) (e : Ending) (w' : World) : Prop := e = .returned (.tuple #[.bool (sgB s a), .string (sfx s (sgA s a))]) ∧ w = w'
set_option maxRecDepth 100000 in
set_option maxHeartbeats 400000 in
theorem cutSign_at (s : ByteArray) (a : Nat) (w : World) (hs : s.size ≤ maxLen) (ha : a ≤ s.size) :
    Calls Tryz.prog 72 #[.string (sfx s a)] w (CsIs s a w) := by
  have H1 := Lib.hid (fun W => cutPrefix_at s a 43 W hs ha)
  have H2 := Lib.hid (fun W => cutPrefix_at s a 45 W hs ha)
  rw [show (43 : UInt8).toNat = 43 from rfl] at H1
  rw [show (45 : UInt8).toNat = 45 from rfl] at H2
  unfold CpIs at H1 H2
  unfold CsIs sgB sgA
  cases h1 : at_ s a 43 with
  | true =>
    rw [h1, if_pos rfl] at H1
    clear H2 h1
    rw [if_pos rfl, if_pos rfl]
    obtain ⟨T, hT⟩ : ∃ T, sfx s (a + 1) = T := ⟨_, rfl⟩
    rw [hT] at H1
    rw [hT]
    clear hT
    go_enter Tryz.func72, Tryz.ntmps72
    go_wp2_with fail
    refine (H1.out _).mono ?_
    rintro e w' ⟨rfl, rfl⟩
    go_wp2_with fail
    go_ret2
    exact ⟨rfl, rfl⟩
  | false =>
    rw [h1, if_neg (by decide)] at H1
    rw [if_neg (by decide), if_neg (by decide)]
    obtain ⟨B, hB⟩ : ∃ B, at_ s a 45 = B := ⟨_, rfl⟩
    rw [hB] at H2
    rw [hB]
    obtain ⟨T, hT⟩ : ∃ T, sfx s (if B = true then a + 1 else a) = T := ⟨_, rfl⟩
    rw [hT] at H2
    rw [hT]
    clear hT h1 hB
    go_enter Tryz.func72, Tryz.ntmps72
    go_wp2_with fail
    refine (H1.out _).mono ?_
    rintro e w' ⟨rfl, rfl⟩
    go_wp2_with fail
    refine (H2.out _).mono ?_
    rintro e w' ⟨rfl, rfl⟩
    go_wp2_with fail
    go_ret2
    exact ⟨rfl, rfl⟩
end Go.Proofs.YtcndkhgbgjnclaaGreatDoor.nn
/- The real fdec: place, cut. -/
namespace Go.Proofs.YtcndkhgbgjnclaaGreatDoor.nn
open Go.RowKit

/-- the parts of a number as a value -/
def pV (neg : Bool) (W F : ByteArray) (ng : Bool) (X : ByteArray) : Value := .agg #[.bool neg, .string W, .string F, .bool ng, .string X]
def plZ (ng : Bool) (X F : ByteArray) : Int := (if ng then -(dv (bt X) X.size : Int) else (dv (bt X) X.size : Int)) - (F.size : Int)
/-- the boxed parts -/
structure Bp (w : World) (neg : Bool) (F : ByteArray) (ng : Bool) (X : ByteArray) (W : World) : Prop where
  c2 : W.cell? ⟨w.heap.size, 2, none⟩ = some (.string F)
  c3 : W.cell? ⟨w.heap.size, 3, none⟩ = some (.bool ng)
  c4 : W.cell? ⟨w.heap.size, 4, none⟩ = some (.string X)
  b : Below w.heap.size w W
set_option maxRecDepth 100000 in
set_option maxHeartbeats 1000000 in
theorem place_any (neg : Bool) (Wt F : ByteArray) (ng : Bool) (X : ByteArray) (w : World) (hX : X.size ≤ 4) (hF : F.size ≤ 1000) (hd : dgs (bt X) X.size = true) :
    Calls Tryz.prog 30 #[pV neg Wt F ng X] w fun e w' => e = .returned (.int .i64 (plZ ng X F)) ∧ Below w.heap.size w w' := by
  unfold pV
  have HB := Lib.hid (fun T => (⟨by simp, by simp, by simp, (Below.refl _ _).alloc (Nat.le_refl _) _⟩ : Bp w neg F ng X (w.alloc (.cells #[.bool neg, .string Wt, .string F, .bool ng, .string X] T))))
  have HD := Lib.hid hd
  clear hd
  go_enter Tryz.func30, Tryz.ntmps30
  go_wp2_with fail
  have H1 := Lib.hid (HB.out 61)
  obtain ⟨W1, hW1⟩ : ∃ W1, w.alloc (.cells #[.bool neg, .string Wt, .string F, .bool ng, .string X] 61) = W1 := ⟨_, rfl⟩
  rw [hW1] at H1 ⊢
  clear hW1 HB
  have c2 := H1.out.c2
  have c3 := H1.out.c3
  have c4 := H1.out.c4
  go_wp2_with fail
  go_loop [3, 8] (fun s3 s8 => ∃ i : Nat, i ≤ X.size ∧ s8 = .int .i64 (i : Int) ∧ s3 = .int .i64 (dv (bt X) i : Int)) (fun _ s8 => X.size - (intOf s8).toNat)
  case atStart => exact ⟨0, Nat.zero_le _, rfl, rfl⟩
  case round =>
    obtain ⟨i, hi, rfl, rfl⟩ := hrel
    have hv : dv (bt X) i < 10000 := by
      have h1 := dv_lt (dgs_mono HD.out hi)
      have h2 : 10 ^ i ≤ 10 ^ 4 := Nat.pow_le_pow_right (by decide) (by omega)
      omega
    by_cases hlt : i < X.size
    · have hx := bt_at hlt
      have hdx := dgs_at HD.out hlt
      have HV : Hid (dv (bt X) (i + 1) = dv (bt X) i * 10 + (bt X i - 48)) := Lib.hid rfl
      obtain ⟨x, hxx⟩ : ∃ x, X[i].toNat = x := ⟨_, rfl⟩
      rw [hxx] at hx
      rw [hx] at hdx HV
      obtain ⟨D, hDD⟩ : ∃ D, dv (bt X) i = D := ⟨_, rfl⟩
      rw [hDD] at hv HV
      rw [hDD]
      clear hx hDD
      go_wp2_with fail
      go_round
      case rel => exact ⟨i + 1, by omega, by go_num, congrArg (Value.int .i64) (by rw [HV.out]; omega)⟩
      case measure => simp [intOf]; omega
    · obtain rfl : i = X.size := by omega
      have HP : Hid (plZ ng X F = (if ng then -(dv (bt X) X.size : Int) else (dv (bt X) X.size : Int)) - (F.size : Int)) := Lib.hid rfl
      obtain ⟨D, hDD⟩ : ∃ D, dv (bt X) X.size = D := ⟨_, rfl⟩
      rw [hDD] at hv HP
      rw [hDD]
      clear hDD
      cases ng
      · go_wp2_with fail
        go_ret
        exact ⟨ret_int (by rw [HP.out]; simp), H1.out.b⟩
      · go_wp2_with fail
        go_ret
        exact ⟨ret_int (by rw [HP.out]; simp), H1.out.b⟩
end Go.Proofs.YtcndkhgbgjnclaaGreatDoor.nn
/- The real fdec: cut. -/
namespace Go.Proofs.YtcndkhgbgjnclaaGreatDoor.nn
open Go.RowKit

/-! the places of a written number -/
def cA (s : ByteArray) : Nat := if at_ s 0 45 then 1 else 0
def cB (s : ByteArray) : Nat := cA s + rn s (cA s)
def cDot (s : ByteArray) : Bool := at_ s (cB s) 46
def cC (s : ByteArray) : Nat := if cDot s then cB s + 1 + rn s (cB s + 1) else cB s
def cE (s : ByteArray) : Bool := at_ s (cC s) 101 || at_ s (cC s) 69
def cS (s : ByteArray) : Nat := sgA s (cC s + 1)
def cD (s : ByteArray) : Nat := if cE s then cS s + rn s (cS s) else cC s
/-- the form is right -/
def cOk (s : ByteArray) : Bool := decide (0 < rn s (cA s)) && (!cDot s || decide (0 < rn s (cB s + 1))) && (!cE s || decide (0 < rn s (cS s))) && decide (cD s = s.size)
def cW (s : ByteArray) : ByteArray := cutT s (cA s) (cB s)
def cF (s : ByteArray) : ByteArray := if cDot s then cutT s (cB s + 1) (cC s) else ⟨#[]⟩
def cX (s : ByteArray) : ByteArray := if cE s then cutT s (cS s) (cD s) else ⟨#[]⟩
def cN (s : ByteArray) : Bool := if cE s then sgB s (cC s + 1) else false
theorem at_le {s : ByteArray} {a c : Nat} (h : at_ s a c = true) : a < s.size ∧ bt s a = c := of_decide_eq_true h
theorem cA_le (s : ByteArray) : cA s ≤ s.size := by
  unfold cA
  split
  · have := (at_le ‹_›).1; omega
  · omega
theorem cB_le (s : ByteArray) : cB s ≤ s.size := by
  have h1 := cA_le s
  have h2 := rn_le s (cA s)
  unfold cB
  omega
theorem cC_le (s : ByteArray) : cC s ≤ s.size ∧ (cDot s = true → cB s + 1 ≤ s.size) := by
  have h1 := cB_le s
  have h2 := rn_le s (cB s + 1)
  unfold cC
  cases h : cDot s with
  | true =>
    have := (at_le h).1
    rw [if_pos rfl]
    exact ⟨by omega, fun _ => by omega⟩
  | false => rw [if_neg (by decide)]; exact ⟨h1, fun h => by cases h⟩
theorem sgA_le {s : ByteArray} {a : Nat} (h : a ≤ s.size) : a ≤ sgA s a ∧ sgA s a ≤ s.size := by
  unfold sgA
  split
  · have := (at_le ‹_›).1; omega
  · split
    · have := (at_le ‹_›).1; omega
    · omega
theorem cE_lt {s : ByteArray} (h : cE s = true) : cC s + 1 ≤ s.size := by
  unfold cE at h
  rw [Bool.or_eq_true] at h
  rcases h with h | h
  · have := (at_le h).1; omega
  · have := (at_le h).1; omega
theorem cD_le (s : ByteArray) : cD s ≤ s.size := by
  unfold cD
  cases h : cE s with
  | true =>
    have h1 := cE_lt h
    have h2 := sgA_le h1
    have h3 := rn_le s (cS s)
    unfold cS at *
    rw [if_pos rfl]
    omega
  | false => rw [if_neg (by decide)]; exact (cC_le s).1
/-- is a text empty -/
theorem empty_of (S : ByteArray) : S.toList.isEmpty = decide (S.size = 0) := by
  by_cases h : S.size = 0
  · rw [nil_text h, ByteArray.toList_eq]; rfl
  · rw [not_nil_text (by omega), decide_eq_false h]

/-! the two boxes of cut: the answer's, at the call's first block, and the parts' behind it -/
def row5 (a b c d e : Value) : Array Value := #[a, b, c, d, e]
def e0 : ByteArray := ⟨#[]⟩
structure Cx (w : World) (a b c d e : Value) (W : World) : Prop where
  r : W.heap[w.heap.size]? = some (.cells (row5 (.bool false) (.string e0) (.string e0) (.bool false) (.string e0)) 61 (0, 0))
  p : W.heap[w.heap.size + 1]? = some (.cells (row5 a b c d e) 61 (0, 0))
  b : Below w.heap.size w W
  z : w.heap.size + 1 < W.heap.size
theorem Cx.new (w : World) : Cx w (.bool false) (.string e0) (.string e0) (.bool false) (.string e0) ((w.alloc (.cells #[.bool false, .string ⟨#[]⟩, .string ⟨#[]⟩, .bool false, .string ⟨#[]⟩] 61)).alloc (.cells #[.bool false, .string ⟨#[]⟩, .string ⟨#[]⟩, .bool false, .string ⟨#[]⟩] 61)) := by
  refine ⟨?_, ?_, ((Below.refl _ _).alloc (Nat.le_refl _) _).alloc (by rw [hsz]; omega) _, by rw [hsz, hsz]; omega⟩
  · show ((w.heap.push _).push _)[w.heap.size]? = _
    rw [Array.getElem?_push, if_neg (by simp), Array.getElem?_push, if_pos rfl]
    rfl
  · show ((w.heap.push _).push _)[w.heap.size + 1]? = _
    rw [Array.getElem?_push, if_pos (by simp)]
    rfl
section
variable {w W W' : World} {a b c d e : Value}
theorem Cx.on (h : Cx w a b c d e W) (hb : Below W.heap.size W W') : Cx w a b c d e W' :=
  ⟨(hb.block _ (by have := h.z; omega)).trans h.r, (hb.block _ h.z).trans h.p, h.b.trans (hb.mono (by have := h.z; omega)), Nat.lt_of_lt_of_le h.z hb.size⟩
theorem Cx.put (h : Cx w a b c d e W) (i : Nat) (v : Value) (a' b' c' d' e' : Value) (hr : (row5 a b c d e).setIfInBounds i v = row5 a' b' c' d' e') : Cx w a' b' c' d' e' (W.setCell ⟨w.heap.size + 1, i, none⟩ v) := by
  refine ⟨?_, ?_, h.b.setCell (by show w.heap.size ≤ w.heap.size + 1; omega) _, by have := h.z; simpa [World.setCell] using this⟩
  · have := h.r
    simp [World.setCell, Array.getElem?_modify, this]
  · have := h.p
    rw [← hr]
    simp [World.setCell, Array.getElem?_modify, this]
theorem Cx.put0 (h : Cx w a b c d e W) (v : Value) : Cx w v b c d e (W.setCell ⟨w.heap.size + 1, 0, none⟩ v) := h.put 0 v _ _ _ _ _ rfl
theorem Cx.put1 (h : Cx w a b c d e W) (v : Value) : Cx w a v c d e (W.setCell ⟨w.heap.size + 1, 1, none⟩ v) := h.put 1 v _ _ _ _ _ rfl
theorem Cx.put2 (h : Cx w a b c d e W) (v : Value) : Cx w a b v d e (W.setCell ⟨w.heap.size + 1, 2, none⟩ v) := h.put 2 v _ _ _ _ _ rfl
theorem Cx.put3 (h : Cx w a b c d e W) (v : Value) : Cx w a b c v e (W.setCell ⟨w.heap.size + 1, 3, none⟩ v) := h.put 3 v _ _ _ _ _ rfl
theorem Cx.put4 (h : Cx w a b c d e W) (v : Value) : Cx w a b c d v (W.setCell ⟨w.heap.size + 1, 4, none⟩ v) := h.put 4 v _ _ _ _ _ rfl
theorem Cx.at (h : Cx w a b c d e W) (i : Nat) : W.cell? ⟨w.heap.size + 1, i, none⟩ = (row5 a b c d e)[i]? ∧ W.frozen? ⟨w.heap.size + 1, i, none⟩ = false := by
  refine ⟨cell_of_row W _ i _ _ _ h.p, ?_⟩
  have := h.p
  simp [World.frozen?, this]
theorem Cx.rat (h : Cx w a b c d e W) (i : Nat) : W.cell? ⟨w.heap.size, i, none⟩ = (row5 (.bool false) (.string e0) (.string e0) (.bool false) (.string e0))[i]? ∧ W.frozen? ⟨w.heap.size, i, none⟩ = false := by
  refine ⟨cell_of_row W _ i _ _ _ h.r, ?_⟩
  have := h.r
  simp [World.frozen?, this]
theorem Cx.cells (h : Cx w a b c d e W) : W.cell? ⟨w.heap.size + 1, 0, none⟩ = some a ∧ W.cell? ⟨w.heap.size + 1, 1, none⟩ = some b ∧ W.cell? ⟨w.heap.size + 1, 2, none⟩ = some c ∧ W.cell? ⟨w.heap.size + 1, 3, none⟩ = some d ∧ W.cell? ⟨w.heap.size + 1, 4, none⟩ = some e :=
  ⟨(h.at 0).1, (h.at 1).1, (h.at 2).1, (h.at 3).1, (h.at 4).1⟩
theorem Cx.marks (h : Cx w a b c d e W) : W.frozen? ⟨w.heap.size + 1, 0, none⟩ = false ∧ W.frozen? ⟨w.heap.size + 1, 1, none⟩ = false ∧ W.frozen? ⟨w.heap.size + 1, 2, none⟩ = false ∧ W.frozen? ⟨w.heap.size + 1, 3, none⟩ = false ∧ W.frozen? ⟨w.heap.size + 1, 4, none⟩ = false :=
  ⟨(h.at 0).2, (h.at 1).2, (h.at 2).2, (h.at 3).2, (h.at 4).2⟩
theorem Cx.rcells (h : Cx w a b c d e W) : W.cell? ⟨w.heap.size, 0, none⟩ = some (.bool false) ∧ W.cell? ⟨w.heap.size, 1, none⟩ = some (.string e0) ∧ W.cell? ⟨w.heap.size, 2, none⟩ = some (.string e0) ∧ W.cell? ⟨w.heap.size, 3, none⟩ = some (.bool false) ∧ W.cell? ⟨w.heap.size, 4, none⟩ = some (.string e0) :=
  ⟨(h.rat 0).1, (h.rat 1).1, (h.rat 2).1, (h.rat 3).1, (h.rat 4).1⟩
theorem Cx.rmarks (h : Cx w a b c d e W) : W.frozen? ⟨w.heap.size, 0, none⟩ = false ∧ W.frozen? ⟨w.heap.size, 1, none⟩ = false ∧ W.frozen? ⟨w.heap.size, 2, none⟩ = false ∧ W.frozen? ⟨w.heap.size, 3, none⟩ = false ∧ W.frozen? ⟨w.heap.size, 4, none⟩ = false :=
  ⟨(h.rat 0).2, (h.rat 1).2, (h.rat 2).2, (h.rat 3).2, (h.rat 4).2⟩
end
def CuAns (neg : Bool) (Wt F : ByteArray) (ng : Bool) (X : ByteArray) (ok : Bool) (w : World) (e : Ending) (w' : World) : Prop :=
  e = .returned (.tuple #[.agg #[.bool neg, .string Wt, .string F, .bool ng, .string X], .bool ok]) ∧ Below w.heap.size w w'
def Cp (w : World) (S T : ByteArray) (c : UInt8) (B : Bool) : Prop := ∀ a1 a2 a3 a4 a5 W, Cx w a1 a2 a3 a4 a5 W → Calls Tryz.prog 70 #[.string S, .string ⟨#[c]⟩] W fun e w' => e = .returned (.tuple #[.string T, .bool B]) ∧ Cx w a1 a2 a3 a4 a5 w'
def Cd (w : World) (S A B : ByteArray) : Prop := ∀ a1 a2 a3 a4 a5 W, Cx w a1 a2 a3 a4 a5 W → Calls Tryz.prog 71 #[.string S] W fun e w' => e = .returned (.tuple #[.string A, .string B]) ∧ Cx w a1 a2 a3 a4 a5 w'
def Cs (w : World) (S T : ByteArray) (ng : Bool) : Prop := ∀ a1 a2 a3 a4 a5 W, Cx w a1 a2 a3 a4 a5 W → Calls Tryz.prog 72 #[.string S] W fun e w' => e = .returned (.tuple #[.bool ng, .string T]) ∧ Cx w a1 a2 a3 a4 a5 w'
end Go.Proofs.YtcndkhgbgjnclaaGreatDoor.nn
/- The real fdec: the walks of cut, one for each way. -/
namespace Go.Proofs.YtcndkhgbgjnclaaGreatDoor.nn
open Go.RowKit

set_option maxRecDepth 100000 in
set_option maxHeartbeats 4000000 in
theorem cut_0z (s T1 T2 Wt : ByteArray) (neg bW : Bool) (w : World) (H1 : Hid (Cp w s T1 45 neg)) (H2 : Hid (Cd w T1 Wt T2)) (zW : Wt.toList.isEmpty = !bW) (H3 : Hid (Cp w T2 T2 46 false)) (zT : T2.toList.isEmpty = true) :
    Calls Tryz.prog 29 #[.string s] w (CuAns neg Wt e0 false e0 (bW) w) := by
  have HX := Lib.hid (Cx.new w)
  cases bW
  all_goals
    go_enter Tryz.func29, Tryz.ntmps29
    go_wp2_with fail
    refine (H1.out _ _ _ _ _ _ HX.out).mono ?_
    rintro e w1 ⟨rfl, hx⟩
    have X1 := Lib.hid (hx.put0 (.bool neg))
    have f0 := hx.marks.1
    have c0 := hx.cells.1
    clear hx
    go_wp2_with fail
    refine (H2.out _ _ _ _ _ _ X1.out).mono ?_
    rintro e w2 ⟨rfl, hx⟩
    have X2 := Lib.hid (hx.put1 (.string Wt))
    have f1 := hx.marks.2.1
    have c1 := hx.cells.2.1
    clear hx f0 c0
    go_wp2_with fail
    refine (H3.out _ _ _ _ _ _ X2.out).mono ?_
    rintro e w3 ⟨rfl, hx⟩
    clear f1 c1
    have X3 := Lib.hid hx
    clear hx
    obtain ⟨c0, c1, c2, c3, c4⟩ := X3.out.cells
    obtain ⟨r0, r1, r2, r3, r4⟩ := X3.out.rcells
    obtain ⟨m0, m1, m2, m3, m4⟩ := X3.out.rmarks
    go_wp2_with fail
    first
      | refine bodyPost_ret (v := .tuple #[.agg #[.bool neg, .string Wt, .string e0, .bool false, .string e0], .bool false]) (by simp [results, Tryz.results29, go_sem, r0, r1, r2, r3, r4]) rfl ⟨rfl, ?_⟩
      | refine bodyPost_ret (v := .tuple #[.agg #[.bool neg, .string Wt, .string e0, .bool false, .string e0], .bool true]) (by simp [results, Tryz.results29, go_sem, r0, r1, r2, r3, r4]) rfl ⟨rfl, ?_⟩
    exact ((((X3.out.b.setCell (Nat.le_refl _) _).setCell (Nat.le_refl _) _).setCell (Nat.le_refl _) _).setCell (Nat.le_refl _) _).setCell (Nat.le_refl _) _

set_option maxRecDepth 100000 in
set_option maxHeartbeats 4000000 in
theorem cut_0o (s T1 T2 Wt : ByteArray) (neg bW : Bool) (w : World) (H1 : Hid (Cp w s T1 45 neg)) (H2 : Hid (Cd w T1 Wt T2)) (zW : Wt.toList.isEmpty = !bW) (H3 : Hid (Cp w T2 T2 46 false)) (zT : T2.toList.isEmpty = false) (y : Nat) (h0 : 0 < T2.size) (hxx : T2[0].toNat = y) (n1 : ((y : Int) == 101) = false) (n2 : ((y : Int) == 69) = false) :
    Calls Tryz.prog 29 #[.string s] w (CuAns neg Wt e0 false e0 (false) w) := by
  have HX := Lib.hid (Cx.new w)
  cases bW
  all_goals
    go_enter Tryz.func29, Tryz.ntmps29
    go_wp2_with fail
    refine (H1.out _ _ _ _ _ _ HX.out).mono ?_
    rintro e w1 ⟨rfl, hx⟩
    have X1 := Lib.hid (hx.put0 (.bool neg))
    have f0 := hx.marks.1
    have c0 := hx.cells.1
    clear hx
    go_wp2_with fail
    refine (H2.out _ _ _ _ _ _ X1.out).mono ?_
    rintro e w2 ⟨rfl, hx⟩
    have X2 := Lib.hid (hx.put1 (.string Wt))
    have f1 := hx.marks.2.1
    have c1 := hx.cells.2.1
    clear hx f0 c0
    go_wp2_with fail
    refine (H3.out _ _ _ _ _ _ X2.out).mono ?_
    rintro e w3 ⟨rfl, hx⟩
    clear f1 c1
    have X3 := Lib.hid hx
    clear hx
    obtain ⟨c0, c1, c2, c3, c4⟩ := X3.out.cells
    obtain ⟨r0, r1, r2, r3, r4⟩ := X3.out.rcells
    obtain ⟨m0, m1, m2, m3, m4⟩ := X3.out.rmarks
    go_wp2_with fail
    first
      | refine bodyPost_ret (v := .tuple #[.agg #[.bool neg, .string Wt, .string e0, .bool false, .string e0], .bool false]) (by simp [results, Tryz.results29, go_sem, r0, r1, r2, r3, r4]) rfl ⟨rfl, ?_⟩
      | refine bodyPost_ret (v := .tuple #[.agg #[.bool neg, .string Wt, .string e0, .bool false, .string e0], .bool true]) (by simp [results, Tryz.results29, go_sem, r0, r1, r2, r3, r4]) rfl ⟨rfl, ?_⟩
    exact ((((X3.out.b.setCell (Nat.le_refl _) _).setCell (Nat.le_refl _) _).setCell (Nat.le_refl _) _).setCell (Nat.le_refl _) _).setCell (Nat.le_refl _) _

set_option maxRecDepth 100000 in
set_option maxHeartbeats 4000000 in
theorem cut_0e (s T1 T2 Wt : ByteArray) (neg bW : Bool) (w : World) (H1 : Hid (Cp w s T1 45 neg)) (H2 : Hid (Cd w T1 Wt T2)) (zW : Wt.toList.isEmpty = !bW) (H3 : Hid (Cp w T2 T2 46 false)) (zT : T2.toList.isEmpty = false) (y : Nat) (h0 : 0 < T2.size) (hxx : T2[0].toNat = y) (hy : y = 101) (R5 R6 X R7 : ByteArray) (ng bX bZ : Bool) (s1 : ∀ W, (Instr.slice 9 (.string T2) (some (.int .i64 1)) none none).run Tryz.prog W = .ok (.string R5) W) (H5 : Hid (Cs w R5 R6 ng)) (H6 : Hid (Cd w R6 X R7)) (zX : X.toList.isEmpty = !bX) (zZ : R7.toList.isEmpty = bZ) :
    Calls Tryz.prog 29 #[.string s] w (CuAns neg Wt e0 ng X (bW && bX && bZ) w) := by
  have HX := Lib.hid (Cx.new w)
  subst hy
  cases bW <;> cases bX <;> cases bZ
  all_goals
    go_enter Tryz.func29, Tryz.ntmps29
    go_wp2_with fail
    refine (H1.out _ _ _ _ _ _ HX.out).mono ?_
    rintro e w1 ⟨rfl, hx⟩
    have X1 := Lib.hid (hx.put0 (.bool neg))
    have f0 := hx.marks.1
    have c0 := hx.cells.1
    clear hx
    go_wp2_with fail
    refine (H2.out _ _ _ _ _ _ X1.out).mono ?_
    rintro e w2 ⟨rfl, hx⟩
    have X2 := Lib.hid (hx.put1 (.string Wt))
    have f1 := hx.marks.2.1
    have c1 := hx.cells.2.1
    clear hx f0 c0
    go_wp2_with fail
    refine (H3.out _ _ _ _ _ _ X2.out).mono ?_
    rintro e w3 ⟨rfl, hx⟩
    clear f1 c1
    have X3 := Lib.hid hx
    clear hx
    go_wp2_with fail
    refine (H5.out _ _ _ _ _ _ X3.out).mono ?_
    rintro e w5 ⟨rfl, hx⟩
    skip
    have X5 := Lib.hid (hx.put3 (.bool ng))
    have f3 := hx.marks.2.2.2.1
    have c3 := hx.cells.2.2.2.1
    clear hx
    go_wp2_with fail
    refine (H6.out _ _ _ _ _ _ X5.out).mono ?_
    rintro e w6 ⟨rfl, hx⟩
    clear f3 c3
    have X6 := Lib.hid (hx.put4 (.string X))
    have f4 := hx.marks.2.2.2.2
    obtain ⟨c0, c1, c2, c3, c4⟩ := hx.cells
    obtain ⟨r0, r1, r2, r3, r4⟩ := hx.rcells
    obtain ⟨m0, m1, m2, m3, m4⟩ := hx.rmarks
    clear hx
    go_wp2_with fail
    first
      | refine bodyPost_ret (v := .tuple #[.agg #[.bool neg, .string Wt, .string e0, .bool ng, .string X], .bool false]) (by simp [results, Tryz.results29, go_sem, r0, r1, r2, r3, r4]) rfl ⟨rfl, ?_⟩
      | refine bodyPost_ret (v := .tuple #[.agg #[.bool neg, .string Wt, .string e0, .bool ng, .string X], .bool true]) (by simp [results, Tryz.results29, go_sem, r0, r1, r2, r3, r4]) rfl ⟨rfl, ?_⟩
    exact ((((X6.out.b.setCell (Nat.le_refl _) _).setCell (Nat.le_refl _) _).setCell (Nat.le_refl _) _).setCell (Nat.le_refl _) _).setCell (Nat.le_refl _) _

set_option maxRecDepth 100000 in
set_option maxHeartbeats 4000000 in
theorem cut_0E (s T1 T2 Wt : ByteArray) (neg bW : Bool) (w : World) (H1 : Hid (Cp w s T1 45 neg)) (H2 : Hid (Cd w T1 Wt T2)) (zW : Wt.toList.isEmpty = !bW) (H3 : Hid (Cp w T2 T2 46 false)) (zT : T2.toList.isEmpty = false) (y : Nat) (h0 : 0 < T2.size) (hxx : T2[0].toNat = y) (hy : y = 69) (R5 R6 X R7 : ByteArray) (ng bX bZ : Bool) (s1 : ∀ W, (Instr.slice 9 (.string T2) (some (.int .i64 1)) none none).run Tryz.prog W = .ok (.string R5) W) (H5 : Hid (Cs w R5 R6 ng)) (H6 : Hid (Cd w R6 X R7)) (zX : X.toList.isEmpty = !bX) (zZ : R7.toList.isEmpty = bZ) :
    Calls Tryz.prog 29 #[.string s] w (CuAns neg Wt e0 ng X (bW && bX && bZ) w) := by
  have HX := Lib.hid (Cx.new w)
  subst hy
  cases bW <;> cases bX <;> cases bZ
  all_goals
    go_enter Tryz.func29, Tryz.ntmps29
    go_wp2_with fail
    refine (H1.out _ _ _ _ _ _ HX.out).mono ?_
    rintro e w1 ⟨rfl, hx⟩
    have X1 := Lib.hid (hx.put0 (.bool neg))
    have f0 := hx.marks.1
    have c0 := hx.cells.1
    clear hx
    go_wp2_with fail
    refine (H2.out _ _ _ _ _ _ X1.out).mono ?_
    rintro e w2 ⟨rfl, hx⟩
    have X2 := Lib.hid (hx.put1 (.string Wt))
    have f1 := hx.marks.2.1
    have c1 := hx.cells.2.1
    clear hx f0 c0
    go_wp2_with fail
    refine (H3.out _ _ _ _ _ _ X2.out).mono ?_
    rintro e w3 ⟨rfl, hx⟩
    clear f1 c1
    have X3 := Lib.hid hx
    clear hx
    go_wp2_with fail
    refine (H5.out _ _ _ _ _ _ X3.out).mono ?_
    rintro e w5 ⟨rfl, hx⟩
    skip
    have X5 := Lib.hid (hx.put3 (.bool ng))
    have f3 := hx.marks.2.2.2.1
    have c3 := hx.cells.2.2.2.1
    clear hx
    go_wp2_with fail
    refine (H6.out _ _ _ _ _ _ X5.out).mono ?_
    rintro e w6 ⟨rfl, hx⟩
    clear f3 c3
    have X6 := Lib.hid (hx.put4 (.string X))
    have f4 := hx.marks.2.2.2.2
    obtain ⟨c0, c1, c2, c3, c4⟩ := hx.cells
    obtain ⟨r0, r1, r2, r3, r4⟩ := hx.rcells
    obtain ⟨m0, m1, m2, m3, m4⟩ := hx.rmarks
    clear hx
    go_wp2_with fail
    first
      | refine bodyPost_ret (v := .tuple #[.agg #[.bool neg, .string Wt, .string e0, .bool ng, .string X], .bool false]) (by simp [results, Tryz.results29, go_sem, r0, r1, r2, r3, r4]) rfl ⟨rfl, ?_⟩
      | refine bodyPost_ret (v := .tuple #[.agg #[.bool neg, .string Wt, .string e0, .bool ng, .string X], .bool true]) (by simp [results, Tryz.results29, go_sem, r0, r1, r2, r3, r4]) rfl ⟨rfl, ?_⟩
    exact ((((X6.out.b.setCell (Nat.le_refl _) _).setCell (Nat.le_refl _) _).setCell (Nat.le_refl _) _).setCell (Nat.le_refl _) _).setCell (Nat.le_refl _) _

set_option maxRecDepth 100000 in
set_option maxHeartbeats 4000000 in
theorem cut_1z (s T1 T2 Wt : ByteArray) (neg bW : Bool) (w : World) (H1 : Hid (Cp w s T1 45 neg)) (H2 : Hid (Cd w T1 Wt T2)) (zW : Wt.toList.isEmpty = !bW) (T3 F T4 : ByteArray) (bF : Bool) (H3 : Hid (Cp w T2 T3 46 true)) (H4 : Hid (Cd w T3 F T4)) (zF : F.toList.isEmpty = !bF) (zT : T4.toList.isEmpty = true) :
    Calls Tryz.prog 29 #[.string s] w (CuAns neg Wt F false e0 (bW && bF) w) := by
  have HX := Lib.hid (Cx.new w)
  cases bW <;> cases bF
  all_goals
    go_enter Tryz.func29, Tryz.ntmps29
    go_wp2_with fail
    refine (H1.out _ _ _ _ _ _ HX.out).mono ?_
    rintro e w1 ⟨rfl, hx⟩
    have X1 := Lib.hid (hx.put0 (.bool neg))
    have f0 := hx.marks.1
    have c0 := hx.cells.1
    clear hx
    go_wp2_with fail
    refine (H2.out _ _ _ _ _ _ X1.out).mono ?_
    rintro e w2 ⟨rfl, hx⟩
    have X2 := Lib.hid (hx.put1 (.string Wt))
    have f1 := hx.marks.2.1
    have c1 := hx.cells.2.1
    clear hx f0 c0
    go_wp2_with fail
    refine (H3.out _ _ _ _ _ _ X2.out).mono ?_
    rintro e w3 ⟨rfl, hx⟩
    clear f1 c1
    have X3 := Lib.hid hx
    clear hx
    go_wp2_with fail
    refine (H4.out _ _ _ _ _ _ X3.out).mono ?_
    rintro e w4 ⟨rfl, hx⟩
    have X4 := Lib.hid (hx.put2 (.string F))
    have f2 := hx.marks.2.2.1
    have c2 := hx.cells.2.2.1
    obtain ⟨c0, c1, _, c3, c4⟩ := hx.cells
    obtain ⟨r0, r1, r2, r3, r4⟩ := hx.rcells
    obtain ⟨m0, m1, m2, m3, m4⟩ := hx.rmarks
    clear hx
    go_wp2_with fail
    first
      | refine bodyPost_ret (v := .tuple #[.agg #[.bool neg, .string Wt, .string F, .bool false, .string e0], .bool false]) (by simp [results, Tryz.results29, go_sem, r0, r1, r2, r3, r4]) rfl ⟨rfl, ?_⟩
      | refine bodyPost_ret (v := .tuple #[.agg #[.bool neg, .string Wt, .string F, .bool false, .string e0], .bool true]) (by simp [results, Tryz.results29, go_sem, r0, r1, r2, r3, r4]) rfl ⟨rfl, ?_⟩
    exact ((((X4.out.b.setCell (Nat.le_refl _) _).setCell (Nat.le_refl _) _).setCell (Nat.le_refl _) _).setCell (Nat.le_refl _) _).setCell (Nat.le_refl _) _

set_option maxRecDepth 100000 in
set_option maxHeartbeats 4000000 in
theorem cut_1o (s T1 T2 Wt : ByteArray) (neg bW : Bool) (w : World) (H1 : Hid (Cp w s T1 45 neg)) (H2 : Hid (Cd w T1 Wt T2)) (zW : Wt.toList.isEmpty = !bW) (T3 F T4 : ByteArray) (bF : Bool) (H3 : Hid (Cp w T2 T3 46 true)) (H4 : Hid (Cd w T3 F T4)) (zF : F.toList.isEmpty = !bF) (zT : T4.toList.isEmpty = false) (y : Nat) (h0 : 0 < T4.size) (hxx : T4[0].toNat = y) (n1 : ((y : Int) == 101) = false) (n2 : ((y : Int) == 69) = false) :
    Calls Tryz.prog 29 #[.string s] w (CuAns neg Wt F false e0 (false) w) := by
  have HX := Lib.hid (Cx.new w)
  cases bW <;> cases bF
  all_goals
    go_enter Tryz.func29, Tryz.ntmps29
    go_wp2_with fail
    refine (H1.out _ _ _ _ _ _ HX.out).mono ?_
    rintro e w1 ⟨rfl, hx⟩
    have X1 := Lib.hid (hx.put0 (.bool neg))
    have f0 := hx.marks.1
    have c0 := hx.cells.1
    clear hx
    go_wp2_with fail
    refine (H2.out _ _ _ _ _ _ X1.out).mono ?_
    rintro e w2 ⟨rfl, hx⟩
    have X2 := Lib.hid (hx.put1 (.string Wt))
    have f1 := hx.marks.2.1
    have c1 := hx.cells.2.1
    clear hx f0 c0
    go_wp2_with fail
    refine (H3.out _ _ _ _ _ _ X2.out).mono ?_
    rintro e w3 ⟨rfl, hx⟩
    clear f1 c1
    have X3 := Lib.hid hx
    clear hx
    go_wp2_with fail
    refine (H4.out _ _ _ _ _ _ X3.out).mono ?_
    rintro e w4 ⟨rfl, hx⟩
    have X4 := Lib.hid (hx.put2 (.string F))
    have f2 := hx.marks.2.2.1
    have c2 := hx.cells.2.2.1
    obtain ⟨c0, c1, _, c3, c4⟩ := hx.cells
    obtain ⟨r0, r1, r2, r3, r4⟩ := hx.rcells
    obtain ⟨m0, m1, m2, m3, m4⟩ := hx.rmarks
    clear hx
    go_wp2_with fail
    first
      | refine bodyPost_ret (v := .tuple #[.agg #[.bool neg, .string Wt, .string F, .bool false, .string e0], .bool false]) (by simp [results, Tryz.results29, go_sem, r0, r1, r2, r3, r4]) rfl ⟨rfl, ?_⟩
      | refine bodyPost_ret (v := .tuple #[.agg #[.bool neg, .string Wt, .string F, .bool false, .string e0], .bool true]) (by simp [results, Tryz.results29, go_sem, r0, r1, r2, r3, r4]) rfl ⟨rfl, ?_⟩
    exact ((((X4.out.b.setCell (Nat.le_refl _) _).setCell (Nat.le_refl _) _).setCell (Nat.le_refl _) _).setCell (Nat.le_refl _) _).setCell (Nat.le_refl _) _

set_option maxRecDepth 100000 in
set_option maxHeartbeats 4000000 in
theorem cut_1e (s T1 T2 Wt : ByteArray) (neg bW : Bool) (w : World) (H1 : Hid (Cp w s T1 45 neg)) (H2 : Hid (Cd w T1 Wt T2)) (zW : Wt.toList.isEmpty = !bW) (T3 F T4 : ByteArray) (bF : Bool) (H3 : Hid (Cp w T2 T3 46 true)) (H4 : Hid (Cd w T3 F T4)) (zF : F.toList.isEmpty = !bF) (zT : T4.toList.isEmpty = false) (y : Nat) (h0 : 0 < T4.size) (hxx : T4[0].toNat = y) (hy : y = 101) (R5 R6 X R7 : ByteArray) (ng bX bZ : Bool) (s1 : ∀ W, (Instr.slice 9 (.string T4) (some (.int .i64 1)) none none).run Tryz.prog W = .ok (.string R5) W) (H5 : Hid (Cs w R5 R6 ng)) (H6 : Hid (Cd w R6 X R7)) (zX : X.toList.isEmpty = !bX) (zZ : R7.toList.isEmpty = bZ) :
    Calls Tryz.prog 29 #[.string s] w (CuAns neg Wt F ng X (bW && bF && bX && bZ) w) := by
  have HX := Lib.hid (Cx.new w)
  subst hy
  cases bW <;> cases bF <;> cases bX <;> cases bZ
  all_goals
    go_enter Tryz.func29, Tryz.ntmps29
    go_wp2_with fail
    refine (H1.out _ _ _ _ _ _ HX.out).mono ?_
    rintro e w1 ⟨rfl, hx⟩
    have X1 := Lib.hid (hx.put0 (.bool neg))
    have f0 := hx.marks.1
    have c0 := hx.cells.1
    clear hx
    go_wp2_with fail
    refine (H2.out _ _ _ _ _ _ X1.out).mono ?_
    rintro e w2 ⟨rfl, hx⟩
    have X2 := Lib.hid (hx.put1 (.string Wt))
    have f1 := hx.marks.2.1
    have c1 := hx.cells.2.1
    clear hx f0 c0
    go_wp2_with fail
    refine (H3.out _ _ _ _ _ _ X2.out).mono ?_
    rintro e w3 ⟨rfl, hx⟩
    clear f1 c1
    have X3 := Lib.hid hx
    clear hx
    go_wp2_with fail
    refine (H4.out _ _ _ _ _ _ X3.out).mono ?_
    rintro e w4 ⟨rfl, hx⟩
    have X4 := Lib.hid (hx.put2 (.string F))
    have f2 := hx.marks.2.2.1
    have c2 := hx.cells.2.2.1
    clear hx
    go_wp2_with fail
    refine (H5.out _ _ _ _ _ _ X4.out).mono ?_
    rintro e w5 ⟨rfl, hx⟩
    clear f2 c2
    have X5 := Lib.hid (hx.put3 (.bool ng))
    have f3 := hx.marks.2.2.2.1
    have c3 := hx.cells.2.2.2.1
    clear hx
    go_wp2_with fail
    refine (H6.out _ _ _ _ _ _ X5.out).mono ?_
    rintro e w6 ⟨rfl, hx⟩
    clear f3 c3
    have X6 := Lib.hid (hx.put4 (.string X))
    have f4 := hx.marks.2.2.2.2
    obtain ⟨c0, c1, c2, c3, c4⟩ := hx.cells
    obtain ⟨r0, r1, r2, r3, r4⟩ := hx.rcells
    obtain ⟨m0, m1, m2, m3, m4⟩ := hx.rmarks
    clear hx
    go_wp2_with fail
    first
      | refine bodyPost_ret (v := .tuple #[.agg #[.bool neg, .string Wt, .string F, .bool ng, .string X], .bool false]) (by simp [results, Tryz.results29, go_sem, r0, r1, r2, r3, r4]) rfl ⟨rfl, ?_⟩
      | refine bodyPost_ret (v := .tuple #[.agg #[.bool neg, .string Wt, .string F, .bool ng, .string X], .bool true]) (by simp [results, Tryz.results29, go_sem, r0, r1, r2, r3, r4]) rfl ⟨rfl, ?_⟩
    exact ((((X6.out.b.setCell (Nat.le_refl _) _).setCell (Nat.le_refl _) _).setCell (Nat.le_refl _) _).setCell (Nat.le_refl _) _).setCell (Nat.le_refl _) _

set_option maxRecDepth 100000 in
set_option maxHeartbeats 4000000 in
theorem cut_1E (s T1 T2 Wt : ByteArray) (neg bW : Bool) (w : World) (H1 : Hid (Cp w s T1 45 neg)) (H2 : Hid (Cd w T1 Wt T2)) (zW : Wt.toList.isEmpty = !bW) (T3 F T4 : ByteArray) (bF : Bool) (H3 : Hid (Cp w T2 T3 46 true)) (H4 : Hid (Cd w T3 F T4)) (zF : F.toList.isEmpty = !bF) (zT : T4.toList.isEmpty = false) (y : Nat) (h0 : 0 < T4.size) (hxx : T4[0].toNat = y) (hy : y = 69) (R5 R6 X R7 : ByteArray) (ng bX bZ : Bool) (s1 : ∀ W, (Instr.slice 9 (.string T4) (some (.int .i64 1)) none none).run Tryz.prog W = .ok (.string R5) W) (H5 : Hid (Cs w R5 R6 ng)) (H6 : Hid (Cd w R6 X R7)) (zX : X.toList.isEmpty = !bX) (zZ : R7.toList.isEmpty = bZ) :
    Calls Tryz.prog 29 #[.string s] w (CuAns neg Wt F ng X (bW && bF && bX && bZ) w) := by
  have HX := Lib.hid (Cx.new w)
  subst hy
  cases bW <;> cases bF <;> cases bX <;> cases bZ
  all_goals
    go_enter Tryz.func29, Tryz.ntmps29
    go_wp2_with fail
    refine (H1.out _ _ _ _ _ _ HX.out).mono ?_
    rintro e w1 ⟨rfl, hx⟩
    have X1 := Lib.hid (hx.put0 (.bool neg))
    have f0 := hx.marks.1
    have c0 := hx.cells.1
    clear hx
    go_wp2_with fail
    refine (H2.out _ _ _ _ _ _ X1.out).mono ?_
    rintro e w2 ⟨rfl, hx⟩
    have X2 := Lib.hid (hx.put1 (.string Wt))
    have f1 := hx.marks.2.1
    have c1 := hx.cells.2.1
    clear hx f0 c0
    go_wp2_with fail
    refine (H3.out _ _ _ _ _ _ X2.out).mono ?_
    rintro e w3 ⟨rfl, hx⟩
    clear f1 c1
    have X3 := Lib.hid hx
    clear hx
    go_wp2_with fail
    refine (H4.out _ _ _ _ _ _ X3.out).mono ?_
    rintro e w4 ⟨rfl, hx⟩
    have X4 := Lib.hid (hx.put2 (.string F))
    have f2 := hx.marks.2.2.1
    have c2 := hx.cells.2.2.1
    clear hx
    go_wp2_with fail
    refine (H5.out _ _ _ _ _ _ X4.out).mono ?_
    rintro e w5 ⟨rfl, hx⟩
    clear f2 c2
    have X5 := Lib.hid (hx.put3 (.bool ng))
    have f3 := hx.marks.2.2.2.1
    have c3 := hx.cells.2.2.2.1
    clear hx
    go_wp2_with fail
    refine (H6.out _ _ _ _ _ _ X5.out).mono ?_
    rintro e w6 ⟨rfl, hx⟩
    clear f3 c3
    have X6 := Lib.hid (hx.put4 (.string X))
    have f4 := hx.marks.2.2.2.2
    obtain ⟨c0, c1, c2, c3, c4⟩ := hx.cells
    obtain ⟨r0, r1, r2, r3, r4⟩ := hx.rcells
    obtain ⟨m0, m1, m2, m3, m4⟩ := hx.rmarks
    clear hx
    go_wp2_with fail
    first
      | refine bodyPost_ret (v := .tuple #[.agg #[.bool neg, .string Wt, .string F, .bool ng, .string X], .bool false]) (by simp [results, Tryz.results29, go_sem, r0, r1, r2, r3, r4]) rfl ⟨rfl, ?_⟩
      | refine bodyPost_ret (v := .tuple #[.agg #[.bool neg, .string Wt, .string F, .bool ng, .string X], .bool true]) (by simp [results, Tryz.results29, go_sem, r0, r1, r2, r3, r4]) rfl ⟨rfl, ?_⟩
    exact ((((X6.out.b.setCell (Nat.le_refl _) _).setCell (Nat.le_refl _) _).setCell (Nat.le_refl _) _).setCell (Nat.le_refl _) _).setCell (Nat.le_refl _) _

end Go.Proofs.YtcndkhgbgjnclaaGreatDoor.nn
/- The real fdec: cut. -/
namespace Go.Proofs.YtcndkhgbgjnclaaGreatDoor.nn
open Go.RowKit

theorem sfx_empty {s : ByteArray} {a : Nat} (ha : a ≤ s.size) : (sfx s a).toList.isEmpty = decide (a = s.size) := by
  rw [empty_of, sfx_size]
  congr 1
  exact propext (by omega)
theorem cutT_empty {s : ByteArray} {a k : Nat} (h : a + k ≤ s.size) : (cutT s a (a + k)).toList.isEmpty = !decide (0 < k) := by
  rw [empty_of, cutT_size h, ← decide_not]
  congr 1
  exact propext (by omega)
theorem cp_of (w : World) (s : ByteArray) (a : Nat) (c : UInt8) (hs : s.size ≤ maxLen) (ha : a ≤ s.size) : Hid (Cp w (sfx s a) (sfx s (if at_ s a c.toNat then a + 1 else a)) c (at_ s a c.toNat)) := Lib.hid fun a1 a2 a3 a4 a5 W hx => by
  refine (cutPrefix_at s a c W hs ha).mono ?_
  rintro e w' ⟨rfl, rfl⟩
  exact ⟨rfl, hx⟩
theorem cd_of (w : World) (s : ByteArray) (a : Nat) (hs : s.size ≤ maxLen) (ha : a ≤ s.size) : Hid (Cd w (sfx s a) (cutT s a (a + rn s a)) (sfx s (a + rn s a))) := Lib.hid fun a1 a2 a3 a4 a5 W hx => by
  refine (cutDigits_at s a W hs ha).mono ?_
  rintro e w' ⟨rfl, j, rfl⟩
  exact ⟨rfl, hx.on (drew_below (Below.refl _ _) j)⟩
theorem cs_of (w : World) (s : ByteArray) (a : Nat) (hs : s.size ≤ maxLen) (ha : a ≤ s.size) : Hid (Cs w (sfx s a) (sfx s (sgA s a)) (sgB s a)) := Lib.hid fun a1 a2 a3 a4 a5 W hx => by
  refine (cutSign_at s a W hs ha).mono ?_
  rintro e w' ⟨rfl, rfl⟩
  exact ⟨rfl, hx⟩
theorem first_of {s : ByteArray} {a : Nat} (ha : a < s.size) : ∃ h : 0 < (sfx s a).size, (sfx s a)[0].toNat = bt s a := by
  have h1 : 0 < (sfx s a).size := by rw [sfx_size]; omega
  refine ⟨h1, ?_⟩
  rw [← bt_at h1, bt_sfx (by omega), Nat.add_zero]
theorem at_no {s : ByteArray} {a c : Nat} (ha : a < s.size) (h : at_ s a c = false) : ((bt s a : Int) == (c : Int)) = false := by
  have := of_decide_eq_false h
  rw [beq_eq_false_iff_ne]
  intro g
  exact this ⟨ha, by omega⟩

theorem cut_any (s : ByteArray) (w : World) (hs : s.size ≤ maxLen) :
    Calls Tryz.prog 29 #[.string s] w (CuAns (at_ s 0 45) (cW s) (cF s) (cN s) (cX s) (cOk s) w) := by
  have a1 := cA_le s
  have a2 := cB_le s
  have a3 := cC_le s
  have a4 := cD_le s
  have H1 := cp_of w s 0 45 hs (Nat.zero_le _)
  rw [sfx_zero, show (45 : UInt8).toNat = 45 from rfl] at H1
  have e1 : (if at_ s 0 45 = true then 0 + 1 else 0) = cA s := by unfold cA; split <;> rfl
  rw [e1] at H1
  have H2 := cd_of w s (cA s) hs a1
  rw [show cA s + rn s (cA s) = cB s from rfl, show cutT s (cA s) (cB s) = cW s from rfl] at H2
  have zW : (cW s).toList.isEmpty = !decide (0 < rn s (cA s)) := cutT_empty a2
  have H3 := cp_of w s (cB s) 46 hs a2
  rw [show (46 : UInt8).toNat = 46 from rfl] at H3
  have e3 : at_ s (cB s) 46 = cDot s := rfl
  rw [e3] at H3
  have s1 : cE s = true → ∀ W, (Instr.slice 9 (.string (sfx s (cC s))) (some (.int .i64 1)) none none).run Tryz.prog W = .ok (.string (sfx s (cC s + 1))) W := fun hE W => by
    have h1 := cE_lt hE
    rw [run_slice_string_l (w := W) (s := sfx s (cC s)) (ht := Tryz.underlying9) (h0 := by omega) (h1 := by rw [sfx_size]; omega), show (1 : Int).toNat = 1 from rfl, sfx_sfx h1]
  have hE5 : cE s = true → Hid (Cs w (sfx s (cC s + 1)) (sfx s (cS s)) (sgB s (cC s + 1))) := fun hE => cs_of w s _ hs (cE_lt hE)
  have hE6 : cE s = true → Hid (Cd w (sfx s (cS s)) (cX s) (sfx s (cD s))) ∧ (cX s).toList.isEmpty = (!decide (0 < rn s (cS s))) := fun hE => by
    have h1 := (sgA_le (cE_lt hE)).2
    have h2 := cd_of w s (cS s) hs h1
    have h3 : cX s = cutT s (cS s) (cD s) := if_pos hE
    have h4 : cD s = cS s + rn s (cS s) := if_pos hE
    rw [h3, h4]
    have := rn_le s (cS s)
    exact ⟨h2, cutT_empty (by unfold cS at *; omega)⟩
  have zZ : (sfx s (cD s)).toList.isEmpty = decide (cD s = s.size) := sfx_empty a4
  have cas : cE s = true → cC s < s.size ∧ (bt s (cC s) = 101 ∨ bt s (cC s) = 69) := fun hE => by
    unfold cE at hE
    rw [Bool.or_eq_true] at hE
    rcases hE with h | h
    · exact ⟨(at_le h).1, .inl (at_le h).2⟩
    · exact ⟨(at_le h).1, .inr (at_le h).2⟩
  have eE : cE s = false → cN s = false ∧ cX s = e0 ∧ cD s = cC s := fun h => ⟨if_neg (by rw [h]; decide), if_neg (by rw [h]; decide), if_neg (by rw [h]; decide)⟩
  have tE : cE s = true → cN s = sgB s (cC s + 1) := fun h => if_pos h
  cases hd : cDot s with
  | false =>
    rw [hd, if_neg (by decide)] at H3
    have eC : cC s = cB s := if_neg (by rw [hd]; decide)
    have eF : cF s = e0 := if_neg (by rw [hd]; decide)
    rw [eF]
    cases hE : cE s with
    | false =>
      obtain ⟨n1, n2, n3⟩ := eE hE
      rw [n1, n2]
      by_cases hz : cB s = s.size
      · have := cut_0z s _ _ _ _ _ w H1 H2 zW H3 (by rw [sfx_empty a2]; exact decide_eq_true hz)
        have hok : cOk s = decide (0 < rn s (cA s)) := by unfold cOk; rw [hd, hE, n3, eC, decide_eq_true hz]; simp
        rw [hok]
        exact this
      · have hlt : cB s < s.size := by omega
        obtain ⟨h0, h1⟩ := first_of hlt
        have hE' := hE
        unfold cE at hE'
        rw [Bool.or_eq_false_iff, eC] at hE'
        have := cut_0o s _ _ _ _ _ w H1 H2 zW H3 (by rw [sfx_empty a2]; exact decide_eq_false hz) _ h0 h1 (at_no hlt hE'.1) (at_no hlt hE'.2)
        have hok : cOk s = false := by unfold cOk; rw [n3, eC, decide_eq_false hz]; simp
        rw [hok]
        exact this
    | true =>
      obtain ⟨hlt, hy⟩ := cas hE
      obtain ⟨h6, zX⟩ := hE6 hE
      obtain ⟨h0, h1⟩ := first_of (show cB s < s.size by rw [← eC]; exact hlt)
      have hok : cOk s = (decide (0 < rn s (cA s)) && decide (0 < rn s (cS s)) && decide (cD s = s.size)) := by unfold cOk; rw [hd, hE]; simp
      rw [hok, tE hE]
      have hne : (sfx s (cB s)).toList.isEmpty = false := by rw [sfx_empty a2, ← eC]; exact decide_eq_false (by omega)
      have h5 := hE5 hE
      have sl := s1 hE
      rw [eC] at hy sl h5 ⊢
      rcases hy with hy | hy
      · exact cut_0e s _ _ _ _ _ w H1 H2 zW H3 hne _ h0 h1 hy _ _ _ _ _ _ _ sl h5 h6 zX zZ
      · exact cut_0E s _ _ _ _ _ w H1 H2 zW H3 hne _ h0 h1 hy _ _ _ _ _ _ _ sl h5 h6 zX zZ
  | true =>
    rw [hd, if_pos rfl] at H3
    have hb1 := a3.2 hd
    have eC : cC s = cB s + 1 + rn s (cB s + 1) := if_pos hd
    have eF : cF s = cutT s (cB s + 1) (cC s) := if_pos hd
    have H4 := cd_of w s (cB s + 1) hs hb1
    rw [← eC] at H4
    have zF : (cutT s (cB s + 1) (cC s)).toList.isEmpty = !decide (0 < rn s (cB s + 1)) := by
      have := a3.1
      rw [eC] at this ⊢
      exact cutT_empty this
    rw [← eF] at H4 zF
    cases hE : cE s with
    | false =>
      obtain ⟨n1, n2, n3⟩ := eE hE
      rw [n1, n2]
      by_cases hz : cC s = s.size
      · have := cut_1z s _ _ _ _ _ w H1 H2 zW _ _ _ _ H3 H4 zF (by rw [sfx_empty a3.1]; exact decide_eq_true hz)
        have hok : cOk s = (decide (0 < rn s (cA s)) && decide (0 < rn s (cB s + 1))) := by unfold cOk; rw [hd, hE, n3, decide_eq_true hz]; simp
        rw [hok]
        exact this
      · have hlt : cC s < s.size := by have := a3.1; omega
        obtain ⟨h0, h1⟩ := first_of hlt
        have hE' := hE
        unfold cE at hE'
        rw [Bool.or_eq_false_iff] at hE'
        have := cut_1o s _ _ _ _ _ w H1 H2 zW _ _ _ _ H3 H4 zF (by rw [sfx_empty a3.1]; exact decide_eq_false hz) _ h0 h1 (at_no hlt hE'.1) (at_no hlt hE'.2)
        have hok : cOk s = false := by unfold cOk; rw [n3, decide_eq_false hz]; simp
        rw [hok]
        exact this
    | true =>
      obtain ⟨hlt, hy⟩ := cas hE
      obtain ⟨h6, zX⟩ := hE6 hE
      obtain ⟨h0, h1⟩ := first_of hlt
      have hok : cOk s = (decide (0 < rn s (cA s)) && decide (0 < rn s (cB s + 1)) && decide (0 < rn s (cS s)) && decide (cD s = s.size)) := by unfold cOk; rw [hd, hE]; simp
      rw [hok, tE hE]
      have hne : (sfx s (cC s)).toList.isEmpty = false := by rw [sfx_empty a3.1]; exact decide_eq_false (by omega)
      have h5 := hE5 hE
      have sl := s1 hE
      rcases hy with hy | hy
      · exact cut_1e s _ _ _ _ _ w H1 H2 zW _ _ _ _ H3 H4 zF hne _ h0 h1 hy _ _ _ _ _ _ _ sl h5 h6 zX zZ
      · exact cut_1E s _ _ _ _ _ w H1 H2 zW _ _ _ _ H3 H4 zF hne _ h0 h1 hy _ _ _ _ _ _ _ sl h5 h6 zX zZ
end Go.Proofs.YtcndkhgbgjnclaaGreatDoor.nn
/- The real fdec: Scan. -/
namespace Go.Proofs.YtcndkhgbgjnclaaGreatDoor.nn
open Go.RowKit

/-! what a text says -/
def scD (s : ByteArray) : ByteArray := cW s ++ cF s
def scZ (s : ByteArray) : Int := plZ (cN s) (cX s) (cF s)
def scLong (s : ByteArray) : Prop := 800 < (cW s).size + (cF s).size ∨ 4 < (cX s).size
def scNeg (s : ByteArray) : Bool := at_ s 0 45
def scN (s : ByteArray) : Nat := dv (bt (scD s)) (scD s).size
def ScIs (s : ByteArray) (V E : Nat) : Prop :=
  (cOk s = false ∧ V = 0 ∧ E = 4) ∨ (cOk s = true ∧ scLong s ∧ V = 0 ∧ E = 2) ∨
  (cOk s = true ∧ ¬ scLong s ∧ (scN s = 0 ∨ scZ s < -2000) ∧ V = sB (scNeg s) ∧ E = 0) ∨
  (cOk s = true ∧ ¬ scLong s ∧ scN s ≠ 0 ∧ 2000 < scZ s ∧ V = 0 ∧ E = 8) ∨
  (cOk s = true ∧ ¬ scLong s ∧ scN s ≠ 0 ∧ -2000 ≤ scZ s ∧ scZ s ≤ 2000 ∧ ∃ b, RN (scD s) (scZ s) b ∧ V = roV (scNeg s) b ∧ E = roE b)
theorem ScIs.uniq {s : ByteArray} {V E V' E' : Nat} (h : ScIs s V E) (h' : ScIs s V' E') : V = V' ∧ E = E' := by
  rcases h with ⟨a1, a2, a3⟩ | ⟨a1, a2, a3, a4⟩ | ⟨a1, a2, a3, a4, a5⟩ | ⟨a1, a2, a3, a4, a5, a6⟩ | ⟨a1, a2, a3, a4, a5, b, hb, a6, a7⟩ <;>
  rcases h' with ⟨b1, b2, b3⟩ | ⟨b1, b2, b3, b4⟩ | ⟨b1, b2, b3, b4, b5⟩ | ⟨b1, b2, b3, b4, b5, b6⟩ | ⟨b1, b2, b3, b4, b5, b', hb', b6, b7⟩
  all_goals first
    | exact ⟨a2.trans b2.symm, a3.trans b3.symm⟩
    | exact ⟨a3.trans b3.symm, a4.trans b4.symm⟩
    | exact ⟨a4.trans b4.symm, a5.trans b5.symm⟩
    | exact ⟨a5.trans b5.symm, a6.trans b6.symm⟩
    | (have e := near_uniq (rY_pos _) hb hb'; subst e; exact ⟨a6.trans b6.symm, a7.trans b7.symm⟩)
    | (exfalso; rw [a1] at b1; cases b1; done)
    | (exfalso; exact a2 b2)
    | (exfalso; exact b2 a2)
    | (exfalso; omega)

/-- the digits are digits, few, and at least one -/
theorem sc_facts {s : ByteArray} (hok : cOk s = true) (hl : ¬ scLong s) : (scD s).size ≤ 800 ∧ 0 < (scD s).size ∧ dgs (bt (scD s)) (scD s).size = true ∧ (cX s).size ≤ 4 ∧ dgs (bt (cX s)) (cX s).size = true ∧ (cF s).size ≤ 800 ∧ (cW s).size ≤ 800 ∧ (scD s).size = (cW s).size + (cF s).size := by
  have a1 := cA_le s
  have a2 := cB_le s
  have a3 := cC_le s
  have a4 := cD_le s
  unfold scLong at hl
  have hw : (cW s).size = rn s (cA s) := by unfold cW; rw [cutT_size a2]; unfold cB; omega
  have hpos : 0 < rn s (cA s) := by
    unfold cOk at hok
    simp only [Bool.and_eq_true, decide_eq_true_eq] at hok
    exact hok.1.1.1
  have dW : dgs (bt (cW s)) (cW s).size = true := by rw [hw]; exact rn_dgs a1
  have dF : dgs (bt (cF s)) (cF s).size = true := by
    unfold cF
    cases h : cDot s with
    | false => rw [if_neg (by decide)]; rfl
    | true =>
      rw [if_pos rfl]
      have e : cC s = cB s + 1 + rn s (cB s + 1) := if_pos h
      have := rn_dgs (a3.2 h)
      rw [← e] at this
      rw [cutT_size a3.1, e, Nat.add_sub_cancel_left, ← e]
      exact this
  have dX : dgs (bt (cX s)) (cX s).size = true := by
    unfold cX
    cases h : cE s with
    | false => rw [if_neg (by decide)]; rfl
    | true =>
      rw [if_pos rfl]
      have e : cD s = cS s + rn s (cS s) := if_pos h
      have h1 := (sgA_le (cE_lt h)).2
      have := rn_dgs h1
      have e2 : sgA s (cC s + 1) = cS s := rfl
      rw [e2, ← e] at this
      rw [cutT_size a4, e, Nat.add_sub_cancel_left, ← e]
      exact this
  have hsz2 : (scD s).size = (cW s).size + (cF s).size := ByteArray.size_append
  have := (app_num dW dF).1
  exact ⟨by omega, by omega, this, by omega, dX, by omega, by omega, hsz2⟩
theorem dw_nil (p : UInt8 → Bool) (l : List UInt8) : l.dropWhile p = [] ↔ ∀ x ∈ l, p x = true := by
  induction l with
  | nil => simp
  | cons a l ih =>
    rw [List.dropWhile_cons]
    cases h : p a with
    | true => rw [if_pos rfl, ih]; simp [h]
    | false => rw [if_neg (by decide)]; simp [h]
theorem dw_head (p : UInt8 → Bool) (l : List UInt8) (h : ∀ x ∈ l.dropWhile p, p x = true) : l.dropWhile p = [] := by
  induction l with
  | nil => rfl
  | cons a l ih =>
    rw [List.dropWhile_cons] at h ⊢
    cases hp : p a with
    | true => rw [hp, if_pos rfl] at h; rw [if_pos rfl]; exact ih h
    | false =>
      rw [hp, if_neg (by decide)] at h
      have := h a List.mem_cons_self
      rw [hp] at this
      cases this
/-- trimmed of 0, nothing is left just of 0 -/
theorem trim_zero {d : ByteArray} (hd : dgs (bt d) d.size = true) : (⟨(Lib.trimB d.data.toList 48).toArray⟩ : ByteArray).toList.isEmpty = decide (dv (bt d) d.size = 0) := by
  have key : Lib.trimB d.data.toList 48 = [] ↔ ∀ i, i < d.size → bt d i = 48 := by
    have hmem : (∀ x ∈ d.data.toList, x = 48) ↔ ∀ i, i < d.size → bt d i = 48 := by
      constructor
      · intro h i hi
        rw [bt_at hi]
        have : d[i] ∈ d.data.toList := by
          show d.data[i] ∈ d.data.toList
          simp
        rw [h _ this]
        rfl
      · intro h x hx
        obtain ⟨i, hi, rfl⟩ := List.mem_iff_getElem.1 hx
        have h2 : i < d.size := by simpa using hi
        have := h i h2
        rw [bt_at h2] at this
        exact UInt8.toNat_inj.1 this
    rw [← hmem]
    unfold Lib.trimB Lib.trimLeftB Lib.trimRightB
    constructor
    · intro h
      have h2 := (dw_nil _ _).1 h
      have h3 : d.data.toList.reverse.dropWhile (· == 48) = [] := dw_head _ _ (fun x hx => h2 x (List.mem_reverse.2 hx))
      intro x hx
      exact beq_iff_eq.1 ((dw_nil _ _).1 h3 x (List.mem_reverse.2 hx))
    · intro h
      have h3 : d.data.toList.reverse.dropWhile (· == 48) = [] := (dw_nil _ _).2 (fun x hx => beq_iff_eq.2 (h x (List.mem_reverse.1 hx)))
      rw [h3]
      rfl
  have dvz : dv (bt d) d.size = 0 ↔ ∀ i, i < d.size → bt d i = 48 := by
    have : ∀ n, n ≤ d.size → (dv (bt d) n = 0 ↔ ∀ i, i < n → bt d i = 48) := by
      intro n
      induction n with
      | zero => exact fun _ => ⟨fun _ i hi => by omega, fun _ => rfl⟩
      | succ n ih =>
        intro hn
        have hdn := dgs_at hd (show n < d.size by omega)
        rw [dv]
        constructor
        · intro h i hi
          by_cases e : i = n
          · subst e; omega
          · exact (ih (by omega)).1 (by omega) i (by omega)
        · intro h
          have h1 := (ih (by omega)).2 (fun i hi => h i (by omega))
          have h2 := h n (by omega)
          omega
    exact this _ (Nat.le_refl _)
  rw [ByteArray.toList_eq]
  by_cases h : dv (bt d) d.size = 0
  · rw [decide_eq_true h]
    have h2 := key.2 (dvz.1 h)
    show (Lib.trimB d.data.toList 48).isEmpty = true
    rw [h2]; rfl
  · rw [decide_eq_false h]
    show (Lib.trimB d.data.toList 48).isEmpty = false
    cases hl : Lib.trimB d.data.toList 48 with
    | nil => exact absurd (dvz.2 (key.1 hl)) h
    | cons a l => rfl
end Go.Proofs.YtcndkhgbgjnclaaGreatDoor.nn
/- The document's answers of layer 6: run, whence. -/
namespace Go.Proofs.YtcndkhgbgjnclaaGreatDoor.nn
open Go.RowKit

set_option maxRecDepth 100000 in
set_option maxHeartbeats 1000000 in
theorem run_any (s : ByteArray) (a : Nat) (w : World) (hs : s.size ≤ 140737488351232) (ha : a ≤ s.size) :
    Calls Tryz.prog 33 #[.string s, .int .i64 (a : Int)] w fun e w' => e = .returned (.int .i64 (rn s a : Int)) ∧ w = w' := by
  go_enter Tryz.func33, Tryz.ntmps33
  go_wp2
  go_loop [5] (fun s5 => ∃ i : Nat, a + i ≤ s.size ∧ s5 = .int .i64 (i : Int) ∧ Hid (dgs (fun j => bt s (a + j)) i = true)) (fun s5 => s.size - a - (intOf s5).toNat)
  case atStart => exact ⟨0, by omega, rfl, Lib.hid rfl⟩
  case round =>
    obtain ⟨i, hi, rfl, hd⟩ := hrel
    by_cases hlt : a + i < s.size
    · have hx := bt_at hlt
      obtain ⟨x, hxx⟩ : ∃ x, s[a + i].toNat = x := ⟨_, rfl⟩
      have hx256 : x < 256 := by rw [← hxx]; exact s[a + i].toNat_lt
      rw [hxx] at hx
      have t1 : ((a : Int) + (i : Int)).toNat = a + i := by omega
      by_cases hy : 48 ≤ x ∧ x ≤ 57
      · have HD : Hid (dgs (fun j => bt s (a + j)) (i + 1) = true) := Lib.hid (by rw [dgs, hd.out, hx]; exact decide_eq_true hy)
        obtain ⟨h1, h2⟩ := hy
        clear hx
        go_wp2
        go_round
        case rel => exact ⟨i + 1, by omega, by go_num, HD⟩
        case measure => simp [intOf]; omega
      · have HD : Hid (rn s a = i) := Lib.hid (dc_eq (by omega) hd.out (.inr (by show dg (bt s (a + i)) = false; rw [hx]; exact decide_eq_false hy)))
        clear hx
        by_cases h1 : 48 ≤ x
        · have h2 : 57 < x := by omega
          clear hy
          go_wp2
          go_ret
          exact ⟨ret_int (by rw [HD.out]), rfl⟩
        · clear hy
          go_wp2
          go_ret
          exact ⟨ret_int (by rw [HD.out]), rfl⟩
    · have HD : Hid (rn s a = i) := Lib.hid (dc_eq (by omega) hd.out (.inl (by omega)))
      go_wp2
      go_ret
      exact ⟨ret_int (by rw [HD.out]), rfl⟩

/-- what is told of digits with any exponent -/
def Wh (neg : Bool) (d : ByteArray) (z : Int) (V E : Nat) : Prop :=
  ((dv (bt d) d.size = 0 ∨ z < -2000) ∧ V = sB neg ∧ E = 0) ∨ (dv (bt d) d.size ≠ 0 ∧ 2000 < z ∧ V = 0 ∧ E = 8) ∨
  (dv (bt d) d.size ≠ 0 ∧ -2000 ≤ z ∧ z ≤ 2000 ∧ ∃ b, RN d z b ∧ V = roV neg b ∧ E = roE b)
def WhAns (neg : Bool) (d : ByteArray) (z : Int) (w : World) (e : Ending) (w' : World) : Prop := ∃ V E : Nat, e = .returned (.tuple #[.int .u64 (V : Int), .int .i64 (E : Int)]) ∧ Wh neg d z V E ∧ Below w.heap.size w w'
theorem dv_zeros {d : ByteArray} (hd : dgs (bt d) d.size = true) : dv (bt d) d.size = 0 ↔ ∀ i, i < d.size → bt d i = 48 := by
  have : ∀ n, n ≤ d.size → (dv (bt d) n = 0 ↔ ∀ i, i < n → bt d i = 48) := by
    intro n
    induction n with
    | zero => exact fun _ => ⟨fun _ i hi => by omega, fun _ => rfl⟩
    | succ n ih =>
      intro hn
      have hdn := dgs_at hd (show n < d.size by omega)
      rw [dv]
      constructor
      · intro h i hi
        by_cases e : i = n
        · subst e; omega
        · exact (ih (by omega)).1 (by omega) i (by omega)
      · intro h
        have h1 := (ih (by omega)).2 (fun i hi => h i (by omega))
        have h2 := h n (by omega)
        omega
  exact this _ (Nat.le_refl _)
set_option maxRecDepth 100000 in
set_option maxHeartbeats 2000000 in
theorem whence_any (neg : Bool) (d : ByteArray) (z : Int) (w : World) (h8 : d.size ≤ 800) (h0 : 0 < d.size) (hd : dgs (bt d) d.size = true) (hz1 : -2000000 ≤ z) (hz2 : z ≤ 2000000) :
    Calls Tryz.prog 34 #[.bool neg, .string d, .int .i64 z] w (WhAns neg d z w) := by
  by_cases hz : -2000 ≤ z ∧ z ≤ 2000
  · obtain ⟨b, hb⟩ := RN_ex d z
    have hr : rfE d z = 0 := by unfold rfE; rw [if_neg (by omega), hd, decide_eq_true h0, if_neg (by decide), if_neg (by omega)]
    have RR := Lib.hid (fun W => rround_yes neg d z b W hr hb)
    have HW : Hid (Wh neg d z (roV neg b) (roE b)) := Lib.hid (by
      by_cases hN : dv (bt d) d.size = 0
      · have hb0 : b = 0 := by
          refine near_uniq (rY_pos z) hb ?_
          have : rX d z = 0 := by unfold rX; rw [hN, Nat.zero_mul]
          rw [this]
          exact near_zero _ (rY_pos z)
        refine .inl ⟨.inl hN, ?_, ?_⟩
        · rw [hb0]; unfold roV; rw [if_pos (by decide)]; rfl
        · rw [hb0]; unfold roE; rw [if_pos (by decide)]
      · exact .inr (.inr ⟨hN, hz.1, hz.2, b, hb, rfl, rfl⟩))
    obtain ⟨k1, k2⟩ := hz
    unfold RoAns at RR
    obtain ⟨V, hV⟩ : ∃ V, roV neg b = V := ⟨_, rfl⟩
    obtain ⟨E, hE⟩ : ∃ E, roE b = E := ⟨_, rfl⟩
    rw [hV, hE] at RR HW
    clear hr hb hd hV hE
    go_enter Tryz.func34, Tryz.ntmps34
    go_wp2_with fail
    refine (RR.out _).mono ?_
    rintro e w1 ⟨rfl, hb1⟩
    have B1 := Lib.hid hb1
    clear hb1
    go_wp2_with fail
    go_ret2
    exact ⟨V, E, rfl, HW.out, B1.out⟩
  · have HS := Lib.hid (fun W => rsign_any neg W)
    have HZ := Lib.hid (dv_zeros hd)
    have HB := Lib.hid (Below.refl w.heap.size w)
    have start : z < -2000 ∨ 2000 < z := by omega
    have HW1 : Hid (dv (bt d) d.size = 0 ∨ z < -2000 → Wh neg d z (sB neg) 0) := Lib.hid fun h => .inl ⟨h, rfl, rfl⟩
    have HW2 : Hid (dv (bt d) d.size ≠ 0 → 2000 < z → Wh neg d z 0 8) := Lib.hid fun h g => .inr (.inl ⟨h, g, rfl, rfl⟩)
    clear hd hz
    rcases start with k1 | k1
    all_goals
      go_enter Tryz.func34, Tryz.ntmps34
      go_wp2_with fail
      go_loop [8, 9] (fun s8 s9 => ∃ (i : Nat) (B : Bool), i ≤ d.size ∧ s9 = .int .i64 (i : Int) ∧ s8 = .bool B ∧ Hid (B = true ↔ ∀ j, j < i → bt d j = 48)) (fun _ s9 => d.size - (intOf s9).toNat)
      case atStart => exact ⟨0, true, Nat.zero_le _, rfl, rfl, Lib.hid ⟨fun _ j hj => by omega, fun _ => rfl⟩⟩
      case round =>
        obtain ⟨i, B, hi, rfl, rfl, hB⟩ := hrel
        by_cases hlt : i < d.size
        · have hx := bt_at hlt
          obtain ⟨x, hxx⟩ : ∃ x, d[i].toNat = x := ⟨_, rfl⟩
          rw [hxx] at hx
          have HX := Lib.hid hx
          clear hx
          cases B with
          | false =>
            have HB2 : Hid (false = true ↔ ∀ j, j < i + 1 → bt d j = 48) := Lib.hid ⟨(fun h => by cases h), fun h => hB.out.2 (fun j hj => h j (by omega))⟩
            go_wp2_with fail
            go_round
            case rel => exact ⟨i + 1, false, by omega, by go_num, rfl, HB2⟩
            case measure => simp [intOf]; omega
          | true =>
            by_cases h48 : x = 48
            · subst h48
              have HB2 : Hid (true = true ↔ ∀ j, j < i + 1 → bt d j = 48) := Lib.hid ⟨fun _ j hj => by
                by_cases e : j = i
                · rw [e]; exact HX.out
                · exact hB.out.1 rfl j (by omega), fun _ => rfl⟩
              go_wp2_with fail
              go_round
              case rel => exact ⟨i + 1, true, by omega, by go_num, rfl, HB2⟩
              case measure => simp [intOf]; omega
            · have HB2 : Hid (false = true ↔ ∀ j, j < i + 1 → bt d j = 48) := Lib.hid ⟨(fun h => by cases h), fun h => absurd (HX.out.symm.trans (h i (by omega))) h48⟩
              have hne : ((x : Int) == 48) = false := by rw [beq_eq_false_iff_ne]; omega
              clear h48
              go_wp2_with fail
              go_round
              case rel => exact ⟨i + 1, false, by omega, by go_num, rfl, HB2⟩
              case measure => simp [intOf]; omega
        · obtain rfl : i = d.size := by omega
          cases B with
          | false =>
            have hN : Hid (dv (bt d) d.size ≠ 0) := Lib.hid fun h => by have := hB.out.2 (HZ.out.1 h); cases this
            first
              | (have W1 := Lib.hid (HW1.out (.inr k1))
                 go_wp2_with fail
                 refine (HS.out _).mono ?_
                 rintro e w' ⟨rfl, rfl⟩
                 go_wp2_with fail
                 go_ret2
                 exact ⟨_, 0, rfl, W1.out, HB.out⟩)
              | (have W1 := Lib.hid (HW2.out hN.out k1)
                 go_wp2_with fail
                 go_ret2
                 exact ⟨0, 8, rfl, W1.out, HB.out⟩)
          | true =>
            have W1 := Lib.hid (HW1.out (.inl (HZ.out.2 (hB.out.1 rfl))))
            go_wp2_with fail
            refine (HS.out _).mono ?_
            rintro e w' ⟨rfl, rfl⟩
            go_wp2_with fail
            go_ret2
            exact ⟨_, 0, rfl, W1.out, HB.out⟩
end Go.Proofs.YtcndkhgbgjnclaaGreatDoor.nn
/- The walk of the real fdec's Scan. -/
namespace Go.Proofs.YtcndkhgbgjnclaaGreatDoor.nn
open Go.RowKit

def ScAns (s : ByteArray) (w : World) (e : Ending) (w' : World) : Prop := ∃ V E : Nat, e = .returned (.tuple #[.int .u64 (V : Int), .int .i64 (E : Int)]) ∧ ScIs s V E ∧ Below w.heap.size w w'
/-- the boxed parts of a call, at block g -/
structure Bq (w : World) (g : Nat) (neg : Bool) (Wt F : ByteArray) (ng : Bool) (X : ByteArray) (W : World) : Prop where
  c0 : W.cell? ⟨g, 0, none⟩ = some (.bool neg)
  c1 : W.cell? ⟨g, 1, none⟩ = some (.string Wt)
  c2 : W.cell? ⟨g, 2, none⟩ = some (.string F)
  c3 : W.cell? ⟨g, 3, none⟩ = some (.bool ng)
  c4 : W.cell? ⟨g, 4, none⟩ = some (.string X)
  b : Below w.heap.size w W
  z : g < W.heap.size
theorem Bq.on {w W W' : World} {g : Nat} {neg ng : Bool} {Wt F X : ByteArray} (h : Bq w g neg Wt F ng X W) (hB : Below W.heap.size W W') : Bq w g neg Wt F ng X W' :=
  ⟨(hB.cell (p := ⟨_, _, none⟩) h.z).trans h.c0, (hB.cell (p := ⟨_, _, none⟩) h.z).trans h.c1, (hB.cell (p := ⟨_, _, none⟩) h.z).trans h.c2, (hB.cell (p := ⟨_, _, none⟩) h.z).trans h.c3, (hB.cell (p := ⟨_, _, none⟩) h.z).trans h.c4, h.b.trans (hB.mono h.b.size), Nat.lt_of_lt_of_le h.z hB.size⟩
theorem Bq.drew {w W : World} {g : Nat} {neg ng : Bool} {Wt F X : ByteArray} (h : Bq w g neg Wt F ng X W) : Bq w g neg Wt F ng X W.drew := h.on (Below.drew (Below.refl _ _))
theorem Bq.new {w w1 : World} (neg ng : Bool) (Wt F X : ByteArray) (T : TypeId) (hb : Below w.heap.size w w1) : Bq w w1.heap.size neg Wt F ng X (w1.alloc (.cells #[.bool neg, .string Wt, .string F, .bool ng, .string X] T)) :=
  ⟨by simp, by simp, by simp, by simp, by simp, hb.alloc hb.size _, by simp⟩
theorem Bq.all {w W : World} {g : Nat} {neg ng : Bool} {Wt F X : ByteArray} (h : Bq w g neg Wt F ng X W) : W.cell? ⟨g, 0, none⟩ = some (.bool neg) ∧ W.cell? ⟨g, 1, none⟩ = some (.string Wt) ∧ W.cell? ⟨g, 2, none⟩ = some (.string F) ∧ W.cell? ⟨g, 3, none⟩ = some (.bool ng) ∧ W.cell? ⟨g, 4, none⟩ = some (.string X) ∧ Bq w g neg Wt F ng X W := ⟨h.c0, h.c1, h.c2, h.c3, h.c4, h⟩

set_option maxRecDepth 100000 in
set_option maxHeartbeats 2000000 in
theorem scan_no (s : ByteArray) (w : World) (hs : s.size ≤ 140737488351232) (hok : cOk s = false) :
    Calls Tryz.prog 12 #[.string s] w (ScAns s w) := by
  have HC := Lib.hid (cut_any s w (by unfold maxLen; omega))
  rw [hok] at HC
  have HS := Lib.hid (show ScIs s 0 4 from .inl ⟨hok, rfl, rfl⟩)
  unfold CuAns at HC
  clear hok hs
  obtain ⟨neg, hneg⟩ : ∃ b, at_ s 0 45 = b := ⟨_, rfl⟩
  rw [hneg] at HC
  clear hneg
  go_enter Tryz.func12, Tryz.ntmps12
  go_wp2_with fail
  refine HC.out.mono ?_
  rintro e w1 ⟨rfl, hb1⟩
  have HB := Lib.hid (fun T => (Bq.new neg (cN s) (cW s) (cF s) (cX s) T hb1).b)
  clear hb1
  go_wp2_with fail
  go_ret2
  exact ⟨0, 4, rfl, HS.out, HB.out _⟩

set_option maxRecDepth 100000 in
set_option maxHeartbeats 2000000 in
theorem scan_long (s : ByteArray) (w : World) (hs : s.size ≤ 140737488351232) (hok : cOk s = true) (hl : scLong s) :
    Calls Tryz.prog 12 #[.string s] w (ScAns s w) := by
  have HC := Lib.hid (cut_any s w (by unfold maxLen; omega))
  rw [hok] at HC
  have HS := Lib.hid (show ScIs s 0 2 from .inr (.inl ⟨hok, hl, rfl, rfl⟩))
  have b1 : (cW s).size ≤ s.size := by unfold cW cutT; rw [ByteArray.size_extract]; omega
  have b2 : (cF s).size ≤ s.size := by
    unfold cF
    split
    · unfold cutT; rw [ByteArray.size_extract]; omega
    · exact Nat.zero_le _
  unfold CuAns at HC
  unfold scLong at hl
  clear hok
  obtain ⟨neg, hneg⟩ : ∃ b, at_ s 0 45 = b := ⟨_, rfl⟩
  obtain ⟨Wt, hW⟩ : ∃ b, cW s = b := ⟨_, rfl⟩
  obtain ⟨F, hF⟩ : ∃ b, cF s = b := ⟨_, rfl⟩
  obtain ⟨ng, hng⟩ : ∃ b, cN s = b := ⟨_, rfl⟩
  obtain ⟨X, hX⟩ : ∃ b, cX s = b := ⟨_, rfl⟩
  rw [hneg, hW, hF, hng, hX] at HC
  rw [hW, hF, hX] at hl
  rw [hW] at b1
  rw [hF] at b2
  clear hneg hW hF hng hX
  by_cases c1 : 800 < Wt.size + F.size
  · clear hl
    go_enter Tryz.func12, Tryz.ntmps12
    go_wp2_with fail
    refine HC.out.mono ?_
    rintro e w1 ⟨rfl, hb1⟩
    have HB := Lib.hid (fun T => (Bq.new neg ng Wt F X T hb1).b)
    clear hb1
    go_wp2_with fail
    go_ret2
    exact ⟨0, 2, rfl, HS.out, HB.out _⟩
  · have c2 : 4 < X.size := by omega
    clear hl
    go_enter Tryz.func12, Tryz.ntmps12
    go_wp2_with fail
    refine HC.out.mono ?_
    rintro e w1 ⟨rfl, hb1⟩
    have HB := Lib.hid (fun T => (Bq.new neg ng Wt F X T hb1).b)
    clear hb1
    go_wp2_with fail
    go_ret2
    exact ⟨0, 2, rfl, HS.out, HB.out _⟩

set_option maxRecDepth 100000 in
set_option maxHeartbeats 4000000 in
theorem scan_go (s : ByteArray) (w : World) (hs : s.size ≤ 140737488351232) (hok : cOk s = true) (hl : ¬ scLong s) :
    Calls Tryz.prog 12 #[.string s] w (ScAns s w) := by
  have HC := Lib.hid (cut_any s w (by unfold maxLen; omega))
  rw [hok] at HC
  obtain ⟨t1, t2, t3, t4, t5, t6, t7, t8⟩ := sc_facts hok hl
  have hz : ∃ z, scZ s = z := ⟨_, rfl⟩
  obtain ⟨z, hz⟩ := hz
  have hzb : -2000000 ≤ z ∧ z ≤ 2000000 := by
    rw [← hz]
    unfold scZ plZ
    have := dv_lt t5
    have h2 : 10 ^ (cX s).size ≤ 10 ^ 4 := Nat.pow_le_pow_right (by decide) t4
    have h3 : (10 : Nat) ^ 4 = 10000 := by decide
    split <;> omega
  have HPL : Hid (∀ W, Calls Tryz.prog 30 #[pV (at_ s 0 45) (cW s) (cF s) (cN s) (cX s)] W fun e w' => e = .returned (.int .i64 z) ∧ Below W.heap.size W w') := Lib.hid fun W => by
    have := place_any (at_ s 0 45) (cW s) (cF s) (cN s) (cX s) W t4 (by omega) t5
    have e : plZ (cN s) (cX s) (cF s) = z := hz
    rw [e] at this
    exact this
  have HTR := Lib.hid (fun W => Tryz.strings_Trim_one (scD s) 48 (by decide) W (by omega))
  have hte := trim_zero t3
  obtain ⟨N, hN⟩ : ∃ N, dv (bt (scD s)) (scD s).size = N := ⟨_, rfl⟩
  obtain ⟨TT, hTT⟩ : ∃ T : ByteArray, (⟨(Lib.trimB (scD s).data.toList 48).toArray⟩ : ByteArray) = T := ⟨_, rfl⟩
  rw [hTT] at HTR hte
  rw [hN] at hte
  have hN2 : scN s = N := hN
  have A1 : Hid (N = 0 ∨ z < -2000 → ScIs s (sB (at_ s 0 45)) 0) := Lib.hid fun h => .inr (.inr (.inl ⟨hok, hl, by rw [hN2, hz]; exact h, rfl, rfl⟩))
  have A2 : Hid (N ≠ 0 → 2000 < z → ScIs s 0 8) := Lib.hid fun h g => .inr (.inr (.inr (.inl ⟨hok, hl, by rw [hN2]; exact h, by rw [hz]; exact g, rfl, rfl⟩)))
  have A3 : Hid (N ≠ 0 → -2000 ≤ z → z ≤ 2000 → ∃ b, (∀ neg W, Calls Tryz.prog 15 #[.bool neg, .string (scD s), .int .i64 z] W (RoAns (roV neg b) (roE b) W)) ∧ ScIs s (roV (at_ s 0 45) b) (roE b)) := Lib.hid fun h g1 g2 => by
    obtain ⟨b, hb⟩ := RN_ex (scD s) z
    refine ⟨b, fun neg W => round_yes neg (scD s) z b W ?_ hb, ?_⟩
    · unfold rfE
      rw [if_neg (by omega), t3, decide_eq_true t2, if_neg (by decide), if_neg (by omega)]
    · exact .inr (.inr (.inr (.inr ⟨hok, hl, by rw [hN2]; exact h, by rw [hz]; exact g1, by rw [hz]; exact g2, b, by rw [hz]; exact hb, rfl, rfl⟩)))
  have hDs : scD s = cW s ++ cF s := rfl
  rw [hDs] at HTR A3
  unfold CuAns at HC
  unfold pV at HPL
  have hw8 : (cW s).size + (cF s).size ≤ 800 := by omega
  obtain ⟨neg, hneg⟩ : ∃ b, at_ s 0 45 = b := ⟨_, rfl⟩
  obtain ⟨Wt, hW⟩ : ∃ b, cW s = b := ⟨_, rfl⟩
  obtain ⟨F, hF⟩ : ∃ b, cF s = b := ⟨_, rfl⟩
  obtain ⟨ng, hng⟩ : ∃ b, cN s = b := ⟨_, rfl⟩
  obtain ⟨X, hX⟩ : ∃ b, cX s = b := ⟨_, rfl⟩
  rw [hneg, hW, hF, hng, hX] at HC HPL
  rw [hW, hF] at hw8 HTR A3
  rw [hneg] at A1 A3
  rw [hX] at t4
  have t4' : X.size ≤ 4 := t4
  obtain ⟨z1, z2⟩ := hzb
  have FS := Lib.hid (fun W => fsigned_any neg 0 W (by decide))
  rw [Nat.add_zero] at FS
  clear hok hl t1 t2 t3 t5 t6 t7 t8 hz hN hTT hN2 hDs hneg hW hF hng hX t4 hs
  go_enter Tryz.func12, Tryz.ntmps12
  go_wp2_with fail
  refine HC.out.mono ?_
  rintro e w1 ⟨rfl, hb1⟩
  have HB := Lib.hid (Bq.new neg ng Wt F X 61 hb1)
  clear hb1
  go_wp2_with fail
  obtain ⟨W2, hW2⟩ : ∃ W2, w1.alloc (.cells #[.bool neg, .string Wt, .string F, .bool ng, .string X] 61) = W2 := ⟨_, rfl⟩
  rw [hW2] at HB ⊢
  obtain ⟨g, hg⟩ : ∃ g, w1.heap.size = g := ⟨_, rfl⟩
  rw [hg] at HB ⊢
  clear hW2 hg
  have HX := Lib.hid (fun W (h : Bq w g neg Wt F ng X W) => h.all)
  have HI := Lib.hid (fun W (h : Bq w g neg Wt F ng X W) => (HPL.out W).mono fun e w' ⟨he, hb⟩ => (⟨he, h.on hb⟩ : e = Ending.returned (.int .i64 z) ∧ Bq w g neg Wt F ng X w'))
  have HT := Lib.hid (fun W (h : Bq w g neg Wt F ng X W) => (HTR.out W).mono fun e w' ⟨he, hb⟩ => (⟨he, by rcases hb with rfl | rfl; exact h; exact h.drew⟩ : e = Ending.returned (.string TT) ∧ Bq w g neg Wt F ng X w'))
  have hk0 := HB.out.drew
  have hx0 := HX.out _ hk0
  have hsum : ¬ 9223372036854775807 < Wt.size + F.size := by omega
  go_region_held3 (fun W => W.cell? ⟨g, 0, none⟩ = some (.bool neg) ∧ W.cell? ⟨g, 1, none⟩ = some (.string Wt) ∧ W.cell? ⟨g, 2, none⟩ = some (.string F) ∧ W.cell? ⟨g, 3, none⟩ = some (.bool ng) ∧ W.cell? ⟨g, 4, none⟩ = some (.string X) ∧ Bq w g neg Wt F ng X W) (first | exact HX.out _ ‹_› | exact HX.out _ (And.right ‹_›))
    (first | (go_at_call 30; refine (HI.out _ ?_).mono ?_; (first | assumption | exact And.right ‹_›); rintro e w' ⟨rfl, hk5⟩))
  clear hx0
  by_cases hN0 : N = 0
  · rw [decide_eq_true hN0] at hte
    have AA := Lib.hid (A1.out (.inl hN0))
    clear hN0 A1 A2 A3
    go_wp2_with fail
    refine (HT.out _ hk5).mono ?_
    rintro e w4 ⟨rfl, hk6⟩
    have H6 := Lib.hid hk6
    have c0 := hk6.c0
    clear hk6 hk5
    go_wp2_with fail
    refine (FS.out _).mono ?_
    rintro e w' ⟨rfl, rfl⟩
    go_wp2_with fail
    go_ret2
    exact ⟨_, 0, rfl, AA.out, H6.out.b⟩
  · rw [decide_eq_false hN0] at hte
    by_cases k1 : z < -2000
    · have AA := Lib.hid (A1.out (.inr k1))
      clear hN0 A1 A2 A3
      go_wp2_with fail
      refine (HT.out _ hk5).mono ?_
      rintro e w4 ⟨rfl, hk6⟩
      have H6 := Lib.hid hk6
      have c0 := hk6.c0
      clear hk6 hk5
      go_wp2_with fail
      refine (FS.out _).mono ?_
      rintro e w' ⟨rfl, rfl⟩
      go_wp2_with fail
      go_ret2
      exact ⟨_, 0, rfl, AA.out, H6.out.b⟩
    · by_cases k2 : 2000 < z
      · have AA := Lib.hid (A2.out hN0 k2)
        clear hN0 A1 A2 A3
        go_wp2_with fail
        refine (HT.out _ hk5).mono ?_
        rintro e w4 ⟨rfl, hk6⟩
        have H6 := Lib.hid hk6
        have c0 := hk6.c0
        clear hk6 hk5
        go_wp2_with fail
        go_ret2
        exact ⟨0, 8, rfl, AA.out, H6.out.b⟩
      · obtain ⟨b, hr, hsc⟩ := A3.out hN0 (by omega) (by omega)
        have RR := Lib.hid (fun W => hr neg W)
        have AA := Lib.hid hsc
        unfold RoAns at RR
        clear hN0 A1 A2 A3 hr hsc
        go_wp2_with fail
        refine (HT.out _ hk5).mono ?_
        rintro e w4 ⟨rfl, hk6⟩
        have H6 := Lib.hid hk6
        have c0 := hk6.c0
        clear hk6 hk5
        go_wp2_with fail
        refine (RR.out _).mono ?_
        rintro e w5 ⟨rfl, hb5⟩
        have B5 := Lib.hid (H6.out.b.trans (hb5.mono H6.out.b.size))
        clear hb5
        go_wp2_with fail
        go_ret2
        exact ⟨_, _, rfl, AA.out, B5.out⟩
theorem scan_any (s : ByteArray) (w : World) (hs : s.size ≤ 140737488351232) : Calls Tryz.prog 12 #[.string s] w (ScAns s w) := by
  cases hok : cOk s with
  | false => exact scan_no s w hs hok
  | true =>
    by_cases hl : scLong s
    · exact scan_long s w hs hok hl
    · exact scan_go s w hs hok hl
end Go.Proofs.YtcndkhgbgjnclaaGreatDoor.nn
