/- The walk of math/bits.Div64: two words by one. -/
import Derived.Test.YtnikoojgoiobjaaDoorDivNum
import Derived.Test.YtnikoojgoiobjaaDoorBitsNum
import Derived.Test.YtnikoojgoiobjaaDoorAddTimes
import Derived.Test.YtnikoojgoiobjaaDoorCmp
import Derived.BigQuiet
import Derived.Deep.QuietTactic
import Derived.Deep.CutBlock
import Derived.Deep.CutRange
import Derived.Deep.LoopGhost
namespace Go.Proofs.YtnikoojgoiobjaaDoor.nn
open Go.RowKit

set_option maxHeartbeats 1000000 in
theorem div64_small (lo y : Nat) (w : World) (hlo : lo < 18446744073709551616) (hy : y < 18446744073709551616) (h0 : 0 < y) :
    Calls Tryd.prog 59 #[.int .u64 0, .int .u64 lo, .int .u64 y] w fun e w' => e = .returned (.tuple #[.int .u64 ((lo / y : Nat) : Int), .int .u64 ((lo % y : Nat) : Int)]) ∧ ∃ j, w' = w.drewN j := by
  have h1 : ¬ (y : Int) ≤ 0 := by omega
  have e1 : IntKind.u64.wrap ((lo : Int) / y) = ((lo / y : Nat) : Int) := by
    rw [← Int.natCast_ediv]
    have := Nat.div_le_self lo y
    generalize lo / y = k at *
    exact IntWalk.u64_in _ ⟨by omega, by omega⟩
  have e2 : (lo : Int) % y = ((lo % y : Nat) : Int) := by simp
  go_enter Tryd.func59, Tryd.ntmps59
  go_wp2
  go_quiet (fail)
  go_wp2
  go_ret2
  exact ⟨rfl, _, rfl⟩

theorem notLe {a b : Int} (h : b < a) : (a ≤ b) = False := by rw [eq_iff_iff, iff_false]; omega
theorem notLt {a b : Int} (h : b ≤ a) : (a < b) = False := by rw [eq_iff_iff, iff_false]; omega
/-- a fact that is kept shut from the walk: a structure, so nothing unfolds it -/
structure Shut (P : Prop) : Prop where
  out : P
/-- below the divisor (kept shut from the walk) -/
structure Under (U y1 y0 : Nat) : Prop where
  out : U < y1 * W32 + y0
/-- the quotient of half words (kept shut from the walk) -/
structure QuoIs (U d y1 y0 q : Nat) : Prop where
  out : q = (U * W32 + d) / (y1 * W32 + y0)

set_option maxRecDepth 100000 in
set_option maxHeartbeats 2000000 in
theorem div64_core (hi lo y s Y y1 y0 H l1 U L d1 d0 q r q1 q0 R1 R2 : Nat) (w : World) (_hlo : lo < 18446744073709551616) (_hy : y < 18446744073709551616) (hhi : hi < y) (h0 : 0 < hi) (hs : s ≤ 63)
    (HL : Hid (Calls Tryd.prog 69 #[.int .u64 y] w fun e w' => e = .returned (.int .i64 (s : Int)) ∧ w = w'))
    (eY : IntKind.u64.wrap ((y : Int) * 2 ^ s) = (Y : Int)) (ey1 : (Y : Int) / 4294967296 = (y1 : Int)) (ey0 : bits BinOp.and IntKind.u64 (Y : Int) 4294967295 = (y0 : Int))
    (eH : IntKind.u64.wrap ((hi : Int) * 2 ^ s) = (H : Int)) (el1 : (lo : Int) / 2 ^ (64 - s) = (l1 : Int)) (eU : bits BinOp.or IntKind.u64 (H : Int) (l1 : Int) = (U : Int))
    (eL : IntKind.u64.wrap ((lo : Int) * 2 ^ s) = (L : Int)) (ed1 : (L : Int) / 4294967296 = (d1 : Int)) (ed0 : bits BinOp.and IntKind.u64 (L : Int) 4294967295 = (d0 : Int))
    (by1 : 2147483648 ≤ y1) (by1' : y1 < 4294967296) (by0 : y0 < 4294967296) (bd1 : d1 < 4294967296) (bd0 : d0 < 4294967296) (_bU : U < 18446744073709551616)
    (eq : IntKind.u64.wrap ((U : Int) / (y1 : Int)) = (q : Int)) (er : IntKind.u64.wrap ((U : Int) - IntKind.u64.wrap ((q : Int) * (y1 : Int))) = (r : Int))
    (HU : Under U y1 y0) (HS : Shut (Half U d1 y1 y0 q r)) (bq : q ≤ 4294967297) (br : r < 4294967296) 
    (HQ1 : QuoIs U d1 y1 y0 q1) (Qt Rt A B C A2 B2 C2 E q' r' : Nat)
    (eA : IntKind.u64.wrap ((U : Int) * 4294967296) = (A : Int)) (eB : IntKind.u64.wrap ((A : Int) + (d1 : Int)) = (B : Int)) (eC : IntKind.u64.wrap ((q1 : Int) * (Y : Int)) = (C : Int)) (eD : IntKind.u64.wrap ((B : Int) - (C : Int)) = (R1 : Int))
    (eq' : IntKind.u64.wrap ((R1 : Int) / (y1 : Int)) = (q' : Int)) (er' : IntKind.u64.wrap ((R1 : Int) - IntKind.u64.wrap ((q' : Int) * (y1 : Int))) = (r' : Int))
    (HU' : Under R1 y1 y0) (HS' : Shut (Half R1 d0 y1 y0 q' r')) (bq' : q' ≤ 4294967297) (br' : r' < 4294967296) (HQ0 : QuoIs R1 d0 y1 y0 q0)
    (eA2 : IntKind.u64.wrap ((R1 : Int) * 4294967296) = (A2 : Int)) (eB2 : IntKind.u64.wrap ((A2 : Int) + (d0 : Int)) = (B2 : Int)) (eC2 : IntKind.u64.wrap ((q0 : Int) * (Y : Int)) = (C2 : Int)) (eD2 : IntKind.u64.wrap ((B2 : Int) - (C2 : Int)) = (R2 : Int))
    (eE : IntKind.u64.wrap ((q1 : Int) * 4294967296) = (E : Int)) (eQ : IntKind.u64.wrap ((E : Int) + (q0 : Int)) = (Qt : Int)) (eR : (R2 : Int) / 2 ^ s = (Rt : Int)) :
    Calls Tryd.prog 59 #[.int .u64 hi, .int .u64 lo, .int .u64 y] w fun e w' => e = .returned (.tuple #[.int .u64 (Qt : Int), .int .u64 (Rt : Int)]) ∧ ∃ j, w' = w.drewN j := by
  have h1 : ¬ (y : Int) ≤ hi := by omega
  go_enter Tryd.func59, Tryd.ntmps59
  go_wp2_with fail
  refine HL.out.mono ?_
  rintro e w' ⟨rfl, rfl⟩
  go_upto_block 0 with fail
  go_cut [15, 16] from 19 (fun s15 _ wx => s15 = .int .u64 (q1 : Int) ∧ wx = w)
  case first =>
    go_wp2_with fail
    go_loopg [15, 16] 4294967298 (fun k s15 s16 wr => ∃ p t : Nat, s15 = .int .u64 (p : Int) ∧ s16 = .int .u64 (t : Int) ∧ Shut (Half U d1 y1 y0 p t) ∧ p ≤ 4294967297 ∧ t < 4294967296 ∧ p ≤ k ∧ wr = w)
    case atStart => exact ⟨q, r, rfl, rfl, HS, bq, br, by omega, rfl⟩
    case round =>
      obtain ⟨p, t, rfl, rfl, hh, bp, bt, hk, rfl⟩ := hrel
      clear eY ey1 ey0 eH el1 eU eL ed1 ed0 eq er HL HS bq br _bU _hlo _hy eA eB eC eD eq' er' HS' bq' br' eA2 eB2 eC2 eD2 eE eQ eR HU' HQ0
      obtain ⟨P, hP⟩ : ∃ P, p * y0 = P := ⟨_, rfl⟩
      have hp1 : Shut (p < 4294967296 → P ≤ 18446744073709551615) := Shut.mk fun h => by
        have := Nat.mul_le_mul (by omega : p ≤ 4294967295) (by omega : y0 ≤ 4294967295)
        omega
      have eP : p < 4294967296 → IntKind.u64.wrap ((p : Int) * (y0 : Int)) = (P : Int) := fun h => by
        rw [← Int.natCast_mul, hP]
        have := hp1.out h
        exact IntWalk.u64_in _ ⟨by omega, by omega⟩
      have hnx := fun (hc : W32 ≤ p ∨ t * W32 + d1 < p * y0) => hh.out.next HU.out bd1 hc
      have hft := hh.out.fits (y0 := y0)
      rw [hP] at hnx hft
      have HN := Shut.mk hnx
      have HF := Shut.mk hft
      clear hnx hft hP
      by_cases c1 : 4294967296 ≤ p
      · obtain ⟨n1, n2⟩ := HN.out (.inl c1)
        have N2 := Shut.mk n2
        have c1' : (4294967296 : Int) ≤ (p : Int) := by omega
        have BP := Shut.mk (And.intro n1 (And.intro bp hk))
        have pz : (p : Int) ≤ 4294967297 := by omega
        clear n1 n2 eP bp hk c1 HN HF
        by_cases c3 : 4294967296 ≤ t + y1
        · have HW : QuoIs U d1 y1 y0 (p - 1) := ⟨(N2.out.wide (by have := BP.out; unfold W32; omega) by0 c3).1⟩
          have c3' : (4294967296 : Int) ≤ (t : Int) + (y1 : Int) := by omega
          have C3 := Shut.mk c3
          clear c3
          go_wp2
          go_meet
          exact ⟨by rw [HQ1.out, ← HW.out]; exact congrArg (Value.int .u64) (by have := BP.out; omega), rfl⟩
        · have c3' := notLe (show (t : Int) + (y1 : Int) < 4294967296 by omega)
          have C3 := Shut.mk c3
          clear c3
          go_wp2
          go_roundg (p - 1)
          case measure => have := BP.out; omega
          case rel => have := BP.out; have := C3.out; exact ⟨p - 1, t + y1, by go_num, by go_num, N2, by omega, by omega, by omega, rfl⟩
      · have c1' := notLe (show (p : Int) < 4294967296 by omega)
        have BP := Shut.mk hk
        have eP' := eP (by omega)
        have bP : (P : Int) ≤ 18446744073709551615 := by have := hp1.out (by omega); omega
        have C1 := Shut.mk c1
        clear eP hp1 hk bp c1
        by_cases c2 : t * 4294967296 + d1 < P
        · obtain ⟨n1, n2⟩ := HN.out (.inr c2)
          have N2 := Shut.mk n2
          have c2' : 4294967296 * (t : Int) + (d1 : Int) < (P : Int) := by omega
          have N1 := Shut.mk n1
          have pz : (1 : Int) ≤ (p : Int) := by omega
          have pz2 : (p : Int) ≤ 4294967295 := by have := C1.out; omega
          clear n1 n2 c2 HN HF
          by_cases c3 : 4294967296 ≤ t + y1
          · have HW : QuoIs U d1 y1 y0 (p - 1) := ⟨(N2.out.wide (by have := C1.out; unfold W32; omega) by0 c3).1⟩
            have c3' : (4294967296 : Int) ≤ (t : Int) + (y1 : Int) := by omega
            have C3 := Shut.mk c3
            clear c3
            go_wp2
            go_meet
            exact ⟨by rw [HQ1.out, ← HW.out]; exact congrArg (Value.int .u64) (by have := N1.out; have := C1.out; omega), rfl⟩
          · have c3' := notLe (show (t : Int) + (y1 : Int) < 4294967296 by omega)
            have C3 := Shut.mk c3
            clear c3
            go_wp2
            go_roundg (p - 1)
            case measure => have := N1.out; have := BP.out; omega
            case rel => have := N1.out; have := BP.out; have := C3.out; have := C1.out; exact ⟨p - 1, t + y1, by go_num, by go_num, N2, by omega, by omega, by omega, rfl⟩
        · have HW : QuoIs U d1 y1 y0 p := ⟨(HF.out (by unfold W32; omega)).1⟩
          have c2' := notLt (show (P : Int) ≤ 4294967296 * (t : Int) + (d1 : Int) by omega)
          clear c2 HN HF
          go_wp2
          go_meet
          exact ⟨by rw [HQ1.out, ← HW.out], rfl⟩
  case rest =>
    obtain ⟨rfl, rfl⟩ := hcut
    clear eY ey1 ey0 eH el1 eU eL ed1 ed0 eq er HL HS bq br _hlo _hy HU HQ1
    go_upto_block 2 with fail
    clear eA eB eC eD _bU
    go_cut [18, 16] from 19 (fun s18 _ wx => s18 = .int .u64 (q0 : Int) ∧ wx = wc)
    case first =>
      go_wp2_with fail
      go_loopg [18, 16] 4294967298 (fun k s18 s16 wr => ∃ p t : Nat, s18 = .int .u64 (p : Int) ∧ s16 = .int .u64 (t : Int) ∧ Shut (Half R1 d0 y1 y0 p t) ∧ p ≤ 4294967297 ∧ t < 4294967296 ∧ p ≤ k ∧ wr = wc)
      case atStart => exact ⟨q', r', rfl, rfl, HS', bq', br', by omega, rfl⟩
      case round =>
        obtain ⟨p, t, rfl, rfl, hh, bp, bt, hk, rfl⟩ := hrel
        clear eq' er' HS' bq' br' eA2 eB2 eC2 eD2 eE eQ eR
        obtain ⟨P, hP⟩ : ∃ P, p * y0 = P := ⟨_, rfl⟩
        have hp1 : Shut (p < 4294967296 → P ≤ 18446744073709551615) := Shut.mk fun h => by
          have := Nat.mul_le_mul (by omega : p ≤ 4294967295) (by omega : y0 ≤ 4294967295)
          omega
        have eP : p < 4294967296 → IntKind.u64.wrap ((p : Int) * (y0 : Int)) = (P : Int) := fun h => by
          rw [← Int.natCast_mul, hP]
          have := hp1.out h
          exact IntWalk.u64_in _ ⟨by omega, by omega⟩
        have hnx := fun (hc : W32 ≤ p ∨ t * W32 + d0 < p * y0) => hh.out.next HU'.out bd0 hc
        have hft := hh.out.fits (y0 := y0)
        rw [hP] at hnx hft
        have HN := Shut.mk hnx
        have HF := Shut.mk hft
        clear hnx hft hP
        by_cases c1 : 4294967296 ≤ p
        · obtain ⟨n1, n2⟩ := HN.out (.inl c1)
          have N2 := Shut.mk n2
          have c1' : (4294967296 : Int) ≤ (p : Int) := by omega
          have BP := Shut.mk (And.intro n1 (And.intro bp hk))
          have pz : (p : Int) ≤ 4294967297 := by omega
          clear n1 n2 eP bp hk c1 HN HF
          by_cases c3 : 4294967296 ≤ t + y1
          · have HW : QuoIs R1 d0 y1 y0 (p - 1) := ⟨(N2.out.wide (by have := BP.out; unfold W32; omega) by0 c3).1⟩
            have c3' : (4294967296 : Int) ≤ (t : Int) + (y1 : Int) := by omega
            have C3 := Shut.mk c3
            clear c3
            go_wp2
            go_meet
            exact ⟨by rw [HQ0.out, ← HW.out]; exact congrArg (Value.int .u64) (by have := BP.out; omega), rfl⟩
          · have c3' := notLe (show (t : Int) + (y1 : Int) < 4294967296 by omega)
            have C3 := Shut.mk c3
            clear c3
            go_wp2
            go_roundg (p - 1)
            case measure => have := BP.out; omega
            case rel => have := BP.out; have := C3.out; exact ⟨p - 1, t + y1, by go_num, by go_num, N2, by omega, by omega, by omega, rfl⟩
        · have c1' := notLe (show (p : Int) < 4294967296 by omega)
          have BP := Shut.mk hk
          have eP' := eP (by omega)
          have bP : (P : Int) ≤ 18446744073709551615 := by have := hp1.out (by omega); omega
          have C1 := Shut.mk c1
          clear eP hp1 hk bp c1
          by_cases c2 : t * 4294967296 + d0 < P
          · obtain ⟨n1, n2⟩ := HN.out (.inr c2)
            have N2 := Shut.mk n2
            have c2' : 4294967296 * (t : Int) + (d0 : Int) < (P : Int) := by omega
            have N1 := Shut.mk n1
            have pz : (1 : Int) ≤ (p : Int) := by omega
            have pz2 : (p : Int) ≤ 4294967295 := by have := C1.out; omega
            clear n1 n2 c2 HN HF
            by_cases c3 : 4294967296 ≤ t + y1
            · have HW : QuoIs R1 d0 y1 y0 (p - 1) := ⟨(N2.out.wide (by have := C1.out; unfold W32; omega) by0 c3).1⟩
              have c3' : (4294967296 : Int) ≤ (t : Int) + (y1 : Int) := by omega
              have C3 := Shut.mk c3
              clear c3
              go_wp2
              go_meet
              exact ⟨by rw [HQ0.out, ← HW.out]; exact congrArg (Value.int .u64) (by have := N1.out; have := C1.out; omega), rfl⟩
            · have c3' := notLe (show (t : Int) + (y1 : Int) < 4294967296 by omega)
              have C3 := Shut.mk c3
              clear c3
              go_wp2
              go_roundg (p - 1)
              case measure => have := N1.out; have := BP.out; omega
              case rel => have := N1.out; have := BP.out; have := C3.out; have := C1.out; exact ⟨p - 1, t + y1, by go_num, by go_num, N2, by omega, by omega, by omega, rfl⟩
          · have HW : QuoIs R1 d0 y1 y0 p := ⟨(HF.out (by unfold W32; omega)).1⟩
            have c2' := notLt (show (P : Int) ≤ 4294967296 * (t : Int) + (d0 : Int) by omega)
            clear c2 HN HF
            go_wp2
            go_meet
            exact ⟨by rw [HQ0.out, ← HW.out], rfl⟩
    case rest =>
      obtain ⟨rfl, rfl⟩ := hcut
      go_wp2
      go_ret2
      exact ⟨rfl, 0, rfl⟩

theorem wrap_nat {n : Nat} (h : n < 18446744073709551616) : IntKind.u64.wrap (n : Int) = (n : Int) := IntWalk.u64_in _ ⟨by omega, by omega⟩
theorem wrap_mod (n : Nat) : IntKind.u64.wrap (n : Int) = ((n % 18446744073709551616 : Nat) : Int) := by rw [IntKind.wrap_u64]; omega
theorem wrap_diff {b c r n p : Nat} (hb : b = n % 18446744073709551616) (hc : c = p % 18446744073709551616) (h : n = p + r) (hr : r < 18446744073709551616) : IntKind.u64.wrap ((b : Int) - (c : Int)) = (r : Int) := by
  rw [IntKind.wrap_u64]; omega
theorem mask32 {n : Nat} (h : n < 18446744073709551616) : bits BinOp.and IntKind.u64 (n : Int) 4294967295 = ((n % 4294967296 : Nat) : Int) := by
  have e := u64_and_nat n 4294967295 h (by decide)
  rw [show ((4294967295 : Nat) : Int) = 4294967295 from rfl] at e
  rw [e, show (4294967295 : Nat) = 2 ^ 32 - 1 from rfl, Nat.and_two_pow_sub_one_eq_mod]

theorem div64_any (hi lo y : Nat) (w : World) (hlo : lo < 18446744073709551616) (hy : y < 18446744073709551616) (hhi : hi < y) :
    Calls Tryd.prog 59 #[.int .u64 hi, .int .u64 lo, .int .u64 y] w fun e w' => e = .returned (.tuple #[.int .u64 (((hi * W64 + lo) / y : Nat) : Int), .int .u64 (((hi * W64 + lo) % y : Nat) : Int)]) ∧ ∃ j, w' = w.drewN j := by
  rcases Nat.eq_zero_or_pos hi with h0 | h0
  · subst h0
    have h := div64_small lo y w hlo hy hhi
    rw [Nat.zero_mul, Nat.zero_add]
    exact h
  · obtain ⟨b1, b2⟩ := bl_ge (N := y) (by omega)
    have b3 := bl_lt y
    have b4 : bl y ≤ 64 := bl_le (k := 64) hy
    obtain ⟨s, hs⟩ : ∃ s, 64 - bl y = s := ⟨_, rfl⟩
    have es : bl y + s = 64 := by omega
    have hY1 : y * 2 ^ s < 2 ^ 64 := by
      rw [← es, Nat.pow_add]
      exact Nat.mul_lt_mul_of_pos_right b3 (Nat.two_pow_pos s)
    have hY2 : 2 ^ 63 ≤ y * 2 ^ s := by
      rw [show 63 = bl y - 1 + s by omega, Nat.pow_add]
      exact Nat.mul_le_mul_right _ b1
    have hH : hi * 2 ^ s + 2 ^ s ≤ y * 2 ^ s := by
      have := Nat.mul_le_mul_right (2 ^ s) (show hi + 1 ≤ y from hhi)
      rwa [Nat.add_mul, Nat.one_mul] at this
    obtain ⟨_, _, l3, l4⟩ := shl_parts 64 s lo 0 (by omega) hlo (Nat.two_pow_pos s)
    have hjoin := nat_join s (hi * 2 ^ s) (lo / 2 ^ (64 - s)) (Nat.mul_mod_left _ _) l3
    have hHH : ((hi * 2 ^ s : Nat) : Int) = (hi : Int) * 2 ^ s := by simp
    have hYY : ((y * 2 ^ s : Nat) : Int) = (y : Int) * 2 ^ s := by simp
    have hLL : ((lo * 2 ^ s : Nat) : Int) = (lo : Int) * 2 ^ s := by simp
    have hl1 : (lo : Int) / 2 ^ (64 - s) = ((lo / 2 ^ (64 - s) : Nat) : Int) := by simp
    have hkey : (hi * W64 + lo) * 2 ^ s = (hi * 2 ^ s + lo / 2 ^ (64 - s)) * 18446744073709551616 + lo * 2 ^ s % 18446744073709551616 := by
      have e1 : hi * W64 * 2 ^ s = hi * 2 ^ s * 18446744073709551616 := Nat.mul_right_comm _ _ _
      have l5 : lo * 2 ^ s = lo * 2 ^ s % 18446744073709551616 + lo / 2 ^ (64 - s) * 18446744073709551616 := l4
      rw [Nat.add_mul, Nat.add_mul, e1]
      omega
    have hdiv := scaled_div (hi * W64 + lo) y s
    have hmod : ∀ R, (hi * W64 + lo) * 2 ^ s % (y * 2 ^ s) = R → (hi * W64 + lo) % y = R / 2 ^ s := fun R => scaled
    have hR2 : ∀ R : Nat, (R : Int) / 2 ^ s = ((R / 2 ^ s : Nat) : Int) := fun R => by simp
    rw [hkey] at hdiv hmod
    rw [← hdiv]
    have hL := (Go.Proofs.Tryd.bits_LeadingZeros64 (y : Int) w (by omega) (by omega)).mono (R' := fun e w' => e = .returned (.int .i64 (s : Int)) ∧ w = w') (by
      rintro e w' ⟨rfl, rfl⟩
      refine ⟨?_, rfl⟩
      rw [Int.toNat_natCast, bitLen_bl 64 y hy (by omega)]
      exact ret_int (by omega))
    have eY : IntKind.u64.wrap ((y : Int) * 2 ^ s) = ((y * 2 ^ s : Nat) : Int) := by rw [← hYY]; exact wrap_nat hY1
    have eH : IntKind.u64.wrap ((hi : Int) * 2 ^ s) = ((hi * 2 ^ s : Nat) : Int) := by rw [← hHH]; exact wrap_nat (Nat.lt_of_le_of_lt (Nat.le_trans (Nat.le_add_right _ _) hH) hY1)
    have eL := wrap_mod (lo * 2 ^ s)
    rw [hLL] at eL
    generalize y * 2 ^ s = Y at *
    generalize hi * 2 ^ s = H at *
    generalize lo / 2 ^ (64 - s) = l1 at *
    obtain ⟨L, hLe⟩ : ∃ L, lo * 2 ^ s % 18446744073709551616 = L := ⟨_, rfl⟩
    rw [hLe] at eL hdiv hmod ⊢
    have bL : L < 18446744073709551616 := by rw [← hLe]; exact Nat.mod_lt _ (by decide)
    obtain ⟨U, hU⟩ : ∃ U, H + l1 = U := ⟨_, rfl⟩
    rw [hU] at hdiv hmod ⊢
    have hUY : U < Y := by omega
    have hY1' : Y < 18446744073709551616 := hY1
    have hY2' : 9223372036854775808 ≤ Y := hY2
    have eU : bits BinOp.or IntKind.u64 (H : Int) (l1 : Int) = (U : Int) := by
      rw [u64_or_nat _ _ (by omega) (by omega), hjoin, hU]
    have sY : Y / 4294967296 * W32 + Y % 4294967296 = Y := by unfold W32; omega
    have h2 := two_halves (U := U) (d1 := L / 4294967296) (d0 := L % 4294967296) (Y := Y) rfl rfl (by omega)
    have e6 : U * 18446744073709551616 + L = (U * W32 + L / 4294967296) * W32 + L % 4294967296 := by unfold W32; omega
    rw [e6, h2.1]
    rw [e6, h2.2] at hmod
    have hm := hmod _ rfl
    rw [hm]
    have q1l := div_lt_half (R := U) (d := L / 4294967296) hUY (by unfold W32; omega)
    have R1l := Nat.mod_lt (U * W32 + L / 4294967296) (show 0 < Y by omega)
    have hN1 := Nat.div_add_mod (U * W32 + L / 4294967296) Y
    rw [Nat.mul_comm Y] at hN1
    obtain ⟨q1, hq1⟩ : ∃ q1, (U * W32 + L / 4294967296) / Y = q1 := ⟨_, rfl⟩
    obtain ⟨R1, hR1⟩ : ∃ R1, (U * W32 + L / 4294967296) % Y = R1 := ⟨_, rfl⟩
    rw [hq1] at q1l hN1 ⊢
    rw [hR1] at R1l hN1 ⊢
    have q0l := div_lt_half (R := R1) (d := L % 4294967296) R1l (by unfold W32; omega)
    have R2l := Nat.mod_lt (R1 * W32 + L % 4294967296) (show 0 < Y by omega)
    have hN2 := Nat.div_add_mod (R1 * W32 + L % 4294967296) Y
    rw [Nat.mul_comm Y] at hN2
    obtain ⟨q0, hq0⟩ : ∃ q0, (R1 * W32 + L % 4294967296) / Y = q0 := ⟨_, rfl⟩
    obtain ⟨R2, hR2'⟩ : ∃ R2, (R1 * W32 + L % 4294967296) % Y = R2 := ⟨_, rfl⟩
    rw [hq0] at q0l hN2 ⊢
    rw [hR2'] at R2l hN2 ⊢
    have yy1 : 0 < Y / 4294967296 := by omega
    have hd1 : L / 4294967296 < W32 := by unfold W32; omega
    have hd0 : L % 4294967296 < W32 := by unfold W32; omega
    have tdq : ∀ u : Nat, u < Y → IntKind.u64.wrap ((u : Int) / ((Y / 4294967296 : Nat) : Int)) = ((u / (Y / 4294967296) : Nat) : Int) := fun u hu => by
      rw [← Int.natCast_ediv]
      exact wrap_nat (Nat.lt_of_le_of_lt (Nat.div_le_self _ _) (by omega))
    have tdr : ∀ u : Nat, u < Y → IntKind.u64.wrap ((u : Int) - IntKind.u64.wrap (((u / (Y / 4294967296) : Nat) : Int) * ((Y / 4294967296 : Nat) : Int))) = ((u % (Y / 4294967296) : Nat) : Int) := fun u hu => by
      have h := Nat.div_add_mod u (Y / 4294967296)
      rw [Nat.mul_comm] at h
      have h3 := Nat.mod_le u (Y / 4294967296)
      rw [← Int.natCast_mul, wrap_nat (by omega)]
      generalize u / (Y / 4294967296) * (Y / 4294967296) = pp at *
      generalize u % (Y / 4294967296) = rr at *
      rw [show (u : Int) - (pp : Int) = ((rr : Nat) : Int) by omega]
      exact wrap_nat (by omega)
    have bfirst : ∀ u : Nat, u < Y → u / (Y / 4294967296) ≤ 4294967297 := fun u hu =>
      half_first (U := u) (y1 := Y / 4294967296) (y0 := Y % 4294967296) (by omega) (by omega) (by unfold W32; omega)
    have brest : ∀ u : Nat, u % (Y / 4294967296) < 4294967296 := fun u => Nat.lt_of_lt_of_le (Nat.mod_lt _ yy1) (by omega)
    refine div64_core hi lo y s Y (Y / 4294967296) (Y % 4294967296) H l1 U L (L / 4294967296) (L % 4294967296) (U / (Y / 4294967296)) (U % (Y / 4294967296)) q1 q0 R1 R2 w hlo hy hhi h0 (by omega)
      (Lib.hid hL) eY (by omega) (mask32 hY1') eH hl1 eU eL (by omega) (mask32 bL) (by omega) (by omega) (by omega) (by omega) (by omega) (by omega)
      (tdq U hUY) (tdr U hUY) ⟨by omega⟩ ⟨half_start yy1 hd1⟩ (bfirst U hUY) (brest U) ⟨by rw [sY, hq1]⟩
      (q1 * W32 + q0) (R2 / 2 ^ s) (U * 4294967296 % 18446744073709551616) ((U * 4294967296 + L / 4294967296) % 18446744073709551616) (q1 * Y % 18446744073709551616)
      (R1 * 4294967296 % 18446744073709551616) ((R1 * 4294967296 + L % 4294967296) % 18446744073709551616) (q0 * Y % 18446744073709551616) (q1 * W32) (R1 / (Y / 4294967296)) (R1 % (Y / 4294967296))
      ?_ ?_ ?_ ?_ (tdq R1 R1l) (tdr R1 R1l) ⟨by omega⟩ ⟨half_start yy1 hd0⟩ (bfirst R1 R1l) (brest R1) ⟨by rw [sY, hq0]⟩ ?_ ?_ ?_ ?_ ?_ ?_ (hR2 R2)
    · rw [IntKind.wrap_u64]; omega
    · rw [IntKind.wrap_u64]; omega
    · rw [← Int.natCast_mul]; exact wrap_mod _
    · exact wrap_diff rfl rfl hN1.symm (by omega)
    · rw [IntKind.wrap_u64]; omega
    · rw [IntKind.wrap_u64]; omega
    · rw [← Int.natCast_mul]; exact wrap_mod _
    · exact wrap_diff rfl rfl hN2.symm (by omega)
    · unfold W32 at *; rw [IntKind.wrap_u64]; omega
    · unfold W32 at *; rw [IntKind.wrap_u64]; omega
end Go.Proofs.YtnikoojgoiobjaaDoor.nn
