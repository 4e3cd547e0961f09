/- Joined texts, what is wanted of them: EventCountsW. -/
import Derived.Deep.RegionHeld3
import Derived.Test.YthlpiaoofijfpaaProg
import Derived.WalkKit
import Derived.Lib.Hide
import Derived.Deep.QuietTactic
import Derived.BigQuiet
import Derived.IntWalk
import Derived.Test.YthlpiaoofijfpaaJa
import Derived.Test.YthlpiaoofijfpaaJc
import Derived.Test.YthlpiaoofijfpaaJk
import Derived.Test.YthlpiaoofijfpaaJb
import Derived.Test.YthlpiaoofijfpaaJg
import Derived.Test.YthlpiaoofijfpaaJe
import Derived.Test.YthlpiaoofijfpaaJh
namespace Go.Proofs.Ythlpiaoofijfpaa.nn
open Go.RowKit

set_option maxRecDepth 100000 in
set_option maxHeartbeats 2000000 in
theorem counts_any (t : VT) (C : Value) (w : World) (hN : cnt t ≤ 1099511627776) (hS : smx t ≤ maxLen) (hC : Lst w C t.l) (hwf : wfT t) :
    Calls Try.prog 9 #[vv t C] w fun e w' => e = .returned (.bool true) ∧ Below w.heap.size w w' := by
  have HB0 := Lib.hid (Box.new w t C 25)
  have H1 : Hid (∀ W, Box w t C W → Calls Try.prog 10 #[vv t C] W fun e w' => ∃ (A : Option Addr) (c : Nat), e = .returned (.tuple #[.slice A (evA t).length c, .int .i64 (chk t : Int)]) ∧ RdE w' A (evA t) ∧ Box w t C w') := Lib.hid fun W hW =>
    (vevents_any t C W hN hS (hC.keep hW.b (Nat.le_refl _)) hwf).mono fun e w' ⟨A, c, he, _, _, hr, hb⟩ => ⟨A, c, he, hr, hW.on hb⟩
  have H2 : Hid (∀ W, Box w t C W → Calls Try.prog 25 #[vv t C] W fun e w' => e = .returned (.int .i64 (chk t : Int)) ∧ Box w t C w') := Lib.hid fun W hW =>
    (vcheck_any t C W hN hS (hC.keep hW.b (Nat.le_refl _)) hwf).mono fun e w' ⟨he, hb⟩ => ⟨he, hW.on hb⟩
  have H3 : Hid (∀ W, Box w t C W → Calls Try.prog 27 #[vv t C] W fun e w' => e = .returned (.int .i64 (cnt t : Int)) ∧ Box w t C w') := Lib.hid fun W hW =>
    (vcount_any t C W hN (hC.keep hW.b (Nat.le_refl _))).mono fun e w' ⟨he, hb⟩ => ⟨he, hW.on hb⟩
  have H4 : Hid (∀ W, Box w t C W → Calls Try.prog 28 #[vv t C] W fun e w' => e = .returned (.int .i64 (dep t : Int)) ∧ Box w t C w') := Lib.hid fun W hW =>
    (vdepth_any t C W (by omega) (hC.keep hW.b (Nat.le_refl _))).mono fun e w' ⟨he, hb⟩ => ⟨he, hW.on hb⟩
  have HA : Hid (∀ W, Box w t C W → Calls Try.prog 13 #[] W fun e w' => e = .returned (.bool true) ∧ Box w t C w') := Lib.hid fun W hW =>
    (awake9 W).mono fun e w' ⟨he, hb⟩ => ⟨he, hW.on hb⟩
  have HS : Hid (∀ W, Box w t C W → W.cell? ⟨w.heap.size, 0, none⟩ = some (.int .i64 t.k) ∧ W.cell? ⟨w.heap.size, 1, none⟩ = some (.bool t.g) ∧ W.cell? ⟨w.heap.size, 2, none⟩ = some (.int .u64 (t.n : Int)) ∧ W.cell? ⟨w.heap.size, 3, none⟩ = some (.string t.s) ∧ W.cell? ⟨w.heap.size, 4, none⟩ = some C ∧ Box w t C W) := Lib.hid fun W h => ⟨h.r.k, h.r.g, h.r.n, h.r.s, h.r.l, h⟩
  have hlen := evA_len t
  have hno : chk t ≠ 0 → evA t = [] := fun h => by unfold evA; rw [if_neg h]
  have hyes : chk t = 0 → (evA t).length = cnt t + en t ∧ Low 0 (evA t) (0, 0, 0) ∧ ∃ m : Int, goE (evA t) (0, 0, 0) = (en t, 0, m) ∧ 0 ≤ m ∧ m ≤ dep t := fun h => by
    have e : evA t = evs t := by unfold evA; rw [if_pos h]
    obtain ⟨m, h1, h2, h3, h4⟩ := runs t (chk_cnt h).2.2 0 0 0 0 (Int.le_refl _) (Int.le_refl _)
    rw [e]
    exact ⟨evs_cnt t, h4, m, by rw [h1, Nat.zero_add], h2, by omega⟩
  obtain ⟨L, hL⟩ : ∃ L, evA t = L := ⟨_, rfl⟩
  obtain ⟨c, hc⟩ : ∃ c, chk t = c := ⟨_, rfl⟩
  obtain ⟨cn, hcn⟩ : ∃ c, cnt t = c := ⟨_, rfl⟩
  obtain ⟨dp, hdp⟩ : ∃ c, dep t = c := ⟨_, rfl⟩
  obtain ⟨q, hq⟩ : ∃ c, en t = c := ⟨_, rfl⟩
  rw [hL, hc] at H1
  rw [hc] at H2
  rw [hcn] at H3
  rw [hdp] at H4
  rw [hL] at hlen
  rw [hL, hc] at hno
  rw [hL, hc, hcn, hdp, hq] at hyes
  have HNO := Lib.hid hno
  have HYES := Lib.hid hyes
  unfold vv at H1 H2 H3 H4 ⊢
  clear hL hc hcn hdp hq hN hS hC hno hyes hwf
  go_enter Try.func9, Try.ntmps9
  go_wp2_with fail
  refine (H1.out _ HB0.out).mono ?_
  rintro e w1 ⟨A1, c1, rfl, r1, k1⟩
  have HR1 := Lib.hid r1
  have HK1 := Lib.hid k1
  have h0 := k1.r.k
  have h1 := k1.r.g
  have h2 := k1.r.n
  have h3 := k1.r.s
  have h4 := k1.r.l
  clear r1 k1
  by_cases hc0 : c = 0
  · subst hc0
    obtain ⟨y1, y2, M, y3, y4, y5⟩ := HYES.out rfl
    obtain ⟨M', rfl⟩ : ∃ k : Nat, M = (k : Int) := ⟨M.toNat, by omega⟩
    obtain ⟨n, hn⟩ : ∃ n, L.length = n := ⟨_, rfl⟩
    rw [hn] at y1 hlen ⊢
    have HY1 := Lib.hid y1
    have HY2 := Lib.hid y2
    have HY3 := Lib.hid y3
    have HN := Lib.hid hn
    clear HYES HNO y1 y2 y3 hn h0 h1 h2 h3 h4
    go_wp2_with fail
    go_loopw [5, 6, 7, 8] (fun s5 s6 s7 s8 wr => ∃ i e d m : Nat, i ≤ n ∧ s5 = .int .i64 (e : Int) ∧ s6 = .int .i64 (d : Int) ∧ s7 = .int .i64 (m : Int) ∧ s8 = .int .i64 (i : Int) ∧ Hid (goE (L.take i) (0, 0, 0) = (e, (d : Int), (m : Int))) ∧ Hid (RdE wr A1 L) ∧ Hid (Box w t C wr)) (fun _ _ _ s8 _ => n - (intOf s8).toNat)
    case atStart => exact ⟨0, 0, 0, 0, Nat.zero_le _, rfl, rfl, rfl, rfl, Lib.hid rfl, HR1, HK1⟩
    case round =>
      obtain ⟨i, e, d, m, hi, rfl, rfl, rfl, rfl, hg, hr, hk⟩ := hrel
      by_cases hlt : i < n
      · have hiL : i < L.length := by rw [HN.out]; exact hlt
        obtain ⟨b1, o1, rfl, -, -⟩ := hr.out (by intro h; subst h; simp at hiL)
        have a0 := (hr.out.at hiL).1
        have hst := goE_take hiL (0, 0, 0)
        have hlow := Low_at HY2.out hiL
        have hle := goE_le (L.take i) (0, 0, 0)
        rw [hst] at hlow
        rw [hg.out] at hst hlow hle
        have hl2 : (L.take i).length = i := by rw [List.length_take]; omega
        rw [hl2] at hle
        obtain ⟨x, hx⟩ : ∃ x, L[i] = x := ⟨_, rfl⟩
        rw [hx] at a0 hst hlow
        obtain ⟨k, hkx⟩ : ∃ k, x.k = k := ⟨_, rfl⟩
        rw [hkx] at a0
        unfold stp at hst hlow
        rw [hkx] at hst hlow
        have he1 : e ≤ i := by have := hle.1; simpa using this
        have hd1 : d ≤ i := by have := hle.2.1; dsimp only at this; omega
        have hm1 : m ≤ i := by have := hle.2.2.1; dsimp only at this; omega
        clear hl2 hx hkx hle hiL
        by_cases c15 : k = 15
        · subst c15
          rw [if_pos rfl] at hst hlow
          have hd0 : 1 ≤ d := by dsimp only at hlow; omega
          obtain ⟨d, rfl⟩ : ∃ d', d = d' + 1 := ⟨d - 1, by omega⟩
          have hnn : ¬ ((d + 1 : Nat) : Int) - 1 < 0 := by omega
          have hnn2 : ¬ ((d : Int) + 1) - 1 < 0 := by omega
          have HST : Hid (goE (L.take (i + 1)) (0, 0, 0) = (e + 1, (d : Int), ((max m d : Nat) : Int))) := Lib.hid (by rw [hst]; dsimp only; congr 2 <;> omega)
          clear hst hlow
          go_wp2_with fail
          go_roundw
          case rel => exact ⟨i + 1, e + 1, d, max m d, hlt, congrArg (Value.int .i64) (by omega), congrArg (Value.int .i64) (by omega), congrArg (Value.int .i64) (by omega), congrArg (Value.int .i64) (by omega), HST, hr, hk⟩
          case measure => simp [intOf]; omega
        · rw [if_neg c15] at hst hlow
          by_cases c11 : k = 11 ∨ k = 12
          · rw [if_pos c11] at hst hlow
            have hnn : ¬ (d : Int) + 1 < 0 := by omega
            have HST : Hid (goE (L.take (i + 1)) (0, 0, 0) = (e, ((d + 1 : Nat) : Int), ((max m (d + 1) : Nat) : Int))) := Lib.hid (by rw [hst]; dsimp only; congr 2 <;> omega)
            clear hst hlow
            rcases c11 with rfl | rfl
            · skip
              go_wp2_with fail
              go_roundw
              case rel => exact ⟨i + 1, e, d + 1, max m (d + 1), hlt, congrArg (Value.int .i64) (by omega), congrArg (Value.int .i64) (by omega), congrArg (Value.int .i64) (by omega), congrArg (Value.int .i64) (by omega), HST, hr, hk⟩
              case measure => simp [intOf]; omega
            · skip
              go_wp2_with fail
              go_roundw
              case rel => exact ⟨i + 1, e, d + 1, max m (d + 1), hlt, congrArg (Value.int .i64) (by omega), congrArg (Value.int .i64) (by omega), congrArg (Value.int .i64) (by omega), congrArg (Value.int .i64) (by omega), HST, hr, hk⟩
              case measure => simp [intOf]; omega
          · rw [if_neg c11] at hst hlow
            have b15 : (k == 15) = false := by simp [c15]
            have b11 : (k == 11) = false := by simp; omega
            have b12 : (k == 12) = false := by simp; omega
            have hnn : ¬ (d : Int) < 0 := by omega
            have HST : Hid (goE (L.take (i + 1)) (0, 0, 0) = (e, (d : Int), ((max m d : Nat) : Int))) := Lib.hid (by rw [hst]; dsimp only; congr 2; omega)
            clear hst hlow c11 c15
            go_wp2_with fail
            go_roundw
            case rel => exact ⟨i + 1, e, d, max m d, hlt, congrArg (Value.int .i64) (by omega), congrArg (Value.int .i64) (by omega), congrArg (Value.int .i64) (by omega), congrArg (Value.int .i64) (by omega), HST, hr, hk⟩
            case measure => simp [intOf]; omega
      · obtain rfl : i = n := by omega
        have hg2 := hg.out
        rw [show L.take i = L from List.take_of_length_le (by rw [HN.out]; exact Nat.le_refl _), HY3.out] at hg2
        injection hg2 with g1 g2
        injection g2 with g2 g3
        obtain rfl : q = e := g1
        obtain rfl : 0 = d := by omega
        obtain rfl : M' = m := by omega
        have hle : ¬ (dp : Int) < (M' : Int) := by omega
        have hle2 : (M' : Int) ≤ (dp : Int) := by omega
        have y1 := HY1.out
        have hsum : ((i : Int) == (cn : Int) + (q : Int)) = true := by rw [beq_iff_eq]; omega
        have C3 : Hid (∀ W, Box w t C W → Calls Try.prog 27 #[.agg #[.int .i64 t.k, .bool t.g, .int .u64 (t.n : Int), .string t.s, C]] W fun e w' => e = .returned (.int .i64 (cn : Int)) ∧ Box w t C w') := H3
        have h0 := hk.out.r.k
        have h1 := hk.out.r.g
        have h2 := hk.out.r.n
        have h3 := hk.out.r.s
        have h4 := hk.out.r.l
        have hwr : (cn : Int) + (q : Int) ≤ 131072 := by omega
        clear y1
        clear hg g2 g3 HY2 HY3 y4 y5 hi hlt HN hlen HR1 HK1 HB0 H1 H2 HY1
        go_wp2_with fail
        refine (H3.out _ hk.out).mono ?_
        rintro e w2 ⟨rfl, k2⟩
        have HK2 := Lib.hid k2
        have j0 := k2.r.k
        have j1 := k2.r.g
        have j2 := k2.r.n
        have j3 := k2.r.s
        have j4 := k2.r.l
        clear k2 h0 h1 h2 h3 h4
        go_wp2_with fail
        refine (H4.out _ HK2.out).mono ?_
        rintro e w3 ⟨rfl, k3⟩
        have HK3 := Lib.hid k3
        clear k3 j0 j1 j2 j3 j4
        go_wp2_with fail
        refine (HA.out _ HK3.out).mono ?_
        rintro e w4 ⟨rfl, k4⟩
        have HK4 := Lib.hid k4.b
        clear k4
        go_wp2_with fail
        exact bodyPost_ret (by simp [results, Try.results9, go_sem]) rfl ⟨rfl, HK4.out⟩
  · obtain rfl := HNO.out hc0
    have hcn : ((c : Int) == 0) = false := by simp [hc0]
    clear HYES HNO hlen
    go_wp2_with fail
    refine (H2.out _ HK1.out).mono ?_
    rintro e w2 ⟨rfl, k2⟩
    have HK2 := Lib.hid k2
    clear k2 h0 h1 h2 h3 h4
    go_wp2_with fail
    refine (HA.out _ HK2.out).mono ?_
    rintro e w4 ⟨rfl, k4⟩
    have HK4 := Lib.hid k4.b
    clear k4
    go_wp2_with fail
    exact bodyPost_ret (by simp [results, Try.results9, go_sem]) rfl ⟨rfl, HK4.out⟩
theorem counts9_any (t : VT) (C : Value) (w : World) (hC : Lst w C t.l) (hB : blk t ≤ 1048576) (hwf : wfT t) :
    Calls Try.prog 9 #[vv t C] w fun r w' => r = .returned (.bool true) ∧ Below w.heap.size w w' := by
  have hcb := cnt_blk t
  have hsb := smx_blk t
  have hmx : (1048576 : Nat) ≤ maxLen := by simp [maxLen]
  exact counts_any t C w (by omega) (by omega) hC hwf
end Go.Proofs.Ythlpiaoofijfpaa.nn
