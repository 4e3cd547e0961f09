/- The walk of the document's FromBytes. -/
import Derived.Test.YtnikoojgoiobjaaDoorFromBytes
namespace Go.Proofs.YtnikoojgoiobjaaDoor.nn
open Go.RowKit

set_option maxRecDepth 100000 in
set_option maxHeartbeats 1000000 in
theorem rfromBytes_any (A : Option Addr) (m c : Nat) (b : Nat → Nat) (w : World) (hA : Rd w .u8 A m b) (hform : (A = none ∧ m = 0 ∧ c = 0) ∨ ∃ bb off, A = some ⟨bb, off, none⟩) (lb : ∀ i, i < m → b i < 256) (hm : m ≤ c) (hc : c ≤ maxLen) (k : Nat) (hk : Lead b m k) :
    Calls Tryd.prog 6 #[.slice A m c] w fun e w' => Res w w' e (fbR b m k) (fbE m k) := by
  obtain ⟨i0, hi, hz0, hz1, hz2⟩ := info_parts info_u32
  obtain ⟨hkm, hk0, hk1⟩ := hk
  have HK := Lib.hid (And.intro hk0 hk1)
  have HB := Lib.hid lb
  have hA0 := Lib.hid hA
  have HF := Lib.hid hform
  unfold maxLen at hc
  clear hk0 hk1 lb hA hform
  go_enter Tryd.func6, Tryd.ntmps6
  go_wp2
  go_loop [4] (fun s => ∃ i : Nat, i ≤ k ∧ s = .int .i64 (i : Int)) (fun s => k - (intOf s).toNat)
  case atStart => exact ⟨0, by omega, rfl⟩
  case round =>
    obtain ⟨i, hik, rfl⟩ := hrel
    by_cases hlt : i < k
    · obtain ⟨bb, off, rfl, hbl, hcell⟩ := hA0.out (by omega)
      have hx := hcell i (by omega)
      rw [HK.out.1 i hlt] at hx
      clear hcell
      go_wp2_with fail
      go_round
      case rel => exact ⟨i + 1, by omega, by go_num⟩
      case measure => simp [intOf]; omega
    · obtain rfl : i = k := by omega
      obtain ⟨M, hM⟩ : ∃ M, m - i = M := ⟨_, rfl⟩
      have hMi : (m : Int) - (i : Int) = (M : Int) := by omega
      have HR := Lib.hid (show fbR b m i = (if 16384 < M then 0 else be (fun j => b (i + j)) M) ∧ fbE m i = (if 16384 < M then 2 else 0) from by
        have h := be_skip HK.out.1 M
        rw [show i + M = m by omega] at h
        unfold fbR fbE
        rw [hM, h]
        exact ⟨rfl, rfl⟩)
      have lbk : Hid (∀ j, j < M → b (i + j) < 256) := Lib.hid fun j hj => HB.out _ (by omega)
      obtain ⟨b2, hb2⟩ : ∃ b2 : Nat → Nat, (fun j => b (i + j)) = b2 := ⟨_, rfl⟩
      have lb2 : Hid (∀ j, j < M → b2 j < 256) := Lib.hid fun j hj => by rw [← hb2]; exact lbk.out j hj
      rw [hb2] at HR
      obtain ⟨L, hL⟩ : ∃ L, (M + 3) / 4 = L := ⟨_, rfl⟩
      have hL' : ((M : Int) + 3) / 4 = (L : Int) := by omega
      have hML : M ≤ 4 * L := by omega
      have hL4 : 4 * L ≤ M + 3 := by omega
      clear hL
      by_cases h0 : M = 0
      · have HS : Hid (fbR b m i = 0 ∧ fbE m i = 0) := Lib.hid (by rw [HR.out.1, HR.out.2, if_neg (by omega), if_neg (by omega), h0]; exact ⟨rfl, rfl⟩)
        subst h0
        obtain rfl : L = 0 := by omega
        have him : i = m := by omega
        clear HR lb2 lbk hb2 hL' hMi hM
        have key : ∀ w1 : World, Below w.heap.size w w1 → Res w w1 (.returned (.tuple #[.slice (some ⟨w.heap.size, 0, none⟩) 0 0, .int .i64 0])) (fbR b m i) (fbE m i) := fun w1 hb => by
          rw [HS.out.1, HS.out.2]
          exact ⟨_, 0, 0, fun _ => 0, rfl, ⟨Nat.le_refl _, by simp [maxLen], Rd.none_, fun _ h => absurd h (by omega), .inl rfl, rfl⟩, hb⟩
        have KEY := Lib.hid key
        clear key
        subst him
        rcases HF.out with ⟨rfl, h1, h2⟩ | ⟨bb, off, rfl⟩
        · subst h1 h2
          go_wp2_with (refine wpList_make_full _ rfl _ _ 22 rfl w.heap.size 45 i0 _ 1 Tryd.underlying22 hi hz0 hz1 .i64 .i64 _ _ 0 rfl rfl (by first | rfl | omega) (by first | rfl | omega) (by rw [hz2]; omega) (by unfold maxLen; omega) (by omega) ?_; intro w1 hown1 hg1)
          have hbw1 := Lib.hid ((Below.refl w.heap.size w).grown (row := none) hg1 (Nat.le_refl _) (fun k hk => by cases hk))
          clear hown1 hg1
          go_loopw [6] (fun s wr => s = .int .i64 0 ∧ wr = w1) (fun _ _ => 0)
          case atStart => exact ⟨rfl, rfl⟩
          case round =>
            obtain ⟨rfl, rfl⟩ := hrel
            go_wp2_with fail
            go_ret2
            exact KEY.out _ hbw1.out
        · by_cases hci : c = i
          · subst hci
            have hx : 0 < c → w.cell? ⟨bb, off + c, none⟩ = w.cell? ⟨bb, off + c, none⟩ := fun _ => rfl
            clear hx
            go_wp2_with (refine wpList_make_full _ rfl _ _ 22 rfl w.heap.size 45 i0 _ 1 Tryd.underlying22 hi hz0 hz1 .i64 .i64 _ _ 0 rfl rfl (by first | rfl | omega) (by first | rfl | omega) (by rw [hz2]; omega) (by unfold maxLen; omega) (by omega) ?_; intro w1 hown1 hg1)
            have hbw1 := Lib.hid ((Below.refl w.heap.size w).grown (row := none) hg1 (Nat.le_refl _) (fun k hk => by cases hk))
            clear hown1 hg1
            go_loopw [6] (fun s wr => s = .int .i64 0 ∧ wr = w1) (fun _ _ => 0)
            case atStart => exact ⟨rfl, rfl⟩
            case round =>
              obtain ⟨rfl, rfl⟩ := hrel
              go_wp2_with fail
              go_ret2
              exact KEY.out _ hbw1.out
          · have hci2 : i < c := by omega
            clear hci
            go_wp2_with (refine wpList_make_full _ rfl _ _ 22 rfl w.heap.size 45 i0 _ 1 Tryd.underlying22 hi hz0 hz1 .i64 .i64 _ _ 0 rfl rfl (by first | rfl | omega) (by first | rfl | omega) (by rw [hz2]; omega) (by unfold maxLen; omega) (by omega) ?_; intro w1 hown1 hg1)
            have hbw1 := Lib.hid ((Below.refl w.heap.size w).grown (row := none) hg1 (Nat.le_refl _) (fun k hk => by cases hk))
            clear hown1 hg1
            go_loopw [6] (fun s wr => s = .int .i64 0 ∧ wr = w1) (fun _ _ => 0)
            case atStart => exact ⟨rfl, rfl⟩
            case round =>
              obtain ⟨rfl, rfl⟩ := hrel
              go_wp2_with fail
              go_ret2
              exact KEY.out _ hbw1.out
      · have h0 : 0 < M := by omega
        have hT : b i ≠ 0 := by
          rcases HK.out.2 with h | h
          · omega
          · exact h
        obtain ⟨bb, off, rfl, hbl, hcell⟩ := hA0.out (by omega)
        have hr : Hid (Rd w .u8 (some ⟨bb, off + i, none⟩) M b2) := Lib.hid fun _ => ⟨bb, off + i, rfl, hbl, fun j hj => by
          have h := hcell (i + j) (by omega)
          rw [← hb2, Nat.add_assoc]
          exact h⟩
        have hx := hcell i (by omega)
        obtain ⟨bk, hbk⟩ : ∃ bk, b i = bk := ⟨_, rfl⟩
        have HB0 : Hid (b2 0 = bk) := Lib.hid (by rw [← hb2]; exact hbk)
        rw [hbk] at hx hT
        have HT := Lib.hid hT
        have hq : ((bk : Int) == 0) = false := by simp; omega
        have hci : i < c := by omega
        clear hcell HB hb2 lbk HK hbk hT HF hA0
        by_cases hlong : 16384 < M
        · have HS : Hid (fbR b m i = 0 ∧ fbE m i = 2) := Lib.hid (by rw [HR.out.1, HR.out.2, if_pos hlong, if_pos hlong]; exact ⟨rfl, rfl⟩)
          have HN := Lib.hid (num_nil w)
          clear hL' HR
          go_wp2_with fail
          go_ret2
          rw [HS.out.1, HS.out.2]
          exact ⟨_, _, _, _, rfl, HN.out, Below.refl _ _⟩
        · have HS : Hid (fbR b m i = be b2 M ∧ fbE m i = 0) := Lib.hid (by rw [HR.out.1, HR.out.2, if_neg hlong, if_neg hlong]; exact ⟨rfl, rfl⟩)
          clear HR
          have hM4 : M ≤ 16384 := by omega
          clear hlong
          go_wp2_with (refine wpList_make_full _ rfl _ _ 22 rfl w.heap.size 45 i0 _ 1 Tryd.underlying22 hi hz0 hz1 .i64 .i64 _ _ L rfl rfl (by first | exact hL' | omega) (by first | exact hL' | omega) (by rw [hz2]; omega) (by unfold maxLen; omega) (by omega) ?_; intro w1 hown1 hg1)
          rw [made_vl] at hown1
          obtain ⟨cur, hbk, hint, _, _, _, hcs, _⟩ := own_wrote hown1
          have hbw1 : Below w.heap.size w w1 := (Below.refl _ _).grown (row := none) hg1 (Nat.le_refl _) (fun k hk => by cases hk)
          have hr1 := Lib.hid (hr.out.below hbw1)
          have hne : Hid (∀ b o, some (⟨bb, off + i, none⟩ : Addr) = some ⟨b, o, none⟩ → 0 < M → b ≠ w.heap.size) := Lib.hid fun b o e h0 => by have := hr.out.lt e h0; omega
          clear hown1 hcs hg1 hL' hx hq hr
          go_loopw [6] (fun s wr => ∃ j : Nat, j ≤ M ∧ s = .int .i64 j ∧ Hid (FbRel w1 wr w.heap.size 45 cur L M b2 j)) (fun s _ => M - (intOf s).toNat)
          case atStart => exact ⟨0, Nat.zero_le _, rfl, Lib.hid ⟨fun _ => 0, cur, Wrote.refl hbk 0 _, hint, fun _ _ => Nat.two_pow_pos 32, by rw [zero_sm]; simp [be], fun q r _ _ => ⟨Nat.zero_mod _, fun _ _ => rfl⟩⟩⟩
          case round =>
            obtain ⟨j, hj, rfl, hrel⟩ := hrel
            by_cases hjl : j < M
            · obtain ⟨f', cur', hw, hin, lf', hv, hlow⟩ := hrel.out
              obtain ⟨q, hq⟩ : ∃ q, (M - 1 - j) / 4 = q := ⟨_, rfl⟩
              obtain ⟨r, hr⟩ : ∃ r, (M - 1 - j) % 4 = r := ⟨_, rfl⟩
              have hp : M - 1 - j = 4 * q + r := by omega
              have hr4 : r < 4 := by omega
              have hqL : q < L := by omega
              have h5 := hlow q r (by omega) hr4
              have hx256 := lb2.out j hjl
              obtain ⟨bb', off', hbo, _, hcell⟩ := (hr1.out.wrote hw hne.out) (by omega)
              injection hbo with hbo
              injection hbo with e1 e2
              subst e1 e2
              have hx := hcell j hjl
              have hc1 := (Bk.cell hw.blk (0 + q)).trans (hin q hqL)
              have hf1 := Bk.frozen hw.blk (0 + q)
              have bo := lf' q hqL
              rw [Nat.zero_add] at hc1 hf1
              have HB := Lib.hid (byte_in hr4 hx256 bo h5.1)
              have HST := Lib.hid (fun z hz => FbRel.step hw hin lf' hv h5 hjl hp hr4 hqL hx256 z hz)
              obtain ⟨p, hpp⟩ : ∃ p, 4 * q + r = p := ⟨_, rfl⟩
              obtain ⟨t, htt⟩ : ∃ t, 8 * r = t := ⟨_, rfl⟩
              have t32 : t < 32 := by omega
              have e1 : (M : Int) - 1 - (j : Int) = (p : Int) := by omega
              have e2 : (p : Int) / 4 = (q : Int) := by omega
              have e3 : (p : Int) % 4 = (r : Int) := by omega
              have e4 : (8 : Int) * (r : Int) = (t : Int) := by omega
              have qb : (q : Int) < (L : Int) := by omega
              have pb : p ≤ 16384 := by omega
              rw [htt] at HB HST
              clear hcell hq hr hp hpp htt hw hin lf' hv hlow h5
              have xs : b2 j < 256 := hx256
              go_wp2_with fail
              have t1 : Int.tdiv (p : Int) 4 = (q : Int) := by rw [Int.tdiv_eq_ediv_of_nonneg (by omega)]; exact e2
              have t3 : Int.tmod (p : Int) 4 = (r : Int) := by rw [Int.tmod_eq_emod_of_nonneg (by omega)]; exact e3
              have t0 : 0 ≤ (q : Int) := by omega
              have t9 : 0 ≤ (t : Int) := by omega
              have t6 : IntKind.u32.wrap (b2 j : Int) = (b2 j : Int) := by rw [IntKind.wrap_u32]; omega
              have t7 : IntKind.i64.wrap (8 * (r : Int)) = (t : Int) := by rw [e4]; exact IntWalk.i64_in _ (by omega)
              have t2 : IntKind.i64.wrap (q : Int) = (q : Int) := IntWalk.i64_in _ (by omega)
              have t4 : IntKind.i64.wrap (r : Int) = (r : Int) := IntWalk.i64_in _ (by omega)
              have t5 : IntKind.i64.wrap (t : Int) = (t : Int) := IntWalk.i64_in _ (by omega)
              clear e1 e2 e3
              go_region_with (fail)
              all_goals
                clear t1 t2 t3 t4 t5 t6 t7 e4
                go_wp2
                go_roundw
                case rel => exact ⟨j + 1, by omega, by go_num, Lib.hid (HST.out _ HB.out.2.2)⟩
                case measure => simp [intOf]; omega
            · obtain rfl : j = M := by omega
              obtain ⟨f', cur', hw, hin, lf', hv, _⟩ := hrel.out
              rw [Nat.sub_self, Nat.pow_zero, Nat.mul_one] at hv
              have hbw2 := hbw1.grown hw.grown hbw1.size (fun k hk => by injection hk with hk; exact Nat.le_of_eq hk)
              have hT : Trm f' L := by
                right
                intro hz
                have h1 := be_ge (b := b2) (m := j) h0 (by rw [HB0.out]; exact HT.out)
                have h2 : sm (2 ^ 32) f' L = sm (2 ^ 32) f' (L - 1) := by
                  obtain ⟨t, rfl⟩ : ∃ t, L = t + 1 := ⟨L - 1, by omega⟩
                  rw [Nat.add_sub_cancel] at hz ⊢
                  simp [sm, hz]
                have h3 : sm (2 ^ 32) f' (L - 1) < (2 ^ 32) ^ (L - 1) := sm_lt (lf'.mono (by omega))
                have h4 : (2 ^ 32) ^ (L - 1) ≤ 256 ^ (j - 1) := by
                  rw [show (2 : Nat) ^ 32 = 256 ^ 4 from rfl, ← Nat.pow_mul]
                  exact Nat.pow_le_pow_right (by decide) (by omega)
                omega
              have HN : Hid (Num wr (some ⟨w.heap.size, 0, none⟩) L L f' (be b2 j)) := Lib.hid ⟨Nat.le_refl _, by unfold maxLen; omega, hin.rd hw.blk, lf', hT, hv⟩
              clear hw hin lf' hv hT
              go_wp2
              go_ret2
              rw [HS.out.1, HS.out.2]
              exact ⟨_, _, _, f', rfl, HN.out, hbw2⟩
end Go.Proofs.YtnikoojgoiobjaaDoor.nn
