/- The walk of FromBytes: the number of bytes, the highest first. -/
import Derived.Test.YtnikoojgoiobjaaDoorNatBytes
import Derived.Test.YtnikoojgoiobjaaDoorShiftUp
namespace Go.Proofs.YtnikoojgoiobjaaDoor.nn
open Go.RowKit

/-- what holds when i of the m bytes b are in -/
def FbRel (w wr : World) (g : Nat) (e : TypeId) (cur : Array Value) (L m : Nat) (b : Nat → Nat) (i : Nat) : Prop :=
  ∃ (f' : Nat → Nat) (cur' : Array Value), Wrote w wr g e cur cur' 0 L ∧ Ints cur' .u32 0 L f' ∧ Lt (2 ^ 32) f' L ∧ sm (2 ^ 32) f' L = be b i * 256 ^ (m - i) ∧
    ∀ q r, 4 * q + r + 1 = m - i → r < 4 → f' q % 2 ^ (8 * (r + 1)) = 0 ∧ ∀ j, j < q → f' j = 0

theorem byte_in {o x r : Nat} (hr : r < 4) (hx : x < 256) (ho : o < 2 ^ 32) (hm : o % 2 ^ (8 * (r + 1)) = 0) :
    o + x * 2 ^ (8 * r) < 2 ^ 32 ∧ (o + x * 2 ^ (8 * r)) % 2 ^ (8 * r) = 0 ∧ bits BinOp.or IntKind.u32 (o : Int) ((x : Int) * 2 ^ (8 * r) % 4294967296) = ((o + x * 2 ^ (8 * r) : Nat) : Int) := by
  have e : (x : Int) * 2 ^ (8 * r) % 4294967296 = ((x * 2 ^ (8 * r) : Nat) : Int) := by
    have h1 : ((x * 2 ^ (8 * r) : Nat) : Int) = (x : Int) * 2 ^ (8 * r) := by simp
    rw [← h1]
    match r, hr with
    | 0, _ => omega
    | 1, _ => show ((x * 256 : Nat) : Int) % 4294967296 = ((x * 256 : Nat) : Int); omega
    | 2, _ => show ((x * 65536 : Nat) : Int) % 4294967296 = ((x * 65536 : Nat) : Int); omega
    | 3, _ => show ((x * 16777216 : Nat) : Int) % 4294967296 = ((x * 16777216 : Nat) : Int); omega
  rw [e]
  have hb : x * 2 ^ (8 * r) < 2 ^ (8 * (r + 1)) := by
    rw [Nat.mul_add, Nat.pow_add, Nat.mul_comm]
    exact Nat.mul_lt_mul_of_pos_left hx (Nat.two_pow_pos _)
  have hj : o ||| x * 2 ^ (8 * r) = o + x * 2 ^ (8 * r) := nat_join (8 * (r + 1)) o _ hm hb
  have hlt : o + x * 2 ^ (8 * r) < 2 ^ 32 := by
    rw [← hj]
    refine Nat.or_lt_two_pow ho ?_
    refine Nat.lt_of_lt_of_le hb (Nat.pow_le_pow_right (by decide) (by omega))
  refine ⟨hlt, ?_, ?_⟩
  · rw [Nat.add_mul_mod_self_right]
    rw [Nat.mul_add, Nat.pow_add] at hm
    exact Nat.mod_eq_zero_of_dvd (Nat.dvd_trans (Nat.dvd_mul_right _ _) (Nat.dvd_of_mod_eq_zero hm))
  · rw [u32_or_nat o _ ho (by omega), hj]

theorem FbRel.step {w wr : World} {g : Nat} {e : TypeId} {cur : Array Value} {L m : Nat} {b : Nat → Nat} {i q r : Nat} {f' : Nat → Nat} {cur' : Array Value} (h1 : Wrote w wr g e cur cur' 0 L) (h2 : Ints cur' .u32 0 L f') (h3 : Lt (2 ^ 32) f' L)
    (h4 : sm (2 ^ 32) f' L = be b i * 256 ^ (m - i)) (h5 : f' q % 2 ^ (8 * (r + 1)) = 0 ∧ ∀ j, j < q → f' j = 0) (hi : i < m) (hp : m - 1 - i = 4 * q + r) (hr : r < 4) (hq : q < L) (hx : b i < 256) (z : Int) (hz : z = ((f' q + b i * 2 ^ (8 * r) : Nat) : Int)) :
    FbRel w (wr.setCell ⟨g, q, none⟩ (.int .u32 z)).drew g e cur L m b (i + 1) := by
  subst hz
  obtain ⟨k1, k2, _⟩ := byte_in hr hx (h3 q hq) h5.1
  have a := h1.set_ q hq (.int .u32 ((f' q + b i * 2 ^ (8 * r) : Nat) : Int))
  have c := h2.set_ q (f' q + b i * 2 ^ (8 * r)) hq
  rw [Nat.zero_add] at a c
  refine ⟨_, _, a.drewN 1, c, h3.upd k1, ?_, fun q' r' hq' hr' => ?_⟩
  · have h6 := sm_upd (2 ^ 32) f' (k := q) (f' q + b i * 2 ^ (8 * r)) hq
    have e1 : m - i = 4 * q + r + 1 := by omega
    have e2 : m - (i + 1) = 4 * q + r := by omega
    rw [h4, e1, Nat.pow_succ 256 (4 * q + r), pow256, Nat.add_mul] at h6
    rw [e2, be, pow256]
    generalize (2 ^ 32) ^ q = D at *
    generalize 2 ^ (8 * r) = E at *
    have e3 : be b i * (E * D * 256) = be b i * 256 * (E * D) := by rw [Nat.mul_comm (E * D) 256, Nat.mul_assoc]
    have e4 : b i * E * D = b i * (E * D) := Nat.mul_assoc _ _ _
    rw [e3, e4] at h6
    rw [Nat.add_mul]
    omega
  · by_cases h0 : r = 0
    · subst h0
      have : q' + 1 = q ∧ r' = 3 := by omega
      obtain ⟨rfl, rfl⟩ := this
      refine ⟨?_, fun j hj => ?_⟩
      · rw [upd_ne _ (by omega), h5.2 q' (by omega)]
      · rw [upd_ne _ (by omega)]; exact h5.2 j (by omega)
    · have : q' = q ∧ r' + 1 = r := by omega
      obtain ⟨rfl, rfl⟩ := this
      refine ⟨?_, fun j hj => ?_⟩
      · rw [upd_at]; exact k2
      · rw [upd_ne _ (by omega)]; exact h5.2 j hj

/-- what is read, and the number of the error -/
def fbR (b : Nat → Nat) (m k : Nat) : Nat := if 16384 < m - k then 0 else be b m
def fbE (m k : Nat) : Nat := if 16384 < m - k then 2 else 0
/-- so many bytes 0 stand ahead -/
def Lead (b : Nat → Nat) (m k : Nat) : Prop := k ≤ m ∧ (∀ i, i < k → b i = 0) ∧ (k = m ∨ b k ≠ 0)
theorem be_zero {b : Nat → Nat} {k : Nat} (h : ∀ i, i < k → b i = 0) : be b k = 0 := by
  induction k with
  | zero => rfl
  | succ k ih => rw [be, ih fun i hi => h i (by omega), h k (by omega)]
theorem be_skip {b : Nat → Nat} {k : Nat} (h : ∀ i, i < k → b i = 0) (n : Nat) : be b (k + n) = be (fun i => b (k + i)) n := by
  induction n with
  | zero => exact be_zero h
  | succ n ih => rw [← Nat.add_assoc, be, be, ih]
theorem be_ge {b : Nat → Nat} {m : Nat} (hm : 0 < m) (h : b 0 ≠ 0) : 256 ^ (m - 1) ≤ be b m := by
  obtain ⟨k, rfl⟩ : ∃ k, m = k + 1 := ⟨m - 1, by omega⟩
  rw [Nat.add_sub_cancel]
  clear hm
  induction k with
  | zero => simp [be]; omega
  | succ k ih => rw [be, Nat.pow_succ]; omega
theorem be_lt {b : Nat → Nat} {n : Nat} (h : ∀ i, i < n → b i < 256) : be b n < 256 ^ n := by
  induction n with
  | zero => simp [be]
  | succ n ih =>
    have h1 := ih fun i hi => h i (by omega)
    have h2 := h n (by omega)
    rw [be, Nat.pow_succ]
    omega

set_option maxRecDepth 100000 in
set_option maxHeartbeats 1000000 in
theorem fromBytes_any (A : Option Addr) (m c : Nat) (b : Nat → Nat) (w : World) (hA : Rd w .u8 A m b) (lb : ∀ i, i < m → b i < 256) (hm : m ≤ c) (hc : c ≤ maxLen) (k : Nat) (hk : Lead b m k) :
    Calls Tryd.prog 5 #[.slice A m c] w fun e w' => Res w w' e (fbR b m k) (fbE m k) := by
  obtain ⟨i0, hi, hz0, hz1, hz2⟩ := info_parts info_u32
  obtain ⟨hkm, hk0, hk1⟩ := hk
  have HK := Lib.hid (And.intro hk0 hk1)
  have HB := Lib.hid lb
  have hA0 := Lib.hid hA
  unfold maxLen at hc
  clear hk0 hk1 lb hA
  go_enter Tryd.func5, Tryd.ntmps5
  go_wp2
  go_loop [0] (fun s => ∃ (i : Nat) (A' : Option Addr) (c' : Nat), i ≤ k ∧ s = .slice A' (m - i) c' ∧ m - i ≤ c' ∧ c' ≤ 9223372036854775807 ∧ Hid (Rd w .u8 A' (m - i) (fun j => b (i + j)))) (fun s => match s with | .slice _ n _ => n | _ => 0)
  case atStart => exact ⟨0, A, c, by omega, rfl, by omega, by omega, Lib.hid (hA0.out.congr (fun j _ => by rw [Nat.zero_add]))⟩
  case round =>
    obtain ⟨i, A', c', hik, rfl, hmc, hcc, hr⟩ := hrel
    by_cases hlt : i < k
    · obtain ⟨bb, off, rfl, hbl, hcell⟩ := hr.out (by omega)
      have hx' : w.cell? ⟨bb, off, none⟩ = some (.int .u8 0) := by
        have h := hcell 0 (by omega)
        simp only [Nat.add_zero] at h
        rw [HK.out.1 i hlt] at h
        exact h
      have hpos : 0 < m - i := by omega
      have HC := Lib.hid hcell
      clear hcell
      by_cases hc1 : c' = 1
      · subst hc1
        go_wp2_with fail
        go_round
        case rel => exact ⟨i + 1, some ⟨bb, off, none⟩, 0, by omega, by rw [show m - (i + 1) = 0 by omega], by omega, by omega, Lib.hid (fun h => absurd h (by omega))⟩
        case measure => omega
      · have hc2 : 1 < c' := by omega
        go_wp2_with fail
        go_round
        case rel => exact ⟨i + 1, some ⟨bb, off + 1, none⟩, c' - 1, by omega, by rw [Nat.sub_add_eq], by omega, by omega, Lib.hid (fun h => ⟨bb, off + 1, rfl, hbl, fun j hj => by
          have h2 := HC.out (1 + j) (by omega)
          rw [← Nat.add_assoc] at h2
          simp only [← Nat.add_assoc] at h2
          exact h2⟩)⟩
        case measure => show m - i - 1 < m - i; omega
    · obtain rfl : i = k := by omega
      obtain ⟨M, hM⟩ : ∃ M, m - i = M := ⟨_, rfl⟩
      rw [hM] at hr hmc
      rw [hM]
      have HR := Lib.hid (show fbR b m i = (if 16384 < M then 0 else be (fun j => b (i + j)) M) ∧ fbE m i = (if 16384 < M then 2 else 0) from by
        have h := be_skip HK.out.1 M
        rw [show i + M = m by omega] at h
        unfold fbR fbE
        rw [hM, h]
        exact ⟨rfl, rfl⟩)
      have lbk : Hid (∀ j, j < M → b (i + j) < 256) := Lib.hid fun j hj => HB.out _ (by omega)
      have hstop : M = 0 ∨ 0 < M ∧ b i ≠ 0 := by
        have := HK.out.2
        omega
      clear hM hA0 HB
      obtain ⟨bk, hbk⟩ : ∃ bk, b i = bk := ⟨_, rfl⟩
      have hcell0 : 0 < M → ∃ bb off, A' = some ⟨bb, off, none⟩ ∧ w.cell? ⟨bb, off, none⟩ = some (.int .u8 (bk : Int)) := fun h => by
        obtain ⟨bb, off, e, _, hcell⟩ := hr.out h
        have h2 := hcell 0 h
        simp only [Nat.add_zero, hbk] at h2
        exact ⟨bb, off, e, h2⟩
      rw [hbk] at hstop
      obtain ⟨b2, hb2⟩ : ∃ b2 : Nat → Nat, (fun j => b (i + j)) = b2 := ⟨_, rfl⟩
      have lb2 : Hid (∀ j, j < M → b2 j < 256) := Lib.hid fun j hj => by rw [← hb2]; exact lbk.out j hj
      have HB0 : Hid (b2 0 = bk) := Lib.hid (by rw [← hb2]; exact hbk)
      rw [hb2] at hr HR
      clear hb2 lbk HK hbk
      obtain ⟨L, hL⟩ : ∃ L, (M + 3) / 4 = L := ⟨_, rfl⟩
      have hL' : ((M : Int) + 4 - 1) / 4 = (L : Int) := by omega
      have hML : M ≤ 4 * L := by omega
      clear hL
      by_cases hlong : 16384 < M
      · have HS : Hid (fbR b m i = 0 ∧ fbE m i = 2) := Lib.hid (by rw [HR.out.1, HR.out.2, if_pos hlong, if_pos hlong]; exact ⟨rfl, rfl⟩)
        obtain ⟨bb, off, rfl, hx⟩ := hcell0 (by omega)
        have hq : ((bk : Int) == 0) = false := by simp; omega
        have HN := Lib.hid (num_nil w)
        clear hcell0 hstop hL'
        go_wp2_with fail
        go_ret2
        rw [HS.out.1, HS.out.2]
        exact ⟨_, _, _, _, rfl, HN.out, Below.refl _ _⟩
      · have HS : Hid (fbR b m i = be b2 M ∧ fbE m i = 0) := Lib.hid (by rw [HR.out.1, HR.out.2, if_neg hlong, if_neg hlong]; exact ⟨rfl, rfl⟩)
        clear HR
        have hM4 : M ≤ 16384 := by omega
        have hL4 : 4 * L ≤ M + 3 := by omega
        rcases hstop with h0 | ⟨h0, h1⟩
        · subst h0
          obtain rfl : L = 0 := by omega
          clear hcell0 hlong
          go_wp2_with (refine wpList_make_full _ rfl _ _ 22 rfl w.heap.size 45 i0 _ 1 Tryd.underlying22 hi hz0 hz1 .i64 .i64 _ _ 0 rfl rfl (by first | rfl | omega) (by first | rfl | omega) (by rw [hz2]; omega) (by unfold maxLen; omega) (by omega) ?_; intro w1 hown1 hg1)
          have hbw1 := Lib.hid ((Below.refl w.heap.size w).grown (row := none) hg1 (Nat.le_refl _) (fun k hk => by cases hk))
          clear hown1 hg1
          go_loopw [30] (fun s wr => s = .int .i64 0 ∧ wr = w1) (fun _ _ => 0)
          case atStart => exact ⟨rfl, rfl⟩
          case round =>
            obtain ⟨rfl, rfl⟩ := hrel
            go_wp2_with fail
            go_ret2
            rw [HS.out.1, HS.out.2]
            exact ⟨_, 0, 0, fun _ => 0, rfl, ⟨Nat.le_refl _, by simp [maxLen], Rd.none_, fun _ h => absurd h (by omega), .inl rfl, rfl⟩, hbw1.out⟩
        · obtain ⟨bb, off, rfl, hx⟩ := hcell0 h0
          have hq : ((bk : Int) == 0) = false := by simp; omega
          have HT := Lib.hid h1
          clear hcell0 hlong h1
          go_wp2_with (refine wpList_make_full _ rfl _ _ 22 rfl w.heap.size 45 i0 _ 1 Tryd.underlying22 hi hz0 hz1 .i64 .i64 _ _ L rfl rfl (by first | exact hL' | omega) (by first | exact hL' | omega) (by rw [hz2]; omega) (by unfold maxLen; omega) (by omega) ?_; intro w1 hown1 hg1)
          rw [made_vl] at hown1
          obtain ⟨cur, hbk, hint, _, _, _, hcs, _⟩ := own_wrote hown1
          have hbw1 : Below w.heap.size w w1 := (Below.refl _ _).grown (row := none) hg1 (Nat.le_refl _) (fun k hk => by cases hk)
          have hr1 := Lib.hid (hr.out.below hbw1)
          have hne : Hid (∀ b o, some (⟨bb, off, none⟩ : Addr) = some ⟨b, o, none⟩ → 0 < M → b ≠ w.heap.size) := Lib.hid fun b o e h0 => by have := hr.out.lt e h0; omega
          clear hown1 hcs hg1 hL' hx hq hr
          go_loopw [30] (fun s wr => ∃ j : Nat, j ≤ M ∧ s = .int .i64 j ∧ Hid (FbRel w1 wr w.heap.size 45 cur L M b2 j)) (fun s _ => M - (intOf s).toNat)
          case atStart => exact ⟨0, Nat.zero_le _, rfl, Lib.hid ⟨fun _ => 0, cur, Wrote.refl hbk 0 _, hint, fun _ _ => Nat.two_pow_pos 32, by rw [zero_sm]; simp [be], fun q r _ _ => ⟨Nat.zero_mod _, fun _ _ => rfl⟩⟩⟩
          case round =>
            obtain ⟨j, hj, rfl, hrel⟩ := hrel
            by_cases hjl : j < M
            · obtain ⟨f', cur', hw, hin, lf', hv, hlow⟩ := hrel.out
              obtain ⟨q, hq⟩ : ∃ q, (M - 1 - j) / 4 = q := ⟨_, rfl⟩
              obtain ⟨r, hr⟩ : ∃ r, (M - 1 - j) % 4 = r := ⟨_, rfl⟩
              have hp : M - 1 - j = 4 * q + r := by omega
              have hr4 : r < 4 := by omega
              have hqL : q < L := by omega
              have h5 := hlow q r (by omega) hr4
              have hx256 := lb2.out j hjl
              obtain ⟨bb', off', hbo, _, hcell⟩ := (hr1.out.wrote hw hne.out) (by omega)
              injection hbo with hbo
              injection hbo with e1 e2
              subst e1 e2
              have hx := hcell j hjl
              have hc1 := (Bk.cell hw.blk (0 + q)).trans (hin q hqL)
              have hf1 := Bk.frozen hw.blk (0 + q)
              have bo := lf' q hqL
              rw [Nat.zero_add] at hc1 hf1
              have HB := Lib.hid (byte_in hr4 hx256 bo h5.1)
              have HST := Lib.hid (fun z hz => FbRel.step hw hin lf' hv h5 hjl hp hr4 hqL hx256 z hz)
              obtain ⟨p, hpp⟩ : ∃ p, 4 * q + r = p := ⟨_, rfl⟩
              obtain ⟨t, htt⟩ : ∃ t, 8 * r = t := ⟨_, rfl⟩
              have t32 : t < 32 := by omega
              have e1 : (M : Int) - 1 - (j : Int) = (p : Int) := by omega
              have e2 : (p : Int) / 4 = (q : Int) := by omega
              have e3 : (p : Int) % 4 = (r : Int) := by omega
              have e4 : (8 : Int) * (r : Int) = (t : Int) := by omega
              have qb : (q : Int) < (L : Int) := by omega
              have pb : p ≤ 16384 := by omega
              rw [htt] at HB HST
              clear hcell hq hr hp hpp htt hw hin lf' hv hlow h5
              have xs : b2 j < 256 := hx256
              go_wp2_with fail
              have t1 : Int.tdiv (p : Int) 4 = (q : Int) := by rw [Int.tdiv_eq_ediv_of_nonneg (by omega)]; exact e2
              have t3 : Int.tmod (p : Int) 4 = (r : Int) := by rw [Int.tmod_eq_emod_of_nonneg (by omega)]; exact e3
              have t0 : 0 ≤ (q : Int) := by omega
              have t9 : 0 ≤ (t : Int) := by omega
              have t6 : IntKind.u32.wrap (b2 j : Int) = (b2 j : Int) := by rw [IntKind.wrap_u32]; omega
              have t7 : IntKind.i64.wrap (8 * (r : Int)) = (t : Int) := by rw [e4]; exact IntWalk.i64_in _ (by omega)
              have t2 : IntKind.i64.wrap (q : Int) = (q : Int) := IntWalk.i64_in _ (by omega)
              have t4 : IntKind.i64.wrap (r : Int) = (r : Int) := IntWalk.i64_in _ (by omega)
              have t5 : IntKind.i64.wrap (t : Int) = (t : Int) := IntWalk.i64_in _ (by omega)
              clear e1 e2 e3
              go_region_with (fail)
              clear t1 t2 t3 t4 t5 t6 t7 e4
              go_wp2
              go_roundw
              case rel => exact ⟨j + 1, by omega, by go_num, Lib.hid (HST.out _ HB.out.2.2)⟩
              case measure => simp [intOf]; omega
            · obtain rfl : j = M := by omega
              obtain ⟨f', cur', hw, hin, lf', hv, _⟩ := hrel.out
              rw [Nat.sub_self, Nat.pow_zero, Nat.mul_one] at hv
              have hbw2 := hbw1.grown hw.grown hbw1.size (fun k hk => by injection hk with hk; exact Nat.le_of_eq hk)
              have hT : Trm f' L := by
                right
                intro hz
                have h1 := be_ge (b := b2) (m := j) h0 (by rw [HB0.out]; exact HT.out)
                have h2 : sm (2 ^ 32) f' L = sm (2 ^ 32) f' (L - 1) := by
                  obtain ⟨t, rfl⟩ : ∃ t, L = t + 1 := ⟨L - 1, by omega⟩
                  rw [Nat.add_sub_cancel] at hz ⊢
                  simp [sm, hz]
                have h3 : sm (2 ^ 32) f' (L - 1) < (2 ^ 32) ^ (L - 1) := sm_lt (lf'.mono (by omega))
                have h4 : (2 ^ 32) ^ (L - 1) ≤ 256 ^ (j - 1) := by
                  rw [show (2 : Nat) ^ 32 = 256 ^ 4 from rfl, ← Nat.pow_mul]
                  exact Nat.pow_le_pow_right (by decide) (by omega)
                omega
              have HN : Hid (Num wr (some ⟨w.heap.size, 0, none⟩) L L f' (be b2 j)) := Lib.hid ⟨Nat.le_refl _, by unfold maxLen; omega, hin.rd hw.blk, lf', hT, hv⟩
              clear hw hin lf' hv hT
              go_wp2
              go_ret2
              rw [HS.out.1, HS.out.2]
              exact ⟨_, _, _, f', rfl, HN.out, hbw2⟩
end Go.Proofs.YtnikoojgoiobjaaDoor.nn
