/- The walk of the document's Times. -/
import Derived.Test.YtnikoojgoiobjaaDoorRefSum
import Derived.Test.YtnikoojgoiobjaaDoorShiftUp
namespace Go.Proofs.YtnikoojgoiobjaaDoor.nn
open Go.RowKit

theorem wrap_u64_in {x : Nat} (h : x ≤ 18446744073709551615) : IntKind.u64.wrap (x : Int) = (x : Int) := by
  simp [IntKind.wrap, IntKind.bits, IntKind.signed]
  omega

/-- a row within the product: c is carried to place i + k -/
def RowRel (w wr : World) (g : Nat) (e : TypeId) (cur : Array Value) (N : Nat) (f h : Nat → Nat) (m i k c : Nat) : Prop :=
  ∃ (f' : Nat → Nat) (cur' : Array Value), Wrote w wr g e cur cur' 0 N ∧ Ints cur' .u32 0 N f' ∧ Lt (2 ^ 32) f' N ∧ sm (2 ^ 32) f' N + c * (2 ^ 32) ^ (i + k) = sm (2 ^ 32) f i * sm (2 ^ 32) h m + f i * sm (2 ^ 32) (pad h m) k * (2 ^ 32) ^ i

theorem row_math {f h f' : Nat → Nat} {m i k c N t v c' y : Nat} (hv : sm (2 ^ 32) f' N + c * (2 ^ 32) ^ (i + k) = sm (2 ^ 32) f i * sm (2 ^ 32) h m + f i * sm (2 ^ 32) (pad h m) k * (2 ^ 32) ^ i) (hi : i + k < N) (hy : pad h m k = y) (ht : t = c + f' (i + k) + f i * y) (hq : t = v + c' * 2 ^ 32) :
    sm (2 ^ 32) (upd f' (i + k) v) N + c' * (2 ^ 32) ^ (i + (k + 1)) = sm (2 ^ 32) f i * sm (2 ^ 32) h m + f i * sm (2 ^ 32) (pad h m) (k + 1) * (2 ^ 32) ^ i := by
  have h1 := sm_upd (2 ^ 32) f' v hi
  have e1 : sm (2 ^ 32) (pad h m) (k + 1) = sm (2 ^ 32) (pad h m) k + y * (2 ^ 32) ^ k := by rw [← hy]; rfl
  rw [e1, Nat.mul_add, Nat.add_mul, ← Nat.add_assoc i k 1, pow_s (2 ^ 32) (i + k)]
  have h2 := congrArg (· * (2 ^ 32) ^ (i + k)) (ht.symm.trans hq)
  simp only [Nat.add_mul] at h2
  have e2 : c' * ((2 ^ 32) ^ (i + k) * 2 ^ 32) = c' * 2 ^ 32 * (2 ^ 32) ^ (i + k) := by ac_rfl
  have e3 : f i * (y * (2 ^ 32) ^ k) * (2 ^ 32) ^ i = f i * y * (2 ^ 32) ^ (i + k) := by rw [Nat.pow_add]; ac_rfl
  rw [e2, e3]
  omega

/-- a carry behind the row comes one place behind it at most -/
theorem row_bound {f h f' : Nat → Nat} {m n i k c N : Nat} (hv : sm (2 ^ 32) f' N + c * (2 ^ 32) ^ (i + k) = sm (2 ^ 32) f i * sm (2 ^ 32) h m + f i * sm (2 ^ 32) (pad h m) k * (2 ^ 32) ^ i) (lf : Lt (2 ^ 32) f n) (lh : Lt (2 ^ 32) h m) (hi : i < n) (hk : m ≤ k) (hc : 0 < c) : k ≤ m := by
  rw [pad_sm _ _ hk] at hv
  have e : sm (2 ^ 32) f (i + 1) = sm (2 ^ 32) f i + f i * (2 ^ 32) ^ i := rfl
  have e2 : sm (2 ^ 32) f (i + 1) * sm (2 ^ 32) h m = sm (2 ^ 32) f i * sm (2 ^ 32) h m + f i * sm (2 ^ 32) h m * (2 ^ 32) ^ i := by rw [e, Nat.add_mul]; congr 1; ac_rfl
  rw [← e2] at hv
  have h1 := sm_lt (lf.mono (by omega : i + 1 ≤ n))
  have h2 := sm_lt lh
  have hp := Nat.pow_pos (n := m) (Nat.two_pow_pos 32)
  have h3 : sm (2 ^ 32) f (i + 1) * sm (2 ^ 32) h m < (2 ^ 32) ^ (i + 1 + m) := by rw [Nat.pow_add]; exact Nat.mul_lt_mul'' h1 h2
  have h4 : (2 ^ 32) ^ (i + k) ≤ c * (2 ^ 32) ^ (i + k) := Nat.le_mul_of_pos_left _ hc
  have h5 : (2 ^ 32) ^ (i + k) < (2 ^ 32) ^ (i + 1 + m) := by omega
  have h6 := (Nat.pow_lt_pow_iff_right (a := 2 ^ 32) (by decide)).1 h5
  omega

theorem row_step {w wr : World} {g : Nat} {e : TypeId} {cur cur' : Array Value} {N : Nat} {f h f' : Nat → Nat} {m i k c t y : Nat} {zz : Int} (hw : Wrote w wr g e cur cur' 0 N) (hin : Ints cur' .u32 0 N f') (lf' : Lt (2 ^ 32) f' N)
    (hv : sm (2 ^ 32) f' N + c * (2 ^ 32) ^ (i + k) = sm (2 ^ 32) f i * sm (2 ^ 32) h m + f i * sm (2 ^ 32) (pad h m) k * (2 ^ 32) ^ i) (hi : i + k < N) (hy : pad h m k = y) (ht : c + f' (i + k) + f i * y = t) (hz : zz = ((t % 4294967296 : Nat) : Int)) :
    RowRel w (wr.setCell ⟨g, i + k, none⟩ (.int .u32 zz)) g e cur N f h m i (k + 1) (t / 4294967296) := by
  subst hz
  have h1 := hw.set_ (i + k) hi (.int .u32 ((t % 4294967296 : Nat) : Int))
  have h2 := hin.set_ (i + k) (t % 4294967296) hi
  simp only [Nat.zero_add] at h1 h2
  exact ⟨_, _, h1, h2, lf'.upd (Nat.mod_lt _ (by decide)), row_math hv hi hy ht.symm (by omega)⟩

theorem RowRel.end_ {w wr : World} {g : Nat} {e : TypeId} {cur : Array Value} {N : Nat} {f h : Nat → Nat} {m i k : Nat} (H : RowRel w wr g e cur N f h m i k 0) (hk : m ≤ k) : RowRel w wr g e cur N f h m (i + 1) 0 0 := by
  obtain ⟨f', cur', h1, h2, h3, h4⟩ := H
  refine ⟨f', cur', h1, h2, h3, ?_⟩
  rw [pad_sm _ _ hk] at h4
  have e : sm (2 ^ 32) f (i + 1) = sm (2 ^ 32) f i + f i * (2 ^ 32) ^ i := rfl
  have e2 : sm (2 ^ 32) f (i + 1) * sm (2 ^ 32) h m = sm (2 ^ 32) f i * sm (2 ^ 32) h m + f i * sm (2 ^ 32) h m * (2 ^ 32) ^ i := by rw [e, Nat.add_mul]; congr 1; ac_rfl
  rw [e2]
  simp only [sm, Nat.zero_mul, Nat.mul_zero, Nat.add_zero] at h4 ⊢
  exact h4

set_option maxRecDepth 100000 in
set_option maxHeartbeats 2000000 in
theorem times_any (A B : Option Addr) (n m cA dB : Nat) (f h : Nat → Nat) (w : World) (hA : Rd w .u32 A n f) (hB : Rd w .u32 B m h) (lf : Lt (2 ^ 32) f n) (lh : Lt (2 ^ 32) h m) (hn : n ≤ 100000) (hm : m ≤ 100000) :
    Calls Tryd.prog 24 #[.slice A n cA, .slice B m dB] w fun e w' => One w w' e (sm (2 ^ 32) f n * sm (2 ^ 32) h m) (n + m + 1) := by
  obtain ⟨i0, hi, hz0, hz1, hz2⟩ := info_parts info_u32
  have LF := Lib.hid lf
  have LH := Lib.hid lh
  have LHP := Lib.hid (fun N => pad_lt (Nat.two_pow_pos 32) lh N)
  clear lf lh
  go_enter Tryd.func24, Tryd.ntmps24
  go_wp2_with (refine wpList_make_full _ rfl _ _ 22 rfl w.heap.size 45 i0 _ 1 Tryd.underlying22 hi hz0 hz1 .i64 .i64 _ _ (n + m + 1) rfl rfl ?c1 ?c2 ?c3 ?c4 ?c5 ?_; rotate_left 5; intro w1 hown1 hg1)
  case c1 => omega
  case c2 => omega
  case c3 => rw [hz2]; omega
  case c4 => unfold maxLen; omega
  case c5 => omega
  rw [made_vl] at hown1
  obtain ⟨cur, hbk, hint, _, _, _, hcs, hfin⟩ := own_wrote hown1
  have HFIN := Lib.hid hfin
  have hbw1 : Below w.heap.size w w1 := (Below.refl _ _).grown (row := none) hg1 (Nat.le_refl _) (fun k hk => by cases hk)
  have hneA : Hid (∀ b o, A = some ⟨b, o, none⟩ → 0 < n → b ≠ w.heap.size) := Lib.hid fun b o e h0 => by have := hA.lt e h0; omega
  have hneB : Hid (∀ b o, B = some ⟨b, o, none⟩ → 0 < m → b ≠ w.heap.size) := Lib.hid fun b o e h0 => by have := hB.lt e h0; omega
  have hA1 := Lib.hid (hA.below hbw1)
  have hB1 := Lib.hid (hB.below hbw1)
  clear hown1 hcs hg1 hA hB hfin
  go_loopw [6] (fun s6 wr => ∃ i : Nat, i ≤ n ∧ s6 = .int .i64 i ∧ RowRel w1 wr w.heap.size 45 cur (n + m + 1) f h m i 0 0) (fun s6 _ => n - (intOf s6).toNat)
  case atStart => exact ⟨0, Nat.zero_le _, rfl, fun _ => 0, cur, Wrote.refl hbk 0 _, hint, fun _ _ => Nat.two_pow_pos 32, by rw [zero_sm]; simp [sm]⟩
  case round =>
    obtain ⟨i, hi', rfl, hrel0⟩ := hrel
    by_cases hlt : i < n
    · obtain ⟨x, hx⟩ : ∃ x, f i = x := ⟨_, rfl⟩
      have hxl : x < 4294967296 := by rw [← hx]; exact LF.out i hlt
      have HX := Lib.hid hx
      clear hx
      go_wp2
      go_loopw [7, 8] (fun s7 s8 wr => ∃ k c : Nat, k ≤ m + 1 ∧ c < 4294967296 ∧ s7 = .int .u64 c ∧ s8 = .int .i64 k ∧ RowRel w1 wr w.heap.size 45 cur (n + m + 1) f h m i k c) (fun _ s8 _ => m + 2 - (intOf s8).toNat)
      case atStart => exact ⟨0, 0, Nat.zero_le _, by omega, rfl, rfl, hrel0⟩
      case round =>
        clear hrel0
        obtain ⟨k, c, hk, hc, rfl, rfl, f', cur', hw, hin, lf', hv⟩ := hrel
        by_cases hgo : k < m ∨ 0 < c
        · have hkm : k ≤ m := by
            rcases Nat.lt_or_ge k m with h1 | h1
            · omega
            · exact row_bound hv LF.out LH.out hlt h1 (by omega)
          have hc1 := (Bk.cell hw.blk (0 + (i + k))).trans (hin (i + k) (by omega))
          have hf1 := Bk.frozen hw.blk (0 + (i + k))
          rw [Nat.zero_add] at hc1 hf1
          obtain ⟨y, hy⟩ : ∃ y, pad h m k = y := ⟨_, rfl⟩
          have hyl : y < 4294967296 := by rw [← hy]; exact LHP.out (k + 1) k (by omega)
          have hzl : f' (i + k) < 4294967296 := lf' (i + k) (by omega)
          obtain ⟨z, hz⟩ : ∃ z, f' (i + k) = z := ⟨_, rfl⟩
          rw [hz] at hc1 hzl
          have hxy : x * y ≤ 4294967295 * 4294967295 := Nat.mul_le_mul (by omega) (by omega)
          obtain ⟨p, hp⟩ : ∃ p, x * y = p := ⟨_, rfl⟩
          rw [hp] at hxy
          have HAT1 : Hid (∀ j, Calls Tryd.prog 46 #[.slice A n cA, .int .i64 i] (World.drewN _ j) fun e w' => e = .returned (.int .u64 (x : Nat)) ∧ w' = World.drewN _ j) := Lib.hid fun j => by
            have := at_any A n cA i f _ ((hA1.out.wrote hw hneA.out).drewN j) LF.out (by unfold maxLen; omega) (by unfold maxLen; omega)
            have e : pad f n i = x := by rw [← HX.out]; simp [pad, hlt]
            rw [e] at this
            exact this.mono fun _ _ ⟨a, b⟩ => ⟨a, b.symm⟩
          have HAT2 : Hid (∀ j, Calls Tryd.prog 46 #[.slice B m dB, .int .i64 k] (World.drewN _ j) fun e w' => e = .returned (.int .u64 (y : Nat)) ∧ w' = World.drewN _ j) := Lib.hid fun j => by
            have := at_any B m dB k h _ ((hB1.out.wrote hw hneB.out).drewN j) LH.out (by unfold maxLen; omega) (by unfold maxLen; omega)
            rw [hy] at this
            exact this.mono fun _ _ ⟨a, b⟩ => ⟨a, b.symm⟩
          have HV := Lib.hid hv
          have HY := Lib.hid hy
          have HZ := Lib.hid hz
          have HPP := Lib.hid hp
          have LFF := Lib.hid lf'
          have HW := Lib.hid hw
          have HIN := Lib.hid hin
          obtain ⟨t, ht⟩ : ∃ t, c + z + p = t := ⟨_, rfl⟩
          have htl : t ≤ 18446744073709551615 := by omega
          have HTT := Lib.hid ht
          have u1 : IntKind.u64.wrap (z : Int) = (z : Int) := wrap_u64_in (by omega)
          have u2 : IntKind.u64.wrap ((c : Int) + (z : Int)) = (c : Int) + (z : Int) := by
            have := wrap_u64_in (x := c + z) (by omega)
            rwa [Int.natCast_add] at this
          have u3 : IntKind.u64.wrap ((x : Int) * (y : Int)) = (p : Int) := by
            have e : (x : Int) * (y : Int) = (p : Int) := by rw [← hp, Int.natCast_mul]
            rw [e]
            exact wrap_u64_in (by omega)
          have u4 : IntKind.u64.wrap ((c : Int) + (z : Int) + (p : Int)) = (t : Int) := by
            have := wrap_u64_in (x := c + z + p) (by omega)
            rw [ht] at this
            rw [← this]
            congr 1
            omega
          have k1 : IntKind.i64.wrap ((i : Int) + (k : Int)) = (i : Int) + (k : Int) := IntWalk.i64_in _ (by omega)
          have k2 : 0 ≤ (i : Int) + (k : Int) := by omega
          have k3 : ((i : Int) + (k : Int)).toNat = i + k := by omega
          have k4 : (i : Int) + (k : Int) < ((n + m + 1 : Nat) : Int) := by omega
          have hgo' : Hid (k < m ∨ 0 < c) := Lib.hid hgo
          clear hv hy hz hp lf' hw hin ht hgo
          by_cases h1 : k < m
          · go_wp2_with fail
            go_quiet ((first | (go_at_call_of 46 (Value.slice A n cA); exact Calls.quiet_of_same (HAT1.out _)) | (go_at_call_of 46 (Value.slice B m dB); exact Calls.quiet_of_same (HAT2.out _))))
            clear u1 u2 u3 u4 k1 k3
            go_wp2
            go_roundw
            case rel => exact ⟨k + 1, t / 4294967296, by omega, by omega, congrArg (Value.int .u64) (by omega), by go_num, row_step (HW.out.drewN _) HIN.out LFF.out HV.out (by omega) HY.out (by rw [HZ.out, HX.out, HPP.out, HTT.out]) (by omega)⟩
            case measure => simp [intOf]; omega
          · have h2 : 0 < c := by have := hgo'.out; omega
            have h3 : m ≤ k := by omega
            clear h1
            go_wp2_with fail
            go_quiet ((first | (go_at_call_of 46 (Value.slice A n cA); exact Calls.quiet_of_same (HAT1.out _)) | (go_at_call_of 46 (Value.slice B m dB); exact Calls.quiet_of_same (HAT2.out _))))
            clear u1 u2 u3 u4 k1 k3
            go_wp2
            go_roundw
            case rel => exact ⟨k + 1, t / 4294967296, by omega, by omega, congrArg (Value.int .u64) (by omega), by go_num, row_step (HW.out.drewN _) HIN.out LFF.out HV.out (by omega) HY.out (by rw [HZ.out, HX.out, HPP.out, HTT.out]) (by omega)⟩
            case measure => simp [intOf]; omega
        · have hc0 : c = 0 := by omega
          subst hc0
          have hmk : m ≤ k := by omega
          have HEND := Lib.hid (RowRel.end_ ⟨f', cur', hw, hin, lf', hv⟩ hmk)
          clear hgo hw hin lf' hv
          go_wp2
          go_roundw
          case rel => exact ⟨i + 1, by omega, by go_num, HEND.out⟩
          case measure => simp [intOf]; omega
    · obtain rfl : i = n := by omega
      obtain ⟨f', cur', hw, hin, lf', hv⟩ := hrel0
      have ho := HFIN.out _ cur' f' hw hin
      have hbw2 := hbw1.grown hw.grown hbw1.size (fun k hk => by injection hk with hk; exact Nat.le_of_eq hk)
      obtain ⟨A2, c2, e2, hc2, hm2, hr2⟩ := Rd.of_own ho
      injection e2 with e2 _ e3
      subst e2
      subst e3
      simp only [sm, Nat.zero_mul, Nat.mul_zero, Nat.add_zero] at hv
      have HV := Lib.hid hv
      have HRT := Lib.hid (rtrim_any (some ⟨w.heap.size, 0, none⟩) (i + m + 1) (i + m + 1) f' _ hr2 (Nat.le_refl _) (by omega))
      clear hv ho
      go_wp2_with (go_at_call 26; refine HRT.out.mono ?_; rintro e w3 ⟨v3, rfl, hown3, hb3⟩)
      go_ret
      exact One.mk_ hown3 lf' HV.out (Nat.le_refl _) hbw2 hb3
end Go.Proofs.YtnikoojgoiobjaaDoor.nn
