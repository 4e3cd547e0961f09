/- Joined texts, what is wanted of them: RefTimes, RefTwice, RefFromDigits, RdA, RdB, RdC, RdD, RdE, RdF. -/
import Derived.Deep.RegionHeld3
import Derived.Test.YtljbnnpmnoejeaaGreatDoorJa
import Derived.Test.YtljbnnpmnoejeaaGreatDoorJb
import Derived.Test.YtljbnnpmnoejeaaGreatDoorJc
import Derived.Test.YtljbnnpmnoejeaaGreatDoorJd
namespace Go.Proofs.YtljbnnpmnoejeaaGreatDoor.nn
open Go.RowKit

theorem wrap_u64_in {x : Nat} (h : x ≤ 18446744073709551615) : IntKind.u64.wrap (x : Int) = (x : Int) := by
  simp [IntKind.wrap, IntKind.bits, IntKind.signed]
  omega

/-- a row within the product: c is carried to place i + k -/
def RowRel (w wr : World) (g : Nat) (e : TypeId) (cur : Array Value) (N : Nat) (f h : Nat → Nat) (m i k c : Nat) : Prop :=
  ∃ (f' : Nat → Nat) (cur' : Array Value), Wrote w wr g e cur cur' 0 N ∧ Ints cur' .u32 0 N f' ∧ Lt (2 ^ 32) f' N ∧ sm (2 ^ 32) f' N + c * (2 ^ 32) ^ (i + k) = sm (2 ^ 32) f i * sm (2 ^ 32) h m + f i * sm (2 ^ 32) (pad h m) k * (2 ^ 32) ^ i

theorem row_math {f h f' : Nat → Nat} {m i k c N t v c' y : Nat} (hv : sm (2 ^ 32) f' N + c * (2 ^ 32) ^ (i + k) = sm (2 ^ 32) f i * sm (2 ^ 32) h m + f i * sm (2 ^ 32) (pad h m) k * (2 ^ 32) ^ i) (hi : i + k < N) (hy : pad h m k = y) (ht : t = c + f' (i + k) + f i * y) (hq : t = v + c' * 2 ^ 32) :
    sm (2 ^ 32) (upd f' (i + k) v) N + c' * (2 ^ 32) ^ (i + (k + 1)) = sm (2 ^ 32) f i * sm (2 ^ 32) h m + f i * sm (2 ^ 32) (pad h m) (k + 1) * (2 ^ 32) ^ i := by
  have h1 := sm_upd (2 ^ 32) f' v hi
  have e1 : sm (2 ^ 32) (pad h m) (k + 1) = sm (2 ^ 32) (pad h m) k + y * (2 ^ 32) ^ k := by rw [← hy]; rfl
  rw [e1, Nat.mul_add, Nat.add_mul, ← Nat.add_assoc i k 1, pow_s (2 ^ 32) (i + k)]
  have h2 := congrArg (· * (2 ^ 32) ^ (i + k)) (ht.symm.trans hq)
  simp only [Nat.add_mul] at h2
  have e2 : c' * ((2 ^ 32) ^ (i + k) * 2 ^ 32) = c' * 2 ^ 32 * (2 ^ 32) ^ (i + k) := by ac_rfl
  have e3 : f i * (y * (2 ^ 32) ^ k) * (2 ^ 32) ^ i = f i * y * (2 ^ 32) ^ (i + k) := by rw [Nat.pow_add]; ac_rfl
  rw [e2, e3]
  omega

/-- a carry behind the row comes one place behind it at most -/
theorem row_bound {f h f' : Nat → Nat} {m n i k c N : Nat} (hv : sm (2 ^ 32) f' N + c * (2 ^ 32) ^ (i + k) = sm (2 ^ 32) f i * sm (2 ^ 32) h m + f i * sm (2 ^ 32) (pad h m) k * (2 ^ 32) ^ i) (lf : Lt (2 ^ 32) f n) (lh : Lt (2 ^ 32) h m) (hi : i < n) (hk : m ≤ k) (hc : 0 < c) : k ≤ m := by
  rw [pad_sm _ _ hk] at hv
  have e : sm (2 ^ 32) f (i + 1) = sm (2 ^ 32) f i + f i * (2 ^ 32) ^ i := rfl
  have e2 : sm (2 ^ 32) f (i + 1) * sm (2 ^ 32) h m = sm (2 ^ 32) f i * sm (2 ^ 32) h m + f i * sm (2 ^ 32) h m * (2 ^ 32) ^ i := by rw [e, Nat.add_mul]; congr 1; ac_rfl
  rw [← e2] at hv
  have h1 := sm_lt (lf.mono (by omega : i + 1 ≤ n))
  have h2 := sm_lt lh
  have hp := Nat.pow_pos (n := m) (Nat.two_pow_pos 32)
  have h3 : sm (2 ^ 32) f (i + 1) * sm (2 ^ 32) h m < (2 ^ 32) ^ (i + 1 + m) := by rw [Nat.pow_add]; exact Nat.mul_lt_mul'' h1 h2
  have h4 : (2 ^ 32) ^ (i + k) ≤ c * (2 ^ 32) ^ (i + k) := Nat.le_mul_of_pos_left _ hc
  have h5 : (2 ^ 32) ^ (i + k) < (2 ^ 32) ^ (i + 1 + m) := by omega
  have h6 := (Nat.pow_lt_pow_iff_right (a := 2 ^ 32) (by decide)).1 h5
  omega

theorem row_step {w wr : World} {g : Nat} {e : TypeId} {cur cur' : Array Value} {N : Nat} {f h f' : Nat → Nat} {m i k c t y : Nat} {zz : Int} (hw : Wrote w wr g e cur cur' 0 N) (hin : Ints cur' .u32 0 N f') (lf' : Lt (2 ^ 32) f' N)
    (hv : sm (2 ^ 32) f' N + c * (2 ^ 32) ^ (i + k) = sm (2 ^ 32) f i * sm (2 ^ 32) h m + f i * sm (2 ^ 32) (pad h m) k * (2 ^ 32) ^ i) (hi : i + k < N) (hy : pad h m k = y) (ht : c + f' (i + k) + f i * y = t) (hz : zz = ((t % 4294967296 : Nat) : Int)) :
    RowRel w (wr.setCell ⟨g, i + k, none⟩ (.int .u32 zz)) g e cur N f h m i (k + 1) (t / 4294967296) := by
  subst hz
  have h1 := hw.set_ (i + k) hi (.int .u32 ((t % 4294967296 : Nat) : Int))
  have h2 := hin.set_ (i + k) (t % 4294967296) hi
  simp only [Nat.zero_add] at h1 h2
  exact ⟨_, _, h1, h2, lf'.upd (Nat.mod_lt _ (by decide)), row_math hv hi hy ht.symm (by omega)⟩

theorem RowRel.end_ {w wr : World} {g : Nat} {e : TypeId} {cur : Array Value} {N : Nat} {f h : Nat → Nat} {m i k : Nat} (H : RowRel w wr g e cur N f h m i k 0) (hk : m ≤ k) : RowRel w wr g e cur N f h m (i + 1) 0 0 := by
  obtain ⟨f', cur', h1, h2, h3, h4⟩ := H
  refine ⟨f', cur', h1, h2, h3, ?_⟩
  rw [pad_sm _ _ hk] at h4
  have e : sm (2 ^ 32) f (i + 1) = sm (2 ^ 32) f i + f i * (2 ^ 32) ^ i := rfl
  have e2 : sm (2 ^ 32) f (i + 1) * sm (2 ^ 32) h m = sm (2 ^ 32) f i * sm (2 ^ 32) h m + f i * sm (2 ^ 32) h m * (2 ^ 32) ^ i := by rw [e, Nat.add_mul]; congr 1; ac_rfl
  rw [e2]
  simp only [sm, Nat.zero_mul, Nat.mul_zero, Nat.add_zero] at h4 ⊢
  exact h4

set_option maxRecDepth 100000 in
set_option maxHeartbeats 2000000 in
theorem times_any (A B : Option Addr) (n m cA dB : Nat) (f h : Nat → Nat) (w : World) (hA : Rd w .u32 A n f) (hB : Rd w .u32 B m h) (lf : Lt (2 ^ 32) f n) (lh : Lt (2 ^ 32) h m) (hn : n ≤ 100000) (hm : m ≤ 100000) :
    Calls Tryz.prog 42 #[.slice A n cA, .slice B m dB] w fun e w' => One w w' e (sm (2 ^ 32) f n * sm (2 ^ 32) h m) (n + m + 1) := by
  obtain ⟨i0, hi, hz0, hz1, hz2⟩ := info_parts info_u32
  have LF := Lib.hid lf
  have LH := Lib.hid lh
  have LHP := Lib.hid (fun N => pad_lt (Nat.two_pow_pos 32) lh N)
  clear lf lh
  go_enter Tryz.func42, Tryz.ntmps42
  go_wp2_with (refine wpList_make_full _ rfl _ _ 48 rfl w.heap.size 72 i0 _ 1 Tryz.underlying48 hi hz0 hz1 .i64 .i64 _ _ (n + m + 1) rfl rfl ?c1 ?c2 ?c3 ?c4 ?c5 ?_; rotate_left 5; intro w1 hown1 hg1)
  case c1 => omega
  case c2 => omega
  case c3 => rw [hz2]; omega
  case c4 => unfold maxLen; omega
  case c5 => omega
  rw [made_vl] at hown1
  obtain ⟨cur, hbk, hint, _, _, _, hcs, hfin⟩ := own_wrote hown1
  have HFIN := Lib.hid hfin
  have hbw1 : Below w.heap.size w w1 := (Below.refl _ _).grown (row := none) hg1 (Nat.le_refl _) (fun k hk => by cases hk)
  have hneA : Hid (∀ b o, A = some ⟨b, o, none⟩ → 0 < n → b ≠ w.heap.size) := Lib.hid fun b o e h0 => by have := hA.lt e h0; omega
  have hneB : Hid (∀ b o, B = some ⟨b, o, none⟩ → 0 < m → b ≠ w.heap.size) := Lib.hid fun b o e h0 => by have := hB.lt e h0; omega
  have hA1 := Lib.hid (hA.below hbw1)
  have hB1 := Lib.hid (hB.below hbw1)
  clear hown1 hcs hg1 hA hB hfin
  go_loopw [6] (fun s6 wr => ∃ i : Nat, i ≤ n ∧ s6 = .int .i64 i ∧ RowRel w1 wr w.heap.size 72 cur (n + m + 1) f h m i 0 0) (fun s6 _ => n - (intOf s6).toNat)
  case atStart => exact ⟨0, Nat.zero_le _, rfl, fun _ => 0, cur, Wrote.refl hbk 0 _, hint, fun _ _ => Nat.two_pow_pos 32, by rw [zero_sm]; simp [sm]⟩
  case round =>
    obtain ⟨i, hi', rfl, hrel0⟩ := hrel
    by_cases hlt : i < n
    · obtain ⟨x, hx⟩ : ∃ x, f i = x := ⟨_, rfl⟩
      have hxl : x < 4294967296 := by rw [← hx]; exact LF.out i hlt
      have HX := Lib.hid hx
      clear hx
      go_wp2
      go_loopw [7, 8] (fun s7 s8 wr => ∃ k c : Nat, k ≤ m + 1 ∧ c < 4294967296 ∧ s7 = .int .u64 c ∧ s8 = .int .i64 k ∧ RowRel w1 wr w.heap.size 72 cur (n + m + 1) f h m i k c) (fun _ s8 _ => m + 2 - (intOf s8).toNat)
      case atStart => exact ⟨0, 0, Nat.zero_le _, by omega, rfl, rfl, hrel0⟩
      case round =>
        clear hrel0
        obtain ⟨k, c, hk, hc, rfl, rfl, f', cur', hw, hin, lf', hv⟩ := hrel
        by_cases hgo : k < m ∨ 0 < c
        · have hkm : k ≤ m := by
            rcases Nat.lt_or_ge k m with h1 | h1
            · omega
            · exact row_bound hv LF.out LH.out hlt h1 (by omega)
          have hc1 := (Bk.cell hw.blk (0 + (i + k))).trans (hin (i + k) (by omega))
          have hf1 := Bk.frozen hw.blk (0 + (i + k))
          rw [Nat.zero_add] at hc1 hf1
          obtain ⟨y, hy⟩ : ∃ y, pad h m k = y := ⟨_, rfl⟩
          have hyl : y < 4294967296 := by rw [← hy]; exact LHP.out (k + 1) k (by omega)
          have hzl : f' (i + k) < 4294967296 := lf' (i + k) (by omega)
          obtain ⟨z, hz⟩ : ∃ z, f' (i + k) = z := ⟨_, rfl⟩
          rw [hz] at hc1 hzl
          have hxy : x * y ≤ 4294967295 * 4294967295 := Nat.mul_le_mul (by omega) (by omega)
          obtain ⟨p, hp⟩ : ∃ p, x * y = p := ⟨_, rfl⟩
          rw [hp] at hxy
          have HAT1 : Hid (∀ j, Calls Tryz.prog 78 #[.slice A n cA, .int .i64 i] (World.drewN _ j) fun e w' => e = .returned (.int .u64 (x : Nat)) ∧ w' = World.drewN _ j) := Lib.hid fun j => by
            have := at_any A n cA i f _ ((hA1.out.wrote hw hneA.out).drewN j) LF.out (by unfold maxLen; omega) (by unfold maxLen; omega)
            have e : pad f n i = x := by rw [← HX.out]; simp [pad, hlt]
            rw [e] at this
            exact this.mono fun _ _ ⟨a, b⟩ => ⟨a, b.symm⟩
          have HAT2 : Hid (∀ j, Calls Tryz.prog 78 #[.slice B m dB, .int .i64 k] (World.drewN _ j) fun e w' => e = .returned (.int .u64 (y : Nat)) ∧ w' = World.drewN _ j) := Lib.hid fun j => by
            have := at_any B m dB k h _ ((hB1.out.wrote hw hneB.out).drewN j) LH.out (by unfold maxLen; omega) (by unfold maxLen; omega)
            rw [hy] at this
            exact this.mono fun _ _ ⟨a, b⟩ => ⟨a, b.symm⟩
          have HV := Lib.hid hv
          have HY := Lib.hid hy
          have HZ := Lib.hid hz
          have HPP := Lib.hid hp
          have LFF := Lib.hid lf'
          have HW := Lib.hid hw
          have HIN := Lib.hid hin
          obtain ⟨t, ht⟩ : ∃ t, c + z + p = t := ⟨_, rfl⟩
          have htl : t ≤ 18446744073709551615 := by omega
          have HTT := Lib.hid ht
          have u1 : IntKind.u64.wrap (z : Int) = (z : Int) := wrap_u64_in (by omega)
          have u2 : IntKind.u64.wrap ((c : Int) + (z : Int)) = (c : Int) + (z : Int) := by
            have := wrap_u64_in (x := c + z) (by omega)
            rwa [Int.natCast_add] at this
          have u3 : IntKind.u64.wrap ((x : Int) * (y : Int)) = (p : Int) := by
            have e : (x : Int) * (y : Int) = (p : Int) := by rw [← hp, Int.natCast_mul]
            rw [e]
            exact wrap_u64_in (by omega)
          have u4 : IntKind.u64.wrap ((c : Int) + (z : Int) + (p : Int)) = (t : Int) := by
            have := wrap_u64_in (x := c + z + p) (by omega)
            rw [ht] at this
            rw [← this]
            congr 1
            omega
          have k1 : IntKind.i64.wrap ((i : Int) + (k : Int)) = (i : Int) + (k : Int) := IntWalk.i64_in _ (by omega)
          have k2 : 0 ≤ (i : Int) + (k : Int) := by omega
          have k3 : ((i : Int) + (k : Int)).toNat = i + k := by omega
          have k4 : (i : Int) + (k : Int) < ((n + m + 1 : Nat) : Int) := by omega
          have hgo' : Hid (k < m ∨ 0 < c) := Lib.hid hgo
          clear hv hy hz hp lf' hw hin ht hgo
          by_cases h1 : k < m
          · go_wp2_with fail
            go_quiet ((first | (go_at_call_of 78 (Value.slice A n cA); exact Calls.quiet_of_same (HAT1.out _)) | (go_at_call_of 78 (Value.slice B m dB); exact Calls.quiet_of_same (HAT2.out _))))
            clear u1 u2 u3 u4 k1 k3
            go_wp2
            go_roundw
            case rel => exact ⟨k + 1, t / 4294967296, by omega, by omega, congrArg (Value.int .u64) (by omega), by go_num, row_step (HW.out.drewN _) HIN.out LFF.out HV.out (by omega) HY.out (by rw [HZ.out, HX.out, HPP.out, HTT.out]) (by omega)⟩
            case measure => simp [intOf]; omega
          · have h2 : 0 < c := by have := hgo'.out; omega
            have h3 : m ≤ k := by omega
            clear h1
            go_wp2_with fail
            go_quiet ((first | (go_at_call_of 78 (Value.slice A n cA); exact Calls.quiet_of_same (HAT1.out _)) | (go_at_call_of 78 (Value.slice B m dB); exact Calls.quiet_of_same (HAT2.out _))))
            clear u1 u2 u3 u4 k1 k3
            go_wp2
            go_roundw
            case rel => exact ⟨k + 1, t / 4294967296, by omega, by omega, congrArg (Value.int .u64) (by omega), by go_num, row_step (HW.out.drewN _) HIN.out LFF.out HV.out (by omega) HY.out (by rw [HZ.out, HX.out, HPP.out, HTT.out]) (by omega)⟩
            case measure => simp [intOf]; omega
        · have hc0 : c = 0 := by omega
          subst hc0
          have hmk : m ≤ k := by omega
          have HEND := Lib.hid (RowRel.end_ ⟨f', cur', hw, hin, lf', hv⟩ hmk)
          clear hgo hw hin lf' hv
          go_wp2
          go_roundw
          case rel => exact ⟨i + 1, by omega, by go_num, HEND.out⟩
          case measure => simp [intOf]; omega
    · obtain rfl : i = n := by omega
      obtain ⟨f', cur', hw, hin, lf', hv⟩ := hrel0
      have ho := HFIN.out _ cur' f' hw hin
      have hbw2 := hbw1.grown hw.grown hbw1.size (fun k hk => by injection hk with hk; exact Nat.le_of_eq hk)
      obtain ⟨A2, c2, e2, hc2, hm2, hr2⟩ := Rd.of_own ho
      injection e2 with e2 _ e3
      subst e2
      subst e3
      simp only [sm, Nat.zero_mul, Nat.mul_zero, Nat.add_zero] at hv
      have HV := Lib.hid hv
      have HRT := Lib.hid (rtrim_any (some ⟨w.heap.size, 0, none⟩) (i + m + 1) (i + m + 1) f' _ hr2 (Nat.le_refl _) (by omega))
      clear hv ho
      go_wp2_with (go_at_call 79; refine HRT.out.mono ?_; rintro e w3 ⟨v3, rfl, hown3, hb3⟩)
      go_ret
      exact One.mk_ hown3 lf' HV.out (Nat.le_refl _) hbw2 hb3
end Go.Proofs.YtljbnnpmnoejeaaGreatDoor.nn
namespace Go.Proofs.YtljbnnpmnoejeaaGreatDoor.nn
open Go.RowKit

/-- what holds at the head of twice's loop -/
def TwRel (base : Nat) (w0 wr : World) (s : Value) (i b b0 : Nat) (f : Nat → Nat) : Prop :=
  ∃ f' : Nat → Nat, wr.ownsRow base 72 1 s i (vl .u32 f' i) ∧ Below base w0 wr ∧ base ≤ wr.heap.size ∧ Lt (2 ^ 32) f' i ∧ sm (2 ^ 32) f' i + b * (2 ^ 32) ^ i = 2 * sm (2 ^ 32) f i + b0

theorem TwRel.step {base : Nat} {w0 wr w1 : World} {v : Value} {i b b0 : Nat} {f f' : Nat → Nat} (o : Obj) (hb : b ≤ 1) (h2 : Below base w0 wr) (h3 : base ≤ wr.heap.size) (h4 : Lt (2 ^ 32) f' i)
    (h6 : sm (2 ^ 32) f' i + b * (2 ^ 32) ^ i = 2 * sm (2 ^ 32) f i + b0)
    (ho : w1.ownsRow base 72 1 v (i + 1) (vl .u32 (jn f' i (fun _ => f i * 2 % 4294967296 + b)) (i + 1))) (hb1 : Below base (wr.alloc o) w1) : TwRel base w0 w1 v (i + 1) (f i / 2147483648) b0 f := by
  have hb2 := (h2.alloc h3 o).trans hb1
  have hs := hb1.size
  rw [hsz] at hs
  refine ⟨_, ho, hb2, by omega, h4.jn (m := 1) (fun _ _ => by show f i * 2 % 4294967296 + b < 2 ^ 32; omega), ?_⟩
  have e1 : sm (2 ^ 32) (fun _ => f i * 2 % 4294967296 + b) 1 = f i * 2 % 4294967296 + b := by simp [sm]
  have er : sm (2 ^ 32) f (i + 1) = sm (2 ^ 32) f i + f i * (2 ^ 32) ^ i := rfl
  rw [sm_jn, e1, er, pow_s (2 ^ 32) i]
  have e := congrArg (· * (2 ^ 32) ^ i) (show f i * 2 % 4294967296 + b + f i / 2147483648 * 2 ^ 32 = 2 * f i + b by omega)
  simp only [Nat.add_mul] at e
  have e2 : f i / 2147483648 * ((2 ^ 32) ^ i * 2 ^ 32) = f i / 2147483648 * 2 ^ 32 * (2 ^ 32) ^ i := by ac_rfl
  have e3 : 2 * (f i * (2 ^ 32) ^ i) = 2 * f i * (2 ^ 32) ^ i := by ac_rfl
  rw [e2, Nat.mul_add, e3, Nat.add_mul]
  omega

set_option maxHeartbeats 400000 in
theorem rbits_any (A : Option Addr) (n c : Nat) (f : Nat → Nat) (w : World) (hA : Rd w .u32 A n f) (lf : Lt (2 ^ 32) f n) (hn : n ≤ c) (hreach : n * 4 ≤ 140737488355328) :
    Calls Tryz.prog 144 #[.slice A n c] w fun e w' => e = .returned (.int .i64 (bl (sm (2 ^ 32) f n))) ∧ Below w.heap.size w w' := by
  have hle := tr_le f n
  rcases hj : tr f n with _ | j
  · have H0 : Hid (bl (sm (2 ^ 32) f n) = 0) := by
      rw [← sm_tr, hj]; rfl
    have HT := Lib.hid (rtrim_at A n c 0 f w hj hA hn hreach)
    clear hj
    go_enter Tryz.func144, Tryz.ntmps144
    go_wp2_with (go_at_call 79; refine HT.out.mono ?_; rintro e w' ⟨A1, c1, rfl, hr1, hb1⟩)
    go_ret
    exact ⟨by rw [H0.out]; rfl, hb1⟩
  · obtain ⟨h1, h2, h3⟩ := bits_val lf hj
    have bx := lf j h3
    have HT := Lib.hid (rtrim_at A n c (j + 1) f w hj hA hn hreach)
    obtain ⟨K, hK⟩ : ∃ K, bl (sm (2 ^ 32) f n) = K := ⟨_, rfl⟩
    rw [hK] at h1 ⊢
    have H1 := Lib.hid h1
    have hblx := Lib.hid (bl_le bx)
    clear h1 h2 hj hK
    go_enter Tryz.func144, Tryz.ntmps144
    go_wp2_with fail
    refine HT.out.mono ?_
    rintro e w' ⟨A1, c1, rfl, hr1, hb1⟩
    obtain ⟨b, off, rfl, _, hcell⟩ := hr1 (by omega)
    have hx := hcell j (by omega)
    clear hcell hr1
    go_wp2
    go_loop [4, 5] (fun s4 s5 => ∃ N t : Nat, t < 4294967296 ∧ s4 = .int .i64 N ∧ s5 = .int .u32 t ∧ N ≤ 32 * j + 32 ∧ Hid (N + bl t = K)) (fun _ s5 => (intOf s5).toNat)
    case atStart => exact ⟨32 * j, f j, bx, by go_num, rfl, by omega, Lib.hid H1.out.symm⟩
    case round =>
      obtain ⟨N, t, ht, rfl, rfl, hN, hI⟩ := hrel
      rcases Nat.eq_zero_or_pos t with h0 | h0
      · subst h0
        go_wp2
        go_ret
        exact ⟨ret_int (by have := hI.out; rw [bl_zero] at this; omega), hb1⟩
      · have hh := bl_half (x := t) (by omega)
        have hI2 : Hid (N + 1 + bl (t / 2) = K) := Lib.hid (by have := hI.out; omega)
        have hN2 : N + 1 ≤ 32 * j + 32 := by have := hI.out; have := H1.out; have := hblx.out; omega
        clear hh
        go_wp2
        go_round
        case rel => exact ⟨N + 1, t / 2, by omega, by go_num, congrArg (Value.int .u32) (by omega), hN2, hI2⟩
        case measure => simp [intOf]; omega
end Go.Proofs.YtljbnnpmnoejeaaGreatDoor.nn
namespace Go.Proofs.YtljbnnpmnoejeaaGreatDoor.nn
open Go.RowKit

theorem nil_of {s : ByteArray} (h : s.size = 0) : s = ⟨#[]⟩ := by
  apply ByteArray.ext
  exact Array.eq_empty_of_size_eq_zero h
theorem not_nil {s : ByteArray} (h : 0 < s.size) : s.toList.isEmpty = false := by
  have e : s.toList = s.data.toList := ByteArray.toList_eq s
  rw [e, List.isEmpty_eq_false_iff]
  intro h2
  have h3 : s.data.size = 0 := by rw [← Array.length_toList, h2]; rfl
  have h4 : s.size = s.data.size := rfl
  omega

/-- all that stood in a stands in b -/
def Stay (a b : World) : Prop := Below a.heap.size a b
theorem Stay.a1 (a : World) (o : Obj) : Stay a (a.alloc o).drew := ((Below.refl _ _).alloc (Nat.le_refl _) _).drew
theorem Stay.a2 (a : World) (o o' : Obj) : Stay a ((a.alloc o).alloc o').drew := (((Below.refl _ _).alloc (Nat.le_refl _) _).alloc (by rw [hsz]; omega) _).drew
theorem Stay.al {a b : World} (h : Stay a b) (o : Obj) : Stay a (b.alloc o) := Below.alloc h h.size o
/-- one limb stands in block g -/
def Limb (w : World) (g x : Nat) : Prop := Rd w .u32 (some ⟨g, 0, none⟩) 1 (fun _ => x)
theorem Limb.l1 (a : World) (e : TypeId) (x : Nat) {z : Int} (h : z = (x : Int)) : Limb (a.alloc (.cells #[.int .u32 z] e)).drew a.heap.size x := rd_z a .u32 x e h
theorem Limb.l2 (a : World) (e : TypeId) (x : Nat) (o : Obj) {z : Int} (h : z = (x : Int)) : Limb ((a.alloc (.cells #[.int .u32 z] e)).alloc o).drew a.heap.size x := (rd_z a .u32 x e h).alloc o
theorem Limb.l3 (a : World) (e : TypeId) (x : Nat) (o : Obj) {z : Int} (h : z = (x : Int)) : Limb ((a.alloc o).alloc (.cells #[.int .u32 z] e)).drew (a.heap.size + 1) x := by
  have := rd_z (a.alloc o) .u32 x e h
  rw [hsz] at this
  exact this
theorem Limb.l4 (a : World) (e : TypeId) (x : Nat) {z : Int} (h : z = (x : Int)) : Limb (a.alloc (.cells #[.int .u32 z] e)) a.heap.size x := rd_z a .u32 x e h
theorem Num.al {w : World} {A : Option Addr} {n c R : Nat} {f : Nat → Nat} (h : Num w A n c f R) (o : Obj) : Num (w.alloc o) A n c f R := ⟨h.le, h.cap, h.rd.alloc o, h.lt, h.trm, h.val⟩

set_option maxRecDepth 100000 in
set_option maxHeartbeats 2000000 in
theorem rfromDigits_any (s : ByteArray) (w : World) (hs : s.size ≤ maxLen) :
    Calls Tryz.prog 20 #[.string s] w fun e w' => Res w w' e (fdR (bt s) s.size) (fdE (bt s) s.size) := by
  have HN := Lib.hid (num_nil w)
  unfold maxLen at hs
  by_cases hl : 4096 < s.size
  · have e1 : fdR (bt s) s.size = 0 := by unfold fdR; rw [if_pos hl]
    have e2 : fdE (bt s) s.size = 2 := by unfold fdE; rw [if_pos hl]
    rw [e1, e2]
    clear e1 e2
    go_enter Tryz.func20, Tryz.ntmps20
    go_wp2
    go_ret2
    exact ⟨_, _, _, _, rfl, HN.out, Below.refl _ _⟩
  · by_cases h0 : s.size = 0
    · have e1 : fdR (bt s) s.size = 0 := by unfold fdR; rw [if_neg hl, h0]; rfl
      have e2 : fdE (bt s) s.size = 4 := by unfold fdE; rw [if_neg hl, h0]; rfl
      rw [e1, e2]
      obtain rfl := nil_of h0
      clear e1 e2 h0 hl hs
      go_enter Tryz.func20, Tryz.ntmps20
      go_wp2
      go_ret2
      exact ⟨_, _, _, _, rfl, HN.out, Below.refl _ _⟩
    · have hne := not_nil (s := s) (by omega)
      have hl4 : s.size ≤ 4096 := by omega
      have HR : Hid (dgs (bt s) s.size = true → fdR (bt s) s.size = dv (bt s) s.size ∧ fdE (bt s) s.size = 0) := Lib.hid fun hd => by
        unfold fdR fdE
        rw [if_neg hl, if_neg hl, hd, decide_eq_true (by omega)]
        exact ⟨rfl, rfl⟩
      have HW : Hid (∀ i, i < s.size → ¬ (48 ≤ bt s i ∧ bt s i ≤ 57) → fdR (bt s) s.size = 0 ∧ fdE (bt s) s.size = 4) := Lib.hid fun i hi hy => by
        have hd : dgs (bt s) s.size = false := by
          cases hh : dgs (bt s) s.size with
          | false => rfl
          | true => exact absurd (dgs_at hh hi) hy
        unfold fdR fdE
        rw [if_neg hl, if_neg hl, hd]
        exact ⟨rfl, rfl⟩
      clear hl h0
      go_enter Tryz.func20, Tryz.ntmps20
      go_wp2_with fail
      go_loopw [4, 5] (fun s4 s5 wr => ∃ (i : Nat) (A' : Option Addr) (n' c' : Nat) (f' : Nat → Nat), i ≤ s.size ∧ s5 = .int .i64 (i : Int) ∧ s4 = .slice A' n' c' ∧ n' ≤ 3 * i ∧ Hid (dgs (bt s) i = true) ∧ Hid (Num wr A' n' c' f' (dv (bt s) i) ∧ Below w.heap.size w wr)) (fun _ s5 _ => s.size - (intOf s5).toNat)
      case atStart => exact ⟨0, none, 0, 0, fun _ => 0, Nat.zero_le _, rfl, rfl, Nat.le_refl _, Lib.hid rfl, Lib.hid ⟨HN.out, Below.refl _ _⟩⟩
      case round =>
        obtain ⟨i, A', n', c', f', hi, rfl, rfl, hn3, hd, hW⟩ := hrel
        by_cases hlt : i < s.size
        · have hx := bt_at hlt
          obtain ⟨x, hxx⟩ : ∃ x, s[i].toNat = x := ⟨_, rfl⟩
          have hx256 : x < 256 := by rw [← hxx]; exact s[i].toNat_lt
          rw [hxx] at hx
          by_cases hy : 48 ≤ x ∧ x ≤ 57
          · have HD : Hid (dgs (bt s) (i + 1) = true) := Lib.hid (by rw [dgs, hd.out, hx]; exact decide_eq_true hy)
            have HV : Hid (dv (bt s) (i + 1) = dv (bt s) i * 10 + (x - 48)) := Lib.hid (by rw [dv, hx])
            obtain ⟨h1, h2⟩ := hy
            obtain ⟨V, hV⟩ : ∃ V, dv (bt s) i = V := ⟨_, rfl⟩
            rw [hV] at hW HV
            have HT : Hid (∀ (W : World) (g : Nat), Stay wr W → Limb W g 10 → Calls Tryz.prog 42 #[.slice A' n' c', .slice (some ⟨g, 0, none⟩) 1 1] W fun e w' =>
                ∃ A5 n5 c5 f5, e = .returned (.slice A5 n5 c5) ∧ (Num w' A5 n5 c5 f5 (V * 10) ∧ n5 ≤ n' + 2) ∧ Stay wr w' ∧ ∀ g', Limb W g' (x - 48) → Limb w' g' (x - 48)) := Lib.hid fun W g hk hr => by
              have h := times_any A' (some ⟨g, 0, none⟩) n' 1 c' 1 f' (fun _ => 10) W (hW.out.1.rd.below hk) hr hW.out.1.lt (fun _ _ => by show 10 < 2 ^ 32; decide) (by omega) (by omega)
              have e : sm (2 ^ 32) (fun _ => 10) 1 = 10 := by simp [sm]
              rw [hW.out.1.val, e] at h
              exact h.mono fun e w' ⟨A5, n5, c5, f5, k1, k2, k3, k4⟩ => ⟨A5, n5, c5, f5, k1, ⟨k2, by omega⟩, Below.trans hk (k4.mono hk.size), fun g' hg => Rd.below hg k4⟩
            have HS : Hid (∀ (W : World) (A5 : Option Addr) (n5 c5 : Nat) (f5 : Nat → Nat) (g : Nat), Stay wr W → (Num W A5 n5 c5 f5 (V * 10) ∧ n5 ≤ n' + 2) → Limb W g (x - 48) → Calls Tryz.prog 41 #[.slice A5 n5 c5, .slice (some ⟨g, 0, none⟩) 1 1] W fun e w' =>
                ∃ A6 n6 c6 f6, e = .returned (.slice A6 n6 c6) ∧ (Num w' A6 n6 c6 f6 (V * 10 + (x - 48)) ∧ n6 ≤ n' + 3) ∧ Stay wr w') := Lib.hid fun W A5 n5 c5 f5 g hk ⟨hN, hle⟩ hr => by
              have h := rsum_any A5 (some ⟨g, 0, none⟩) n5 1 c5 1 f5 (fun _ => x - 48) W hN.rd hr hN.lt (fun _ _ => by show x - 48 < 2 ^ 32; omega) (by omega) (by omega)
              have e : sm (2 ^ 32) (fun _ => x - 48) 1 = x - 48 := by simp [sm]
              rw [hN.val, e] at h
              exact h.mono fun e w' ⟨A6, n6, c6, f6, k1, k2, k3, k4⟩ => ⟨A6, n6, c6, f6, k1, ⟨k2, by omega⟩, Below.trans hk (k4.mono hk.size)⟩
            obtain ⟨d, hdd⟩ : ∃ d, x - 48 = d := ⟨_, rfl⟩
            have t1 : IntKind.u8.wrap ((x : Int) - 48) = (d : Int) := by rw [IntKind.wrap_u8]; omega
            have t2 : IntKind.u32.wrap (d : Int) = (d : Int) := by rw [IntKind.wrap_u32]; omega
            rw [hdd] at HT HS HV
            have HB := Lib.hid hW.out.2
            clear hx hV hW hd hdd
            go_wp2_with fail
            go_region_with (first
              | (go_at_call 42
                 refine (HT.out _ _ (by first | exact Stay.a1 _ _ | exact Stay.a2 _ _ _) (by first | exact Limb.l1 _ _ 10 rfl | exact Limb.l2 _ _ 10 _ rfl | exact Limb.l3 _ _ 10 _ rfl)).mono ?_
                 rintro e w5 ⟨A5, n5, c5, f5, rfl, hn5, hk5, hd5⟩)
              | (go_at_call 41
                 refine (HS.out _ _ _ _ _ _ (by first | assumption | exact Stay.al (by assumption) _) (by first | assumption | exact ⟨Num.al (And.left (by assumption)) _, (And.right (by assumption))⟩) (by first | exact Limb.l4 _ _ _ rfl | (apply_assumption; first | exact Limb.l1 _ _ _ rfl | exact Limb.l2 _ _ _ _ rfl | exact Limb.l3 _ _ _ _ rfl))).mono ?_
                 rintro e w6 ⟨A6, n6, c6, f6, rfl, hn6, hk6⟩))
            all_goals
              have HF : Hid (Num w6 A6 n6 c6 f6 (dv (bt s) (i + 1)) ∧ Below w.heap.size w w6) := Lib.hid ⟨by rw [HV.out]; exact hn6.1, HB.out.trans (Below.mono hk6 HB.out.size)⟩
              have hn7 : n6 ≤ n' + 3 := hn6.2
              clear hn6 hk6 hn5 hk5 hd5 HT HS t1 t2
              go_wp2
              go_roundw
              case rel => exact ⟨i + 1, A6, n6, c6, f6, by omega, by go_num, rfl, by omega, HD, HF⟩
              case measure => simp [intOf]; omega
          · have HQ := Lib.hid (HW.out i hlt (by rw [hx]; exact hy))
            have HBB := Lib.hid hW.out.2
            clear hx
            by_cases h1 : 48 ≤ x
            · have h2 : 57 < x := by omega
              clear hy
              go_wp2
              go_ret2
              rw [HQ.out.1, HQ.out.2]
              exact ⟨_, _, _, _, rfl, num_nil _, HBB.out⟩
            · clear hy
              go_wp2
              go_ret2
              rw [HQ.out.1, HQ.out.2]
              exact ⟨_, _, _, _, rfl, num_nil _, HBB.out⟩
        · obtain rfl : i = s.size := by omega
          obtain ⟨r1, r2⟩ := HR.out hd.out
          have HR2 := Lib.hid (And.intro r1 r2)
          clear r1 r2
          go_wp2_with fail
          go_ret2
          rw [HR2.out.1, HR2.out.2]
          exact ⟨_, _, _, _, rfl, hW.out.1, hW.out.2⟩
end Go.Proofs.YtljbnnpmnoejeaaGreatDoor.nn
namespace Go.Proofs.YtljbnnpmnoejeaaGreatDoor.nn
open Go.RowKit

/-- the value v is a number in memory, perhaps with zero limbs at its end; at most m limbs -/
def U (w : World) (v : Value) (X m : Nat) : Prop := ∃ A n c f, v = .slice A n c ∧ n ≤ c ∧ c ≤ maxLen ∧ Rd w .u32 A n f ∧ Lt (2 ^ 32) f n ∧ sm (2 ^ 32) f n = X ∧ n ≤ m
section
variable {w w' : World} {v u : Value} {X Y m m' : Nat}
theorem U.below (h : U w v X m) (hb : Below w.heap.size w w') : U w' v X m := by
  obtain ⟨A, n, c, f, rfl, h1, h2, h3, h4, h5, h6⟩ := h
  exact ⟨A, n, c, f, rfl, h1, h2, h3.below hb, h4, h5, h6⟩
theorem U.drewN (h : U w v X m) (j : Nat) : U (w.drewN j) v X m := by
  obtain ⟨A, n, c, f, rfl, h1, h2, h3, h4, h5, h6⟩ := h
  exact ⟨A, n, c, f, rfl, h1, h2, h3.drewN j, h4, h5, h6⟩
theorem U.alloc (h : U w v X m) (o : Obj) : U (w.alloc o) v X m := by
  obtain ⟨A, n, c, f, rfl, h1, h2, h3, h4, h5, h6⟩ := h
  exact ⟨A, n, c, f, rfl, h1, h2, h3.alloc o, h4, h5, h6⟩
theorem U.wide (h : U w v X m) (hm : m ≤ m') : U w v X m' := by
  obtain ⟨A, n, c, f, rfl, h1, h2, h3, h4, h5, h6⟩ := h
  exact ⟨A, n, c, f, rfl, h1, h2, h3, h4, h5, Nat.le_trans h6 hm⟩
theorem U.of (h : N w v X) (hX : X < 2 ^ (32 * m)) : U w v X m := by
  obtain ⟨A, n, c, f, rfl, h1⟩ := h
  refine ⟨A, n, c, f, rfl, h1.le, h1.cap, h1.rd, h1.lt, h1.val, ?_⟩
  rcases Nat.lt_or_ge m n with h2 | h2
  · obtain ⟨j, rfl⟩ : ∃ j, n = j + 1 := ⟨n - 1, by omega⟩
    rcases h1.trm with h3 | h3
    · omega
    · have h4 := sm_ge (B := 2 ^ 32) (f := f) (n := j) (by simpa using h3)
      rw [h1.val, ← Nat.pow_mul] at h4
      have h5 : 2 ^ (32 * m) ≤ 2 ^ (32 * j) := Nat.pow_le_pow_right (by decide) (by omega)
      omega
  · exact h2
end
/-- a number is answered, of at most m limbs -/
def UA (w : World) (R m : Nat) (e : Ending) (w' : World) : Prop := ∃ v, e = .returned v ∧ N w' v R ∧ U w' v R m ∧ Below w.heap.size w w'

theorem rtimes_u (v u : Value) (X Y m m' : Nat) (w : World) (h : U w v X m) (hu : U w u Y m') (hm : m ≤ 10000) (hm' : m' ≤ 10000) :
    Calls Tryz.prog 42 #[v, u] w (UA w (X * Y) (m + m' + 1)) := by
  obtain ⟨A, n, c, f, rfl, h1, h2, h3, h4, h5, h6⟩ := h
  obtain ⟨B, k, d, g, rfl, g1, g2, g3, g4, g5, g6⟩ := hu
  refine (times_any A B n k c d f g w h3 g3 h4 g4 (by omega) (by omega)).mono ?_
  rintro e w' ⟨A1, n1, c1, f1, rfl, hN, hn, hb⟩
  rw [h5, g5] at hN
  exact ⟨_, rfl, ⟨A1, n1, c1, f1, rfl, hN⟩, ⟨A1, n1, c1, f1, rfl, hN.le, hN.cap, hN.rd, hN.lt, hN.val, by omega⟩, hb⟩
theorem rcmp_u (v u : Value) (X Y m m' : Nat) (w : World) (h : U w v X m) (hu : U w u Y m') (hm : m ≤ 100000) (hm' : m' ≤ 100000) :
    Calls Tryz.prog 81 #[v, u] w fun e w' => e = .returned (.int .i64 (cm X Y)) ∧ Below w.heap.size w w' := by
  obtain ⟨A, n, c, f, rfl, h1, h2, h3, h4, h5, h6⟩ := h
  obtain ⟨B, k, d, g, rfl, g1, g2, g3, g4, g5, g6⟩ := hu
  have := rcmp_any A B n k c d f g w h3 g3 h4 g4 h1 g1 (by omega) (by omega)
  rw [h5, g5] at this
  exact this
theorem rbits_u (v : Value) (X m : Nat) (w : World) (h : U w v X m) (hm : m ≤ 100000) :
    Calls Tryz.prog 144 #[v] w fun e w' => e = .returned (.int .i64 (bl X : Int)) ∧ Below w.heap.size w w' := by
  obtain ⟨A, n, c, f, rfl, h1, h2, h3, h4, h5, h6⟩ := h
  have := rbits_any A n c f w h3 h4 h1 (by omega)
  rw [h5] at this
  exact this
/-- less of two that fit -/
theorem rsub_u (v u : Value) (X Y m m' : Nat) (w : World) (h : U w v X m) (hu : U w u Y m') (hm : m ≤ 4096) (hm' : m' ≤ 4096) (hle : Y ≤ X) :
    Calls Tryz.prog 43 #[v, u] w fun e w' => ∃ t, e = .returned (.tuple #[t, .int .i64 0]) ∧ N w' t (X - Y) ∧ Below w.heap.size w w' := by
  obtain ⟨A, n, c, f, rfl, h1, h2, h3, h4, h5, h6⟩ := h
  obtain ⟨B, k, d, g, rfl, g1, g2, g3, g4, g5, g6⟩ := hu
  have t1 := tr_le f n
  have t2 := tr_le g k
  have htl : tl2 n k f g = false := by unfold tl2; simp only [Bool.or_eq_false_iff, decide_eq_false_iff_not]; omega
  have e1 : subR n k f g = X - Y := by unfold subR; rw [htl, if_neg Bool.false_ne_true, h5, g5, if_neg (by omega)]
  have e2 : subE n k f g = 0 := by unfold subE; rw [htl, if_neg Bool.false_ne_true, h5, g5, if_neg (by omega)]
  have hc := rsub_all A B n k c d f g w h3 g3 h4 g4 h1 g1 h2 g2 (by omega) (by omega)
  rw [e1, e2] at hc
  refine hc.mono ?_
  rintro e w' ⟨A1, n1, c1, f1, rfl, hN, hb⟩
  exact ⟨_, rfl, ⟨A1, n1, c1, f1, rfl, hN⟩, hb⟩
end Go.Proofs.YtljbnnpmnoejeaaGreatDoor.nn
namespace Go.Proofs.YtljbnnpmnoejeaaGreatDoor.nn
open Go.RowKit

set_option maxRecDepth 100000 in
set_option maxHeartbeats 1000000 in
theorem two_any (n : Nat) (w : World) (hn : n ≤ 100000) :
    Calls Tryz.prog 143 #[.int .i64 (n : Int)] w fun e w' => ∃ v, e = .returned v ∧ U w' v (2 ^ n) (n / 32 + 1) ∧ Below w.heap.size w w' := by
  obtain ⟨i0, hi, hz0, hz1, hz2⟩ := info_parts info_u32
  obtain ⟨m, hm⟩ : ∃ m, n / 32 = m := ⟨_, rfl⟩
  obtain ⟨t, ht⟩ : ∃ t, n % 32 = t := ⟨_, rfl⟩
  have hmt : n = 32 * m + t := by omega
  have ht32 : t < 32 := by omega
  have hm4 : m ≤ 4000 := by omega
  have e1 : (n : Int) / 32 = (m : Int) := by omega
  have e2 : (n : Int) % 32 = (t : Int) := by omega
  have HP : Hid (2 ^ n = 2 ^ t * (2 ^ 32) ^ m) := Lib.hid (by rw [← Nat.pow_mul, ← Nat.pow_add, hmt, Nat.add_comm])
  have hpt : 2 ^ t < 4294967296 := by
    have : 2 ^ t < 2 ^ 32 := (Nat.pow_lt_pow_iff_right (by decide)).2 ht32
    omega
  obtain ⟨P, hP⟩ : ∃ P, 2 ^ t = P := ⟨_, rfl⟩
  rw [hP] at HP hpt
  have hv : (2 : Int) ^ t % 4294967296 = (P : Int) := by
    have : (2 : Int) ^ t = (P : Int) := by rw [← hP]; push_cast; rfl
    rw [this]
    omega
  rw [hm]
  clear hm ht hmt hP
  go_enter Tryz.func143, Tryz.ntmps143
  go_wp2_with (refine wpList_make_full _ rfl _ _ 48 rfl w.heap.size 72 i0 _ 1 Tryz.underlying48 hi hz0 hz1 .i64 .i64 _ _ (m + 1) rfl rfl (by omega) (by omega) (by rw [hz2]; omega) (by unfold maxLen; omega) (by omega) ?_; intro w1 hown1 hg1; rw [made_vl] at hown1; obtain ⟨cur, hbk, hint, _, _, _, hcs, _⟩ := own_wrote hown1; have hc := (Bk.cell hbk m).trans (show cur[m]? = some (.int .u32 ((0 : Nat) : Int)) from by have := hint m (by omega); rw [Nat.zero_add] at this; exact this); have hf := Bk.frozen hbk m; have HK := Lib.hid (And.intro hbk (And.intro hint hg1)); clear hown1 hbk hint hg1)
  go_ret
  obtain ⟨hbk, hint, hg1⟩ := HK.out
  have hin2 := hint.set_ m P (by omega)
  rw [Nat.zero_add] at hin2
  have hlt : Lt (2 ^ 32) (upd (fun _ => 0) m P) (m + 1) := Lt.upd (fun _ _ => Nat.two_pow_pos 32) (by omega)
  have hsm := sm_upd (2 ^ 32) (fun _ => 0) (n := m + 1) (k := m) P (by omega)
  have hz : ∀ k, sm (2 ^ 32) (fun _ => 0) k = 0 := fun k => by
    induction k with
    | zero => rfl
    | succ k ih => rw [sm, ih, Nat.zero_mul]
  rw [hz, Nat.zero_mul, Nat.zero_add, Nat.add_zero] at hsm
  have hb1 : Below w.heap.size w w1 := (Below.refl _ _).grown (row := none) hg1 (Nat.le_refl _) (fun k hk => by cases hk)
  exact ⟨_, rfl, ⟨_, m + 1, m + 1, _, rfl, Nat.le_refl _, by unfold maxLen; omega, hin2.rd (hbk.set_ m _), hlt, by rw [hsm, HP.out], Nat.le_refl _⟩, hb1.setCell (Nat.le_refl _) _⟩
end Go.Proofs.YtljbnnpmnoejeaaGreatDoor.nn
namespace Go.Proofs.YtljbnnpmnoejeaaGreatDoor.nn
open Go.RowKit

theorem half_step {X D : Nat} (h : 0 < D) : (D ≤ X % (D * 2) → X / D = 2 * (X / (D * 2)) + 1 ∧ X % D = X % (D * 2) - D) ∧ (X % (D * 2) < D → X / D = 2 * (X / (D * 2)) ∧ X % D = X % (D * 2)) := by
  have hm := Nat.div_add_mod X (D * 2)
  have hl := Nat.mod_lt X (show 0 < D * 2 by omega)
  obtain ⟨A, hA⟩ : ∃ A, X / (D * 2) = A := ⟨_, rfl⟩
  obtain ⟨r, hr⟩ : ∃ r, X % (D * 2) = r := ⟨_, rfl⟩
  rw [hA, hr] at hm
  rw [hr] at hl
  rw [hA, hr]
  constructor
  · intro hge
    refine (Nat.div_mod_unique h).2 ⟨?_, by omega⟩
    rw [← hm, Nat.mul_add, Nat.mul_one, Nat.mul_assoc]
    omega
  · intro hlt
    refine (Nat.div_mod_unique h).2 ⟨?_, hlt⟩
    rw [← hm, Nat.mul_assoc]
    omega
theorem U.lt {w : World} {v : Value} {X m : Nat} (h : U w v X m) : X < 2 ^ (32 * m) := by
  obtain ⟨A, n, c, f, rfl, h1, h2, h3, h4, h5, h6⟩ := h
  have := sm_lt h4
  rw [h5, ← Nat.pow_mul] at this
  exact Nat.lt_of_lt_of_le this (Nat.pow_le_pow_right (by decide) (by omega))
def QuAns (X Y m : Nat) (w : World) (e : Ending) (w' : World) : Prop := ∃ v, e = .returned (.tuple #[.int .u64 ((X / Y : Nat) : Int), v]) ∧ U w' v (X % Y) m ∧ Below w.heap.size w w'
def TwAns (n : Nat) (w : World) (e : Ending) (w' : World) : Prop := ∃ v, e = .returned v ∧ U w' v (2 ^ n) (n / 32 + 1) ∧ Below w.heap.size w w'

set_option maxRecDepth 100000 in
set_option maxHeartbeats 2000000 in
theorem quot_any (v u : Value) (X Y m m' : Nat) (w : World) (hv : U w v X m) (hu : U w u Y m') (hm : m ≤ 3000) (hm' : m' ≤ 3000) (h0 : 0 < Y) (hX : X < Y * 2 ^ 63) :
    Calls Tryz.prog 146 #[v, u] w (QuAns X Y m w) := by
  have HTW := Lib.hid (fun n W (hn : n ≤ 100000) => (two_any n W hn : Calls _ _ _ _ (TwAns n W)))
  have HTM := Lib.hid (fun u2 n W (h : Below w.heap.size w W) (h2 : U W u2 (2 ^ n) (n / 32 + 1)) (hn : n ≤ 62) => rtimes_u u u2 Y (2 ^ n) m' (n / 32 + 1) W (hu.below h) h2 (by omega) (by omega))
  have HL := Lib.hid hv.lt
  have HR : Hid (U w v (X % (Y * 2 ^ 63)) m) := Lib.hid (by rw [Nat.mod_eq_of_lt hX]; exact hv)
  have e0 : X / (Y * 2 ^ 63) = 0 := Nat.div_eq_of_lt hX
  have HX := Lib.hid (And.intro h0 (show X / Y < 2 ^ 63 by rw [Nat.div_lt_iff_lt_mul h0, Nat.mul_comm]; exact hX))
  have HB := Lib.hid (Below.refl w.heap.size w)
  have HE0 := Lib.hid e0
  clear hv hu hX h0 e0
  go_enter Tryz.func146, Tryz.ntmps146
  go_wp2_with fail
  go_loopw [0, 6, 7] (fun s0 s6 s7 wr => ∃ j : Nat, j ≤ 63 ∧ s7 = .int .i64 ((j : Int) - 1) ∧ s6 = .int .u64 ((X / (Y * 2 ^ j) : Nat) : Int) ∧ Hid (U wr s0 (X % (Y * 2 ^ j)) m ∧ Below w.heap.size w wr)) (fun _ _ s7 _ => (intOf s7 + 1).toNat)
  case atStart => exact ⟨63, by omega, rfl, by rw [HE0.out]; rfl, Lib.hid ⟨HR.out, HB.out⟩⟩
  case round =>
    obtain ⟨j, hj, rfl, rfl, hH⟩ := hrel
    rename_i s0
    by_cases hj0 : j = 0
    · subst hj0
      have hU := hH.out.1
      rw [Nat.pow_zero, Nat.mul_one] at hU
      have HU := Lib.hid hU
      clear hU
      rw [Nat.pow_zero, Nat.mul_one, show (((0 : Nat) : Int) - 1) = -1 by decide]
      go_wp2_with fail
      go_ret2
      exact ⟨_, rfl, HU.out, hH.out.2⟩
    · obtain ⟨i, rfl⟩ : ∃ i, j = i + 1 := ⟨j - 1, by omega⟩
      have e1 : (((i + 1 : Nat) : Int) - 1) = (i : Int) := by omega
      have e2 : Y * 2 ^ (i + 1) = Y * 2 ^ i * 2 := by rw [Nat.pow_succ, Nat.mul_assoc]
      obtain ⟨D, hD⟩ : ∃ D, Y * 2 ^ i = D := ⟨_, rfl⟩
      have hD0 : 0 < D := by rw [← hD]; exact Nat.mul_pos HX.out.1 (Nat.two_pow_pos i)
      obtain ⟨st1, st2⟩ := half_step (X := X) hD0
      have hYD : Y ≤ D := by rw [← hD]; exact Nat.le_mul_of_pos_right _ (Nat.two_pow_pos i)
      have hq : X / D < 2 ^ 63 := Nat.lt_of_le_of_lt (Nat.div_le_div_left hYD HX.out.1) HX.out.2
      rw [show (2 : Nat) ^ 63 = 9223372036854775808 by decide] at hq
      have hU0 := hH.out.1
      have hB0 := Lib.hid hH.out.2
      rw [e1, e2, hD]
      rw [e2, hD] at hU0
      have hlt2 : X % (D * 2) < 2 ^ (32 * m) := Nat.lt_of_le_of_lt (Nat.mod_le _ _) HL.out
      have HDD := Lib.hid hD
      obtain ⟨q, hqq⟩ : ∃ q, X / (D * 2) = q := ⟨_, rfl⟩
      obtain ⟨r, hrr⟩ : ∃ r, X % (D * 2) = r := ⟨_, rfl⟩
      rw [hqq, hrr] at st1 st2
      rw [hrr] at hU0 hlt2
      rw [hqq]
      have HU0 := Lib.hid hU0
      have hi62 : i ≤ 62 := by omega
      by_cases hge : D ≤ r
      · obtain ⟨s1, s2⟩ := st1 hge
        have hq2 : 2 * q + 1 < 9223372036854775808 := by omega
        have HS := Lib.hid (And.intro s1 s2)
        have hc : 0 ≤ cm r D := by unfold cm; split <;> (try split) <;> omega
        obtain ⟨c, hcc⟩ : ∃ c, cm r D = c := ⟨_, rfl⟩
        have HC := Lib.hid hcc
        rw [hcc] at hc
        clear st1 st2 s1 s2 hU0 e1 e2 hD hqq hrr hcc hq hH
        go_wp2_with fail
        refine (HTW.out i _ (by omega)).mono ?_
        rintro e w1 ⟨t1, rfl, hU1, hb1⟩
        have B1 := Lib.hid (hB0.out.trans (hb1.mono hB0.out.size))
        have U1 := Lib.hid (And.intro (HU0.out.below hb1) hU1)
        clear hb1 hU1
        go_wp2_with fail
        refine (HTM.out _ i _ B1.out U1.out.2 hi62).mono ?_
        rintro e w2 ⟨t2, rfl, hN2, hU2, hb2⟩
        have B2 := Lib.hid (B1.out.trans (hb2.mono B1.out.size))
        rw [HDD.out] at hU2
        have U2 := Lib.hid (And.intro (U1.out.1.below hb2) hU2)
        clear hb2 hU2 hN2
        go_wp2_with fail
        refine (rcmp_u _ _ r D m _ _ U2.out.1 U2.out.2 (by omega) (by omega)).mono ?_
        rw [HC.out]
        rintro e w3 ⟨rfl, hb3⟩
        have B3 := Lib.hid (B2.out.trans (hb3.mono B2.out.size))
        have U3 := Lib.hid (And.intro (U2.out.1.below hb3) (U2.out.2.below hb3))
        clear hb3
        go_wp2_with fail
        refine (rsub_u _ _ r D m _ _ U3.out.1 U3.out.2 (by omega) (by omega) hge).mono ?_
        rintro e w4 ⟨t4, rfl, hN4, hb4⟩
        have B4 := Lib.hid (B3.out.trans (hb4.mono B3.out.size))
        have U4 := Lib.hid (U.of (m := m) hN4 (by omega))
        clear hb4 hN4
        go_wp2_with fail
        go_roundw
        case rel => exact ⟨i, by omega, rfl, by rw [HDD.out, HS.out.1]; rfl, Lib.hid ⟨by rw [HDD.out, HS.out.2]; exact U4.out, B4.out⟩⟩
        case measure => simp [intOf]
      · obtain ⟨s1, s2⟩ := st2 (by omega)
        have hq2 : 2 * q + 1 < 9223372036854775809 := by omega
        have HS := Lib.hid (And.intro s1 s2)
        have HC := Lib.hid (cm_lt (show r < D by omega))
        clear st1 st2 s1 s2 hU0 e1 e2 hD hqq hrr hq hH
        go_wp2_with fail
        refine (HTW.out i _ (by omega)).mono ?_
        rintro e w1 ⟨t1, rfl, hU1, hb1⟩
        have B1 := Lib.hid (hB0.out.trans (hb1.mono hB0.out.size))
        have U1 := Lib.hid (And.intro (HU0.out.below hb1) hU1)
        clear hb1 hU1
        go_wp2_with fail
        refine (HTM.out _ i _ B1.out U1.out.2 hi62).mono ?_
        rintro e w2 ⟨t2, rfl, hN2, hU2, hb2⟩
        have B2 := Lib.hid (B1.out.trans (hb2.mono B1.out.size))
        rw [HDD.out] at hU2
        have U2 := Lib.hid (And.intro (U1.out.1.below hb2) hU2)
        clear hb2 hU2 hN2
        go_wp2_with fail
        refine (rcmp_u _ _ r D m _ _ U2.out.1 U2.out.2 (by omega) (by omega)).mono ?_
        rw [HC.out]
        rintro e w3 ⟨rfl, hb3⟩
        have B3 := Lib.hid (B2.out.trans (hb3.mono B2.out.size))
        have U3 := Lib.hid (U2.out.1.below hb3)
        clear hb3
        go_wp2_with fail
        go_roundw
        case rel => exact ⟨i, by omega, rfl, by rw [HDD.out, HS.out.1]; rfl, Lib.hid ⟨by rw [HDD.out, HS.out.2]; exact U3.out, B3.out⟩⟩
        case measure => simp [intOf]
end Go.Proofs.YtljbnnpmnoejeaaGreatDoor.nn
namespace Go.Proofs.YtljbnnpmnoejeaaGreatDoor.nn
open Go.RowKit

theorem cm_pos {a b : Nat} : (0 ≤ cm a b ↔ b ≤ a) := by
  unfold cm
  constructor
  · intro h
    split at h
    · omega
    · omega
  · intro h
    rw [if_neg (by omega)]
    split <;> omega
set_option maxRecDepth 100000 in
set_option maxHeartbeats 1000000 in
theorem over_any (v u : Value) (X Y m m' : Nat) (z : Int) (B : Bool) (w : World) (hv : U w v X m) (hu : U w u Y m') (hm : m ≤ 2000) (hm' : m' ≤ 2000) (hz1 : -30000 ≤ z) (hz2 : z ≤ 30000) (hB : ge2 X Y z ↔ B = true) :
    Calls Tryz.prog 161 #[v, u, .int .i64 z] w fun e w' => e = .returned (.bool B) ∧ Below w.heap.size w w' := by
  have HTW := Lib.hid (fun n W (hn : n ≤ 100000) => (two_any n W hn : Calls _ _ _ _ (TwAns n W)))
  by_cases h0 : 0 ≤ z
  · obtain ⟨n, rfl⟩ := Int.eq_ofNat_of_zero_le h0
    have hB2 : Y * 2 ^ n ≤ X ↔ B = true := by
      rw [← hB, ge2_iff X Y (show (n : Int) = ((n : Nat) : Int) - ((0 : Nat) : Int) by omega), Nat.pow_zero, Nat.mul_one]
    have HT := Lib.hid (fun u2 W (h : Below w.heap.size w W) (h2 : U W u2 (2 ^ n) (n / 32 + 1)) => rtimes_u u u2 Y (2 ^ n) m' (n / 32 + 1) W (hu.below h) h2 (by omega) (by omega))
    have HV := Lib.hid (fun W (h : Below w.heap.size w W) => hv.below h)
    obtain ⟨P, hP⟩ : ∃ P, Y * 2 ^ n = P := ⟨_, rfl⟩
    rw [hP] at HT hB2
    have hc := cm_pos (a := X) (b := P)
    rw [hB2] at hc
    obtain ⟨c, hcc⟩ : ∃ c, cm X P = c := ⟨_, rfl⟩
    rw [hcc] at hc
    have HC := Lib.hid hcc
    have hn : n ≤ 30000 := by omega
    have HR : Hid (decide (0 ≤ c) = B) := Lib.hid (by
      cases B with
      | true => exact decide_eq_true (hc.2 rfl)
      | false => exact decide_eq_false (fun g => by have := hc.1 g; cases this))
    clear hP hB hB2 hc hcc hv hu hz1 hz2
    go_enter Tryz.func161, Tryz.ntmps161
    go_wp2_with fail
    refine (HTW.out n _ (by omega)).mono ?_
    rintro e w1 ⟨t1, rfl, hU1, hb1⟩
    have B1 := Lib.hid hb1
    have U1 := Lib.hid hU1
    clear hb1 hU1
    go_wp2_with fail
    refine (HT.out _ _ B1.out U1.out).mono ?_
    rintro e w2 ⟨t2, rfl, hN2, hU2, hb2⟩
    have B2 := Lib.hid (B1.out.trans (hb2.mono B1.out.size))
    have U2 := Lib.hid hU2
    clear hb2 hU2 hN2
    go_wp2_with fail
    refine (rcmp_u _ _ X P m _ _ (HV.out _ B2.out) U2.out (by omega) (by omega)).mono ?_
    rw [HC.out]
    rintro e w3 ⟨rfl, hb3⟩
    have B3 := Lib.hid (B2.out.trans (hb3.mono B2.out.size))
    clear hb3
    go_wp2_with fail
    go_ret
    exact ⟨congrArg (fun b => Ending.returned (.bool b)) HR.out, B3.out⟩
  · obtain ⟨n, hn⟩ : ∃ n : Nat, -z = (n : Int) := ⟨(-z).toNat, by omega⟩
    have hB2 : Y ≤ X * 2 ^ n ↔ B = true := by
      rw [← hB, ge2_iff X Y (show z = ((0 : Nat) : Int) - ((n : Nat) : Int) by omega), Nat.pow_zero, Nat.mul_one]
    have HT := Lib.hid (fun u2 W (h : Below w.heap.size w W) (h2 : U W u2 (2 ^ n) (n / 32 + 1)) => rtimes_u v u2 X (2 ^ n) m (n / 32 + 1) W (hv.below h) h2 (by omega) (by omega))
    have HV := Lib.hid (fun W (h : Below w.heap.size w W) => hu.below h)
    obtain ⟨P, hP⟩ : ∃ P, X * 2 ^ n = P := ⟨_, rfl⟩
    rw [hP] at HT hB2
    have hc := cm_pos (a := P) (b := Y)
    rw [hB2] at hc
    obtain ⟨c, hcc⟩ : ∃ c, cm P Y = c := ⟨_, rfl⟩
    rw [hcc] at hc
    have HC := Lib.hid hcc
    have hn3 : n ≤ 30000 := by omega
    have hz3 : z < 0 := by omega
    have HR : Hid (decide (0 ≤ c) = B) := Lib.hid (by
      cases B with
      | true => exact decide_eq_true (hc.2 rfl)
      | false => exact decide_eq_false (fun g => by have := hc.1 g; cases this))
    clear hP hB hB2 hc hcc hv hu hz2 h0
    go_enter Tryz.func161, Tryz.ntmps161
    go_wp2_with fail
    refine (HTW.out n _ (by omega)).mono ?_
    rintro e w1 ⟨t1, rfl, hU1, hb1⟩
    have B1 := Lib.hid hb1
    have U1 := Lib.hid hU1
    clear hb1 hU1
    go_wp2_with fail
    refine (HT.out _ _ B1.out U1.out).mono ?_
    rintro e w2 ⟨t2, rfl, hN2, hU2, hb2⟩
    have B2 := Lib.hid (B1.out.trans (hb2.mono B1.out.size))
    have U2 := Lib.hid hU2
    clear hb2 hU2 hN2
    go_wp2_with fail
    refine (rcmp_u _ _ P Y _ m' _ U2.out (HV.out _ B2.out) (by omega) (by omega)).mono ?_
    rw [HC.out]
    rintro e w3 ⟨rfl, hb3⟩
    have B3 := Lib.hid (B2.out.trans (hb3.mono B2.out.size))
    clear hb3
    go_wp2_with fail
    go_ret
    exact ⟨congrArg (fun b => Ending.returned (.bool b)) HR.out, B3.out⟩

set_option maxRecDepth 100000 in
theorem rsign_any (neg : Bool) (w : World) : Calls Tryz.prog 77 #[.bool neg] w fun e w' => e = .returned (.int .u64 (sB neg : Int)) ∧ w = w' := by
  cases neg
  all_goals
    go_enter Tryz.func77, Tryz.ntmps77
    go_wp2
    go_ret
    exact ⟨rfl, rfl⟩

/-- one limb in a new block -/
theorem U.one (w : World) (x : Nat) (T : TypeId) (hx : x < 2 ^ 32) : U (w.alloc (.cells #[.int .u32 (x : Int)] T)) (.slice (some ⟨w.heap.size, 0, none⟩) 1 1) x 1 :=
  ⟨_, 1, 1, _, rfl, Nat.le_refl _, by simp [maxLen], rd_one w .u32 x T, fun _ _ => hx, by simp [sm], Nat.le_refl _⟩
theorem ten_lt {i m : Nat} (h : 4 * i < 32 * m) : 10 ^ i < 2 ^ (32 * m) := Nat.lt_of_le_of_lt (ten_two i) ((Nat.pow_lt_pow_iff_right (by decide)).2 h)
def PoAns (n : Nat) (w : World) (e : Ending) (w' : World) : Prop := ∃ v, e = .returned v ∧ U w' v (10 ^ n) 400 ∧ Below w.heap.size w w'
set_option maxRecDepth 100000 in
set_option maxHeartbeats 1000000 in
theorem power_any (n : Nat) (w : World) (hn : n ≤ 3000) : Calls Tryz.prog 122 #[.int .i64 (n : Int)] w (PoAns n w) := by
  have H1 := Lib.hid (U.one w 1 72 (by decide))
  rw [show ((1 : Nat) : Int) = 1 from rfl] at H1
  have B1 := Lib.hid ((Below.refl w.heap.size w).alloc (Nat.le_refl _) (.cells #[.int .u32 1] 72))
  have HT := Lib.hid (fun v W i (hi : i ≤ 3000) (h : U W v (10 ^ i) 400) => by
    have := rtimes_u v _ (10 ^ i) 10 400 1 _ (h.alloc _) (U.one W 10 72 (by decide)) (by omega) (by omega)
    rw [← Nat.pow_succ, show ((10 : Nat) : Int) = 10 from rfl] at this
    exact this)
  go_enter Tryz.func122, Tryz.ntmps122
  go_wp2_with fail
  go_loopw [3, 4] (fun s3 s4 wr => ∃ i : Nat, i ≤ n ∧ s4 = .int .i64 (i : Int) ∧ Hid (U wr s3 (10 ^ i) 400 ∧ Below w.heap.size w wr)) (fun _ s4 _ => n - (intOf s4).toNat)
  case atStart => exact ⟨0, Nat.zero_le _, rfl, Lib.hid ⟨H1.out.wide (by omega), B1.out⟩⟩
  case round =>
    obtain ⟨i, hi, rfl, hH⟩ := hrel
    by_cases hlt : i < n
    · have HM := Lib.hid (fun W => HT.out u3 W i (by omega))
      go_wp2_with fail
      refine (HM.out _ hH.out.1).mono ?_
      rintro e w1 ⟨v1, rfl, hN1, _, hb1⟩
      have B2 := Lib.hid ((hH.out.2.alloc hH.out.2.size _).trans (hb1.mono (by have := hH.out.2.size; rw [hsz]; omega)))
      have U2 := Lib.hid (U.of (m := 400) hN1 (ten_lt (m := 400) (by omega)))
      clear hb1 hN1
      go_wp2_with fail
      go_roundw
      case rel => exact ⟨i + 1, by omega, by go_num, Lib.hid ⟨U2.out, B2.out⟩⟩
      case measure => simp [intOf]; omega
    · obtain rfl : i = n := by omega
      go_wp2_with fail
      go_ret
      exact ⟨_, rfl, hH.out.1, hH.out.2⟩
end Go.Proofs.YtljbnnpmnoejeaaGreatDoor.nn
namespace Go.Proofs.YtljbnnpmnoejeaaGreatDoor.nn
open Go.RowKit

theorem and_one (Q : Nat) (hQ : Q < 18446744073709551616) : bits .and .u64 (Q : Int) 1 = ((Q % 2 : Nat) : Int) := by
  have := u64_and_nat Q 1 hQ (by decide)
  rw [show ((1 : Nat) : Int) = 1 from rfl] at this
  rw [this, Nat.and_one_is_mod]
def RneAns (X Y : Nat) (w : World) (e : Ending) (w' : World) : Prop :=
  ∃ b, Near (X * 2 ^ e74) Y b ∧ e = .returned (.tuple #[.int .u64 (neV b : Int), .int .i64 (roE b : Int)]) ∧ Below w.heap.size w w'
theorem ro_yes {b : Nat} (h : b < inf) : neV b = b ∧ roE b = 0 := ⟨if_pos h, if_pos h⟩
theorem ro_no {b : Nat} (h : inf ≤ b) : neV b = 0 ∧ roE b = 8 := ⟨if_neg (by omega), if_neg (by omega)⟩
theorem ret_ui {a b : Int} {c d : Int} (h : a = b) (g : c = d) : Ending.returned (.tuple #[.int .u64 a, .int .i64 c]) = .returned (.tuple #[.int .u64 b, .int .i64 d]) := by rw [h, g]

set_option maxRecDepth 100000 in
set_option maxHeartbeats 4000000 in
theorem rnearest_any (v y : Value) (X Y m m' : Nat) (w : World) (hv : U w v X m) (hy : U w y Y m') (hm : m ≤ 900) (hm' : m' ≤ 900) (hX : X < 2 ^ b20) (hY : Y < 2 ^ b20) (hX0 : X ≠ 0) (h0 : 0 < Y) :
    Calls Tryz.prog 123 #[v, y] w (RneAns X Y w) := by
  have HV := Lib.hid (And.intro hv hy)
  have lx := bl_le hX
  have ly := bl_le hY
  rw [b20_eq] at lx ly
  obtain ⟨x1, x2⟩ := bl_ge hX0
  obtain ⟨y1, y2⟩ := bl_ge (show Y ≠ 0 by omega)
  obtain ⟨g1, g2⟩ := ge2_bits x1 x2 (bl_lt X) y1 y2 (bl_lt Y)
  have HBX := Lib.hid (rbits_u v X m w hv (by omega))
  have HBY := Lib.hid (fun W (hW : Below w.heap.size w W) => rbits_u y Y m' W (hy.below hW) (by omega))
  obtain ⟨a, ha⟩ : ∃ a, bl X = a := ⟨_, rfl⟩
  obtain ⟨b0, hb0⟩ : ∃ b, bl Y = b := ⟨_, rfl⟩
  rw [ha] at g1 g2 lx HBX
  rw [hb0] at g1 g2 ly HBY
  obtain ⟨n, hn⟩ : ∃ n : Int, (a : Int) - (b0 : Int) = n := ⟨_, rfl⟩
  have hn1 : -20000 ≤ n := by omega
  have hn2 : n ≤ 20000 := by omega
  rw [show (a : Int) - (b0 : Int) - 1 = n - 1 by omega] at g1
  rw [show (a : Int) - (b0 : Int) + 1 = n + 1 by omega] at g2
  obtain ⟨B, hB⟩ : ∃ B : Bool, ge2 X Y n ↔ B = true := by
    by_cases h : ge2 X Y n
    · exact ⟨true, fun _ => rfl, fun _ => h⟩
    · exact ⟨false, fun g => absurd g h, fun g => by cases g⟩
  have HO := Lib.hid (fun W (hW : Below w.heap.size w W) => over_any v y X Y m m' n B W (hv.below hW) (hy.below hW) (by omega) (by omega) (by omega) (by omega) hB)
  obtain ⟨h, hh⟩ : ∃ h : Int, h = if B = true then n else n - 1 := ⟨_, rfl⟩
  have hi : HiIs X Y h := by
    right
    refine ⟨hX0, ?_⟩
    cases B with
    | true => rw [hh, if_pos rfl]; exact ⟨hB.2 rfl, g2⟩
    | false =>
      rw [hh, if_neg (by decide)]
      refine ⟨g1, fun g => ?_⟩
      rw [Int.sub_add_cancel] at g
      have := hB.1 g
      cases this
  obtain ⟨u, hu⟩ : ∃ u, max (h - 52) (-1074) = u := ⟨_, rfl⟩
  have hU := unit_of h0 hi hu
  have hlu := hU.least
  have hhb : -20001 ≤ h ∧ h ≤ 20000 := by rw [hh]; split <;> omega
  have hup : u ≤ 20001 := by omega
  obtain ⟨X', hX'⟩ : ∃ X', X' = X * 2 ^ (-u).toNat := ⟨_, rfl⟩
  obtain ⟨Y', hY'⟩ : ∃ Y', Y' = Y * 2 ^ u.toNat := ⟨_, rfl⟩
  obtain ⟨k, hk⟩ : ∃ k, (u + 1074).toNat = k := ⟨_, rfl⟩
  have hk0 : u + 1074 = (k : Int) := by omega
  have hY0 : 0 < Y' := by rw [hY']; exact Nat.mul_pos h0 (Nat.two_pow_pos _)
  have key := fun up hq => near_unit h0 hU hX' hY' (up := up) hq
  rw [hk] at key
  obtain ⟨Q, hQ⟩ : ∃ Q, X' / Y' = Q := ⟨_, rfl⟩
  obtain ⟨R, hR⟩ : ∃ R, X' % Y' = R := ⟨_, rfl⟩
  rw [hQ, hR] at key
  obtain ⟨up, hup2⟩ : ∃ up, up = if Y' < 2 * R ∨ (2 * R = Y' ∧ Q % 2 = 1) then 1 else 0 := ⟨_, rfl⟩
  obtain ⟨q1, q2, near⟩ := key up hup2
  have hu01 : up ≤ 1 := by rw [hup2]; split <;> omega
  have hXq : X' < Y' * 2 ^ 63 := by
    have h1 : X' < 2 * h52 * Y' := by rw [← hQ] at q1; exact (Nat.div_lt_iff_lt_mul hY0).1 q1
    have h2 : 2 * h52 ≤ 2 ^ 63 := by decide
    rw [Nat.mul_comm]
    exact Nat.lt_of_lt_of_le h1 (Nat.mul_le_mul_right Y' h2)
  have HQ := Lib.hid (fun v1 u1 W (h1 : U W v1 X' 1600) (h2 : U W u1 Y' 1600) => quot_any v1 u1 X' Y' 1600 1600 W h1 h2 (by omega) (by omega) hY0 hXq)
  unfold QuAns at HQ
  rw [hQ, hR] at HQ
  obtain ⟨c, hc⟩ : ∃ c, cm (R * 2) Y' = c := ⟨_, rfl⟩
  have cases4 : (c = 1 ∧ up = 1) ∨ (c = 0 ∧ Q % 2 = 1 ∧ up = 1) ∨ (c = 0 ∧ Q % 2 = 0 ∧ up = 0) ∨ (c = -1 ∧ up = 0) := by
    rcases Nat.lt_trichotomy (R * 2) Y' with g | g | g
    · rw [cm_lt g] at hc
      rw [if_neg (by omega)] at hup2
      exact .inr (.inr (.inr ⟨hc.symm, hup2⟩))
    · rw [cm_eq g] at hc
      by_cases par : Q % 2 = 1
      · rw [if_pos (by omega)] at hup2
        exact .inr (.inl ⟨hc.symm, par, hup2⟩)
      · rw [if_neg (by omega)] at hup2
        exact .inr (.inr (.inl ⟨hc.symm, by omega, hup2⟩))
    · rw [cm_gt g] at hc
      rw [if_pos (by omega)] at hup2
      exact .inl ⟨hc.symm, hup2⟩
  have HC := Lib.hid (fun v1 u1 W (h1 : U W v1 (R * 2) 1700) (h2 : U W u1 Y' 1600) => rcmp_u v1 u1 (R * 2) Y' 1700 1600 W h1 h2 (by omega) (by omega))
  rw [hc] at HC
  have HTW := Lib.hid (fun n W (hn : n ≤ 100000) => (two_any n W hn : Calls _ _ _ _ (TwAns n W)))
  have HR2 := Lib.hid (fun v1 W (h : U W v1 R 1600) => by
    have := rtimes_u v1 _ R 2 1600 1 _ (h.alloc _) (U.one W 2 72 (by decide)) (by omega) (by omega)
    rw [show ((2 : Nat) : Int) = 2 from rfl] at this
    exact this)
  obtain ⟨C, hC⟩ : ∃ C, Q + up = C := ⟨_, rfl⟩
  obtain ⟨b, hb⟩ : ∃ b, k * h52 + C = b := ⟨_, rfl⟩
  rw [hC, hb] at near
  have HN := Lib.hid near
  have hb2 : b = k * 4503599627370496 + C := hb.symm
  have q1' : Q < 9007199254740992 := q1
  have q2' : u = -1074 ∨ 4503599627370496 ≤ Q := q2
  have hQA := and_one Q (by omega)
  obtain ⟨qi, hqi⟩ : ∃ qi : Int, (Q : Int) = qi := ⟨_, rfl⟩
  obtain ⟨ci, hci⟩ : ∃ ci : Int, (C : Int) = ci := ⟨_, rfl⟩
  have hcu : ci = qi + (up : Int) := by omega
  have hbi : (b : Int) = (k : Int) * 4503599627370496 + ci := by omega
  have qi1 : qi < 9007199254740992 := by omega
  have qi0 : 0 ≤ qi := by omega
  have qi2 : u = -1074 ∨ 4503599627370496 ≤ qi := by omega
  rw [hqi] at HQ hQA
  have HI : inf = 9218868437227405312 := inf_eq
  have HII := Lib.hid HI
  have hmY : ∀ W t, 0 ≤ u → U W t (2 ^ u.toNat) (u.toNat / 32 + 1) → Below w.heap.size w W → Calls Tryz.prog 42 #[y, t] W (UA W Y' 1600) := fun W t hu0 ht hW => by
    have := rtimes_u y t Y (2 ^ u.toNat) m' (u.toNat / 32 + 1) W (hy.below hW) ht (by omega) (by omega)
    rw [← hY'] at this
    exact this.mono fun e w' ⟨v, h1, h2, h3, h4⟩ => ⟨v, h1, h2, h3.wide (by omega), h4⟩
  have hmX : ∀ W t, U W t (2 ^ (-u).toNat) ((-u).toNat / 32 + 1) → Below w.heap.size w W → Calls Tryz.prog 42 #[v, t] W (UA W X' 1600) := fun W t ht hW => by
    have := rtimes_u v t X (2 ^ (-u).toNat) m ((-u).toNat / 32 + 1) W (hv.below hW) ht (by omega) (by omega)
    rw [← hX'] at this
    exact this.mono fun e w' ⟨v, h1, h2, h3, h4⟩ => ⟨v, h1, h2, h3.wide (by omega), h4⟩
  have HMY := Lib.hid hmY
  have HMX := Lib.hid hmX
  have HXX : Hid (0 ≤ u → X' = X) := Lib.hid fun hu0 => by rw [hX', show (-u).toNat = 0 by omega, Nat.pow_zero, Nat.mul_one]
  have HYY : Hid (u < 0 → Y' = Y) := Lib.hid fun hu0 => by rw [hY', show u.toNat = 0 by omega, Nat.pow_zero, Nat.mul_one]
  clear hmY hmX HI q1 q2 near hb key hX' hY' hk hX hY hv hy x1 x2 y1 y2 g1 g2 hB hi hU hXq hup2 hc hQ hR ha hb0 hX0 h0 hY0 hb2 q1' q2' hqi hci hC
  cases B
  all_goals
    first
      | rw [if_pos rfl] at hh
      | rw [if_neg (by decide)] at hh
    subst hh
    clear hhb
    go_enter Tryz.func123, Tryz.ntmps123
    go_wp2_with fail
    refine HBX.out.mono ?_
    rintro e w1 ⟨rfl, hb1⟩
    have B1 := Lib.hid hb1
    clear hb1
    go_wp2_with fail
    refine (HBY.out _ B1.out).mono ?_
    rintro e w2 ⟨rfl, hb1⟩
    have B2 := Lib.hid (B1.out.trans (hb1.mono B1.out.size))
    clear hb1
    go_wp2_with fail
    refine (HO.out _ B2.out).mono ?_
    rintro e w3 ⟨rfl, hb1⟩
    have B3 := Lib.hid (B2.out.trans (hb1.mono B2.out.size))
    clear hb1
    by_cases hu0 : 0 ≤ u
    · obtain ⟨un, hun⟩ : ∃ un : Nat, u = (un : Int) := ⟨u.toNat, by omega⟩
      have T4 := Lib.hid (fun W => HTW.out u.toNat W (by omega))
      have eun : (u.toNat : Int) = u := by omega
      rw [eun] at T4
      clear eun hun
      go_wp2_with fail
      refine (T4.out _).mono ?_
      rintro e w4 ⟨t4, rfl, hu4, hb1⟩
      have B4 := Lib.hid (B3.out.trans (hb1.mono B3.out.size))
      have M4 := Lib.hid (HMY.out _ _ hu0 hu4 B4.out)
      clear hb1 hu4
      go_wp2_with fail
      refine M4.out.mono ?_
      rintro e w5 ⟨v5, rfl, _, hu5, hb1⟩
      have B5 := Lib.hid (B4.out.trans (hb1.mono B4.out.size))
      have U5 := Lib.hid (show U w5 v X' 1600 ∧ U w5 v5 Y' 1600 from ⟨by rw [HXX.out hu0]; exact (HV.out.1.below B5.out).wide (by omega), hu5⟩)
      clear hb1 hu5
      go_wp2_with fail
      refine (HQ.out _ _ _ U5.out.1 U5.out.2).mono ?_
      rintro e w6 ⟨v6, rfl, hu6, hb1⟩
      have B6 := Lib.hid (B5.out.trans (hb1.mono B5.out.size))
      have U6 := Lib.hid (And.intro hu6 (U5.out.2.below hb1))
      have R6 := Lib.hid (HR2.out v6 _ U6.out.1)
      clear hb1 hu6
      go_wp2_with fail
      refine R6.out.mono ?_
      rintro e w7 ⟨v7, rfl, _, hu7, hb1⟩
      have B7 := Lib.hid ((B6.out.alloc B6.out.size (.cells #[.int .u32 2] 72)).trans (hb1.mono (by have := B6.out.size; rw [hsz]; omega)))
      have U7 := Lib.hid (And.intro (hu7.wide (by omega : 1600 + 1 + 1 ≤ 1700)) ((U6.out.2.alloc (.cells #[.int .u32 2] 72)).below hb1))
      clear hb1 hu7
      go_wp2_with fail
      refine (HC.out _ _ _ U7.out.1 U7.out.2).mono ?_
      rintro e w8 ⟨rfl, hb1⟩
      have B8 := Lib.hid (B7.out.trans (hb1.mono B7.out.size))
      clear hb1
      rcases cases4 with ⟨rfl, rfl⟩ | ⟨rfl, par, rfl⟩ | ⟨rfl, par, rfl⟩ | ⟨rfl, rfl⟩
      · have k1 : qi + 1 = ci := by omega
        clear hQA
        clear hcu
        by_cases c1 : ci = 9007199254740992
        · subst c1
          by_cases c2 : 970 < u
          · have E := Lib.hid (ro_no (b := b) (by rw [HII.out]; omega))
            first
              | (exfalso; omega)
              | (go_wp2_with fail; go_ret2; refine ⟨b, HN.out, ?_, B8.out⟩; rw [E.out.1, E.out.2]; exact ret_ui rfl rfl)
          · have c3 : b < inf := by rw [HII.out]; omega
            have E := Lib.hid (ro_yes c3)
            obtain ⟨k2, hk2⟩ : ∃ k2 : Nat, k2 = k + 1 := ⟨_, rfl⟩
            have k3 : u + 1 + 1074 = (k2 : Int) := by omega
            have k4 : k2 ≤ 2046 := by omega
            clear c3
            first
              | (exfalso; omega)
              | (go_wp2_with fail; go_ret2; refine ⟨b, HN.out, ?_, B8.out⟩; rw [E.out.1, E.out.2]; exact ret_ui (by omega) rfl)
        · by_cases c2 : ci < 4503599627370496
          · have hkz : k = 0 := by omega
            have c3 : b < inf := by rw [HII.out]; omega
            have E := Lib.hid (ro_yes c3)
            clear c3 hkz
            first
              | (exfalso; omega)
              | (go_wp2_with fail; go_ret2; refine ⟨b, HN.out, ?_, B8.out⟩; rw [E.out.1, E.out.2]; exact ret_ui (by omega) rfl)
          · have f1 : (ci == 9007199254740992) = false := by rw [beq_eq_false_iff_ne]; omega
            have f2 : decide (ci < 4503599627370496) = false := decide_eq_false (by omega)
            have c5 : k ≤ 2045 ∨ 971 < u := by omega
            have c6 : 971 < u → inf ≤ b := fun g => by rw [HII.out]; omega
            have c7 : u ≤ 971 → b < inf := fun g => by rw [HII.out]; omega
            have C6 := Lib.hid (And.intro c6 c7)
            clear c1 c2 c6 c7
            by_cases c4 : 971 < u
            · have E := Lib.hid (ro_no (b := b) (C6.out.1 c4))
              first
                | (exfalso; omega)
                | (go_wp2_with fail; go_ret2; refine ⟨b, HN.out, ?_, B8.out⟩; rw [E.out.1, E.out.2]; exact ret_ui rfl rfl)
            · have E := Lib.hid (ro_yes (C6.out.2 (by omega)))
              have k4 : k ≤ 2045 := by omega
              clear c5
              first
                | (exfalso; omega)
                | (go_wp2_with fail; go_ret2; refine ⟨b, HN.out, ?_, B8.out⟩; rw [E.out.1, E.out.2]; exact ret_ui (by omega) rfl)
      · have k1 : qi + 1 = ci := by omega
        rw [par] at hQA
        clear hcu
        by_cases c1 : ci = 9007199254740992
        · subst c1
          by_cases c2 : 970 < u
          · have E := Lib.hid (ro_no (b := b) (by rw [HII.out]; omega))
            first
              | (exfalso; omega)
              | (go_wp2_with fail; go_ret2; refine ⟨b, HN.out, ?_, B8.out⟩; rw [E.out.1, E.out.2]; exact ret_ui rfl rfl)
          · have c3 : b < inf := by rw [HII.out]; omega
            have E := Lib.hid (ro_yes c3)
            obtain ⟨k2, hk2⟩ : ∃ k2 : Nat, k2 = k + 1 := ⟨_, rfl⟩
            have k3 : u + 1 + 1074 = (k2 : Int) := by omega
            have k4 : k2 ≤ 2046 := by omega
            clear c3
            first
              | (exfalso; omega)
              | (go_wp2_with fail; go_ret2; refine ⟨b, HN.out, ?_, B8.out⟩; rw [E.out.1, E.out.2]; exact ret_ui (by omega) rfl)
        · by_cases c2 : ci < 4503599627370496
          · have hkz : k = 0 := by omega
            have c3 : b < inf := by rw [HII.out]; omega
            have E := Lib.hid (ro_yes c3)
            clear c3 hkz
            first
              | (exfalso; omega)
              | (go_wp2_with fail; go_ret2; refine ⟨b, HN.out, ?_, B8.out⟩; rw [E.out.1, E.out.2]; exact ret_ui (by omega) rfl)
          · have f1 : (ci == 9007199254740992) = false := by rw [beq_eq_false_iff_ne]; omega
            have f2 : decide (ci < 4503599627370496) = false := decide_eq_false (by omega)
            have c5 : k ≤ 2045 ∨ 971 < u := by omega
            have c6 : 971 < u → inf ≤ b := fun g => by rw [HII.out]; omega
            have c7 : u ≤ 971 → b < inf := fun g => by rw [HII.out]; omega
            have C6 := Lib.hid (And.intro c6 c7)
            clear c1 c2 c6 c7
            by_cases c4 : 971 < u
            · have E := Lib.hid (ro_no (b := b) (C6.out.1 c4))
              first
                | (exfalso; omega)
                | (go_wp2_with fail; go_ret2; refine ⟨b, HN.out, ?_, B8.out⟩; rw [E.out.1, E.out.2]; exact ret_ui rfl rfl)
            · have E := Lib.hid (ro_yes (C6.out.2 (by omega)))
              have k4 : k ≤ 2045 := by omega
              clear c5
              first
                | (exfalso; omega)
                | (go_wp2_with fail; go_ret2; refine ⟨b, HN.out, ?_, B8.out⟩; rw [E.out.1, E.out.2]; exact ret_ui (by omega) rfl)
      · obtain rfl : ci = qi := by omega
        rw [par] at hQA
        clear hcu
        by_cases c1 : ci = 9007199254740992
        · subst c1
          by_cases c2 : 970 < u
          · have E := Lib.hid (ro_no (b := b) (by rw [HII.out]; omega))
            first
              | (exfalso; omega)
              | (go_wp2_with fail; go_ret2; refine ⟨b, HN.out, ?_, B8.out⟩; rw [E.out.1, E.out.2]; exact ret_ui rfl rfl)
          · have c3 : b < inf := by rw [HII.out]; omega
            have E := Lib.hid (ro_yes c3)
            obtain ⟨k2, hk2⟩ : ∃ k2 : Nat, k2 = k + 1 := ⟨_, rfl⟩
            have k3 : u + 1 + 1074 = (k2 : Int) := by omega
            have k4 : k2 ≤ 2046 := by omega
            clear c3
            first
              | (exfalso; omega)
              | (go_wp2_with fail; go_ret2; refine ⟨b, HN.out, ?_, B8.out⟩; rw [E.out.1, E.out.2]; exact ret_ui (by omega) rfl)
        · by_cases c2 : ci < 4503599627370496
          · have hkz : k = 0 := by omega
            have c3 : b < inf := by rw [HII.out]; omega
            have E := Lib.hid (ro_yes c3)
            clear c3 hkz
            first
              | (exfalso; omega)
              | (go_wp2_with fail; go_ret2; refine ⟨b, HN.out, ?_, B8.out⟩; rw [E.out.1, E.out.2]; exact ret_ui (by omega) rfl)
          · have f1 : (ci == 9007199254740992) = false := by rw [beq_eq_false_iff_ne]; omega
            have f2 : decide (ci < 4503599627370496) = false := decide_eq_false (by omega)
            have c5 : k ≤ 2045 ∨ 971 < u := by omega
            have c6 : 971 < u → inf ≤ b := fun g => by rw [HII.out]; omega
            have c7 : u ≤ 971 → b < inf := fun g => by rw [HII.out]; omega
            have C6 := Lib.hid (And.intro c6 c7)
            clear c1 c2 c6 c7
            by_cases c4 : 971 < u
            · have E := Lib.hid (ro_no (b := b) (C6.out.1 c4))
              first
                | (exfalso; omega)
                | (go_wp2_with fail; go_ret2; refine ⟨b, HN.out, ?_, B8.out⟩; rw [E.out.1, E.out.2]; exact ret_ui rfl rfl)
            · have E := Lib.hid (ro_yes (C6.out.2 (by omega)))
              have k4 : k ≤ 2045 := by omega
              clear c5
              first
                | (exfalso; omega)
                | (go_wp2_with fail; go_ret2; refine ⟨b, HN.out, ?_, B8.out⟩; rw [E.out.1, E.out.2]; exact ret_ui (by omega) rfl)
      · obtain rfl : ci = qi := by omega
        clear hQA
        clear hcu
        by_cases c1 : ci = 9007199254740992
        · subst c1
          by_cases c2 : 970 < u
          · have E := Lib.hid (ro_no (b := b) (by rw [HII.out]; omega))
            first
              | (exfalso; omega)
              | (go_wp2_with fail; go_ret2; refine ⟨b, HN.out, ?_, B8.out⟩; rw [E.out.1, E.out.2]; exact ret_ui rfl rfl)
          · have c3 : b < inf := by rw [HII.out]; omega
            have E := Lib.hid (ro_yes c3)
            obtain ⟨k2, hk2⟩ : ∃ k2 : Nat, k2 = k + 1 := ⟨_, rfl⟩
            have k3 : u + 1 + 1074 = (k2 : Int) := by omega
            have k4 : k2 ≤ 2046 := by omega
            clear c3
            first
              | (exfalso; omega)
              | (go_wp2_with fail; go_ret2; refine ⟨b, HN.out, ?_, B8.out⟩; rw [E.out.1, E.out.2]; exact ret_ui (by omega) rfl)
        · by_cases c2 : ci < 4503599627370496
          · have hkz : k = 0 := by omega
            have c3 : b < inf := by rw [HII.out]; omega
            have E := Lib.hid (ro_yes c3)
            clear c3 hkz
            first
              | (exfalso; omega)
              | (go_wp2_with fail; go_ret2; refine ⟨b, HN.out, ?_, B8.out⟩; rw [E.out.1, E.out.2]; exact ret_ui (by omega) rfl)
          · have f1 : (ci == 9007199254740992) = false := by rw [beq_eq_false_iff_ne]; omega
            have f2 : decide (ci < 4503599627370496) = false := decide_eq_false (by omega)
            have c5 : k ≤ 2045 ∨ 971 < u := by omega
            have c6 : 971 < u → inf ≤ b := fun g => by rw [HII.out]; omega
            have c7 : u ≤ 971 → b < inf := fun g => by rw [HII.out]; omega
            have C6 := Lib.hid (And.intro c6 c7)
            clear c1 c2 c6 c7
            by_cases c4 : 971 < u
            · have E := Lib.hid (ro_no (b := b) (C6.out.1 c4))
              first
                | (exfalso; omega)
                | (go_wp2_with fail; go_ret2; refine ⟨b, HN.out, ?_, B8.out⟩; rw [E.out.1, E.out.2]; exact ret_ui rfl rfl)
            · have E := Lib.hid (ro_yes (C6.out.2 (by omega)))
              have k4 : k ≤ 2045 := by omega
              clear c5
              first
                | (exfalso; omega)
                | (go_wp2_with fail; go_ret2; refine ⟨b, HN.out, ?_, B8.out⟩; rw [E.out.1, E.out.2]; exact ret_ui (by omega) rfl)
    · have hu1 : u < 0 := by omega
      have T4 := Lib.hid (fun W => HTW.out (-u).toNat W (by omega))
      have eun : ((-u).toNat : Int) = -u := by omega
      rw [eun] at T4
      clear eun
      go_wp2_with fail
      refine (T4.out _).mono ?_
      rintro e w4 ⟨t4, rfl, hu4, hb1⟩
      have B4 := Lib.hid (B3.out.trans (hb1.mono B3.out.size))
      have M4 := Lib.hid (HMX.out _ _ hu4 B4.out)
      clear hb1 hu4
      go_wp2_with fail
      refine M4.out.mono ?_
      rintro e w5 ⟨v5, rfl, _, hu5, hb1⟩
      have B5 := Lib.hid (B4.out.trans (hb1.mono B4.out.size))
      have U5 := Lib.hid (show U w5 v5 X' 1600 ∧ U w5 y Y' 1600 from ⟨hu5, by rw [HYY.out hu1]; exact (HV.out.2.below B5.out).wide (by omega)⟩)
      clear hb1 hu5
      go_wp2_with fail
      refine (HQ.out _ _ _ U5.out.1 U5.out.2).mono ?_
      rintro e w6 ⟨v6, rfl, hu6, hb1⟩
      have B6 := Lib.hid (B5.out.trans (hb1.mono B5.out.size))
      have U6 := Lib.hid (And.intro hu6 (U5.out.2.below hb1))
      have R6 := Lib.hid (HR2.out v6 _ U6.out.1)
      clear hb1 hu6
      go_wp2_with fail
      refine R6.out.mono ?_
      rintro e w7 ⟨v7, rfl, _, hu7, hb1⟩
      have B7 := Lib.hid ((B6.out.alloc B6.out.size (.cells #[.int .u32 2] 72)).trans (hb1.mono (by have := B6.out.size; rw [hsz]; omega)))
      have U7 := Lib.hid (And.intro (hu7.wide (by omega : 1600 + 1 + 1 ≤ 1700)) ((U6.out.2.alloc (.cells #[.int .u32 2] 72)).below hb1))
      clear hb1 hu7
      go_wp2_with fail
      refine (HC.out _ _ _ U7.out.1 U7.out.2).mono ?_
      rintro e w8 ⟨rfl, hb1⟩
      have B8 := Lib.hid (B7.out.trans (hb1.mono B7.out.size))
      clear hb1
      rcases cases4 with ⟨rfl, rfl⟩ | ⟨rfl, par, rfl⟩ | ⟨rfl, par, rfl⟩ | ⟨rfl, rfl⟩
      · have k1 : qi + 1 = ci := by omega
        clear hQA
        clear hcu
        by_cases c1 : ci = 9007199254740992
        · subst c1
          by_cases c2 : 970 < u
          · have E := Lib.hid (ro_no (b := b) (by rw [HII.out]; omega))
            first
              | (exfalso; omega)
              | (go_wp2_with fail; go_ret2; refine ⟨b, HN.out, ?_, B8.out⟩; rw [E.out.1, E.out.2]; exact ret_ui rfl rfl)
          · have c3 : b < inf := by rw [HII.out]; omega
            have E := Lib.hid (ro_yes c3)
            obtain ⟨k2, hk2⟩ : ∃ k2 : Nat, k2 = k + 1 := ⟨_, rfl⟩
            have k3 : u + 1 + 1074 = (k2 : Int) := by omega
            have k4 : k2 ≤ 2046 := by omega
            clear c3
            first
              | (exfalso; omega)
              | (go_wp2_with fail; go_ret2; refine ⟨b, HN.out, ?_, B8.out⟩; rw [E.out.1, E.out.2]; exact ret_ui (by omega) rfl)
        · by_cases c2 : ci < 4503599627370496
          · have hkz : k = 0 := by omega
            have c3 : b < inf := by rw [HII.out]; omega
            have E := Lib.hid (ro_yes c3)
            clear c3 hkz
            first
              | (exfalso; omega)
              | (go_wp2_with fail; go_ret2; refine ⟨b, HN.out, ?_, B8.out⟩; rw [E.out.1, E.out.2]; exact ret_ui (by omega) rfl)
          · have f1 : (ci == 9007199254740992) = false := by rw [beq_eq_false_iff_ne]; omega
            have f2 : decide (ci < 4503599627370496) = false := decide_eq_false (by omega)
            have c5 : k ≤ 2045 ∨ 971 < u := by omega
            have c6 : 971 < u → inf ≤ b := fun g => by rw [HII.out]; omega
            have c7 : u ≤ 971 → b < inf := fun g => by rw [HII.out]; omega
            have C6 := Lib.hid (And.intro c6 c7)
            clear c1 c2 c6 c7
            by_cases c4 : 971 < u
            · have E := Lib.hid (ro_no (b := b) (C6.out.1 c4))
              first
                | (exfalso; omega)
                | (go_wp2_with fail; go_ret2; refine ⟨b, HN.out, ?_, B8.out⟩; rw [E.out.1, E.out.2]; exact ret_ui rfl rfl)
            · have E := Lib.hid (ro_yes (C6.out.2 (by omega)))
              have k4 : k ≤ 2045 := by omega
              clear c5
              first
                | (exfalso; omega)
                | (go_wp2_with fail; go_ret2; refine ⟨b, HN.out, ?_, B8.out⟩; rw [E.out.1, E.out.2]; exact ret_ui (by omega) rfl)
      · have k1 : qi + 1 = ci := by omega
        rw [par] at hQA
        clear hcu
        by_cases c1 : ci = 9007199254740992
        · subst c1
          by_cases c2 : 970 < u
          · have E := Lib.hid (ro_no (b := b) (by rw [HII.out]; omega))
            first
              | (exfalso; omega)
              | (go_wp2_with fail; go_ret2; refine ⟨b, HN.out, ?_, B8.out⟩; rw [E.out.1, E.out.2]; exact ret_ui rfl rfl)
          · have c3 : b < inf := by rw [HII.out]; omega
            have E := Lib.hid (ro_yes c3)
            obtain ⟨k2, hk2⟩ : ∃ k2 : Nat, k2 = k + 1 := ⟨_, rfl⟩
            have k3 : u + 1 + 1074 = (k2 : Int) := by omega
            have k4 : k2 ≤ 2046 := by omega
            clear c3
            first
              | (exfalso; omega)
              | (go_wp2_with fail; go_ret2; refine ⟨b, HN.out, ?_, B8.out⟩; rw [E.out.1, E.out.2]; exact ret_ui (by omega) rfl)
        · by_cases c2 : ci < 4503599627370496
          · have hkz : k = 0 := by omega
            have c3 : b < inf := by rw [HII.out]; omega
            have E := Lib.hid (ro_yes c3)
            clear c3 hkz
            first
              | (exfalso; omega)
              | (go_wp2_with fail; go_ret2; refine ⟨b, HN.out, ?_, B8.out⟩; rw [E.out.1, E.out.2]; exact ret_ui (by omega) rfl)
          · have f1 : (ci == 9007199254740992) = false := by rw [beq_eq_false_iff_ne]; omega
            have f2 : decide (ci < 4503599627370496) = false := decide_eq_false (by omega)
            have c5 : k ≤ 2045 ∨ 971 < u := by omega
            have c6 : 971 < u → inf ≤ b := fun g => by rw [HII.out]; omega
            have c7 : u ≤ 971 → b < inf := fun g => by rw [HII.out]; omega
            have C6 := Lib.hid (And.intro c6 c7)
            clear c1 c2 c6 c7
            by_cases c4 : 971 < u
            · have E := Lib.hid (ro_no (b := b) (C6.out.1 c4))
              first
                | (exfalso; omega)
                | (go_wp2_with fail; go_ret2; refine ⟨b, HN.out, ?_, B8.out⟩; rw [E.out.1, E.out.2]; exact ret_ui rfl rfl)
            · have E := Lib.hid (ro_yes (C6.out.2 (by omega)))
              have k4 : k ≤ 2045 := by omega
              clear c5
              first
                | (exfalso; omega)
                | (go_wp2_with fail; go_ret2; refine ⟨b, HN.out, ?_, B8.out⟩; rw [E.out.1, E.out.2]; exact ret_ui (by omega) rfl)
      · obtain rfl : ci = qi := by omega
        rw [par] at hQA
        clear hcu
        by_cases c1 : ci = 9007199254740992
        · subst c1
          by_cases c2 : 970 < u
          · have E := Lib.hid (ro_no (b := b) (by rw [HII.out]; omega))
            first
              | (exfalso; omega)
              | (go_wp2_with fail; go_ret2; refine ⟨b, HN.out, ?_, B8.out⟩; rw [E.out.1, E.out.2]; exact ret_ui rfl rfl)
          · have c3 : b < inf := by rw [HII.out]; omega
            have E := Lib.hid (ro_yes c3)
            obtain ⟨k2, hk2⟩ : ∃ k2 : Nat, k2 = k + 1 := ⟨_, rfl⟩
            have k3 : u + 1 + 1074 = (k2 : Int) := by omega
            have k4 : k2 ≤ 2046 := by omega
            clear c3
            first
              | (exfalso; omega)
              | (go_wp2_with fail; go_ret2; refine ⟨b, HN.out, ?_, B8.out⟩; rw [E.out.1, E.out.2]; exact ret_ui (by omega) rfl)
        · by_cases c2 : ci < 4503599627370496
          · have hkz : k = 0 := by omega
            have c3 : b < inf := by rw [HII.out]; omega
            have E := Lib.hid (ro_yes c3)
            clear c3 hkz
            first
              | (exfalso; omega)
              | (go_wp2_with fail; go_ret2; refine ⟨b, HN.out, ?_, B8.out⟩; rw [E.out.1, E.out.2]; exact ret_ui (by omega) rfl)
          · have f1 : (ci == 9007199254740992) = false := by rw [beq_eq_false_iff_ne]; omega
            have f2 : decide (ci < 4503599627370496) = false := decide_eq_false (by omega)
            have c5 : k ≤ 2045 ∨ 971 < u := by omega
            have c6 : 971 < u → inf ≤ b := fun g => by rw [HII.out]; omega
            have c7 : u ≤ 971 → b < inf := fun g => by rw [HII.out]; omega
            have C6 := Lib.hid (And.intro c6 c7)
            clear c1 c2 c6 c7
            by_cases c4 : 971 < u
            · have E := Lib.hid (ro_no (b := b) (C6.out.1 c4))
              first
                | (exfalso; omega)
                | (go_wp2_with fail; go_ret2; refine ⟨b, HN.out, ?_, B8.out⟩; rw [E.out.1, E.out.2]; exact ret_ui rfl rfl)
            · have E := Lib.hid (ro_yes (C6.out.2 (by omega)))
              have k4 : k ≤ 2045 := by omega
              clear c5
              first
                | (exfalso; omega)
                | (go_wp2_with fail; go_ret2; refine ⟨b, HN.out, ?_, B8.out⟩; rw [E.out.1, E.out.2]; exact ret_ui (by omega) rfl)
      · obtain rfl : ci = qi := by omega
        clear hQA
        clear hcu
        by_cases c1 : ci = 9007199254740992
        · subst c1
          by_cases c2 : 970 < u
          · have E := Lib.hid (ro_no (b := b) (by rw [HII.out]; omega))
            first
              | (exfalso; omega)
              | (go_wp2_with fail; go_ret2; refine ⟨b, HN.out, ?_, B8.out⟩; rw [E.out.1, E.out.2]; exact ret_ui rfl rfl)
          · have c3 : b < inf := by rw [HII.out]; omega
            have E := Lib.hid (ro_yes c3)
            obtain ⟨k2, hk2⟩ : ∃ k2 : Nat, k2 = k + 1 := ⟨_, rfl⟩
            have k3 : u + 1 + 1074 = (k2 : Int) := by omega
            have k4 : k2 ≤ 2046 := by omega
            clear c3
            first
              | (exfalso; omega)
              | (go_wp2_with fail; go_ret2; refine ⟨b, HN.out, ?_, B8.out⟩; rw [E.out.1, E.out.2]; exact ret_ui (by omega) rfl)
        · by_cases c2 : ci < 4503599627370496
          · have hkz : k = 0 := by omega
            have c3 : b < inf := by rw [HII.out]; omega
            have E := Lib.hid (ro_yes c3)
            clear c3 hkz
            first
              | (exfalso; omega)
              | (go_wp2_with fail; go_ret2; refine ⟨b, HN.out, ?_, B8.out⟩; rw [E.out.1, E.out.2]; exact ret_ui (by omega) rfl)
          · have f1 : (ci == 9007199254740992) = false := by rw [beq_eq_false_iff_ne]; omega
            have f2 : decide (ci < 4503599627370496) = false := decide_eq_false (by omega)
            have c5 : k ≤ 2045 ∨ 971 < u := by omega
            have c6 : 971 < u → inf ≤ b := fun g => by rw [HII.out]; omega
            have c7 : u ≤ 971 → b < inf := fun g => by rw [HII.out]; omega
            have C6 := Lib.hid (And.intro c6 c7)
            clear c1 c2 c6 c7
            by_cases c4 : 971 < u
            · have E := Lib.hid (ro_no (b := b) (C6.out.1 c4))
              first
                | (exfalso; omega)
                | (go_wp2_with fail; go_ret2; refine ⟨b, HN.out, ?_, B8.out⟩; rw [E.out.1, E.out.2]; exact ret_ui rfl rfl)
            · have E := Lib.hid (ro_yes (C6.out.2 (by omega)))
              have k4 : k ≤ 2045 := by omega
              clear c5
              first
                | (exfalso; omega)
                | (go_wp2_with fail; go_ret2; refine ⟨b, HN.out, ?_, B8.out⟩; rw [E.out.1, E.out.2]; exact ret_ui (by omega) rfl)
end Go.Proofs.YtljbnnpmnoejeaaGreatDoor.nn
namespace Go.Proofs.YtljbnnpmnoejeaaGreatDoor.nn
open Go.RowKit

theorem num_len0 {w : World} {A : Option Addr} {n c X : Nat} {f : Nat → Nat} (h : Num w A n c f X) : X = 0 ↔ n = 0 := by
  constructor
  · intro h0
    rcases Nat.eq_zero_or_pos n with h1 | h1
    · exact h1
    · have := sm_pos (Nat.two_pow_pos 32) h.trm (by omega)
      rw [h.val] at this
      omega
  · intro h0
    subst h0
    have := h.val
    simp [sm] at this
    exact this.symm
theorem near_zero (Y : Nat) (hY : 0 < Y) : Near (0 * 2 ^ e74) Y 0 := by
  have := near_self Y 0 hY
  rw [vf_zero, Nat.zero_mul] at this
  rw [Nat.zero_mul]
  exact this
theorem or_sB (neg : Bool) {m : Nat} (h : m < 9223372036854775808) : bits .or .u64 (sB neg : Int) (m : Int) = ((sB neg + m : Nat) : Int) := by
  rw [u64_or_nat _ _ (by unfold sB; split <;> omega) (by omega)]
  cases neg with
  | false => simp [sB]
  | true =>
    have h2 := Nat.two_pow_add_eq_or_of_lt (i := 63) (b := m) (by omega) 1
    rw [show (2 : Nat) ^ 63 * 1 = 9223372036854775808 by decide] at h2
    show (((9223372036854775808 ||| m : Nat)) : Int) = _
    rw [← h2]
    rfl

set_option maxRecDepth 100000 in
set_option maxHeartbeats 2000000 in
theorem rround_yes (neg : Bool) (s : ByteArray) (z : Int) (b : Nat) (w : World) (hr : rfE s z = 0) (hb : RN s z b) :
    Calls Tryz.prog 76 #[.bool neg, .string s, .int .i64 z] w (RoAns (roV neg b) (roE b) w) := by
  obtain ⟨h1, h2, h3, h4, h5⟩ := rf_zero hr
  obtain ⟨f1, f2⟩ := rX_fits hr
  have hF := rfromDigits_any s w (by unfold maxLen; omega)
  have hd : (dgs (bt s) s.size && decide (0 < s.size)) = true := by rw [h3, decide_eq_true h2]; rfl
  have e2 : fdR (bt s) s.size = dv (bt s) s.size := by unfold fdR; rw [if_neg (by omega), hd, if_pos rfl]
  have e3 : fdE (bt s) s.size = 0 := by unfold fdE; rw [if_neg (by omega), hd, if_pos rfl]
  rw [e2, e3] at hF
  have hdv : dv (bt s) s.size < 2 ^ (32 * 110) := Nat.lt_of_lt_of_le (dv_lt h3) (Nat.le_of_lt (ten_lt (m := 110) (by omega)))
  have HS := Lib.hid (fun W => rsign_any neg W)
  obtain ⟨D, hD⟩ : ∃ D, dv (bt s) s.size = D := ⟨_, rfl⟩
  have hX : rX s z = D * 10 ^ z.toNat := by unfold rX; rw [hD]
  rw [hD] at hF hdv
  by_cases hD0 : D = 0
  · have hb0 : b = 0 := by
      refine near_uniq (rY_pos z) hb ?_
      have : rX s z = 0 := by rw [hX, hD0, Nat.zero_mul]
      rw [this]
      exact near_zero _ (rY_pos z)
    have e5 : roV neg b = sB neg := by rw [hb0]; unfold roV; rw [if_pos (by decide)]; rfl
    have e6 : roE b = 0 := by rw [hb0]; unfold roE; rw [if_pos (by decide)]
    rw [e5, e6]
    rw [hD0] at hF
    have HF := Lib.hid hF
    clear hF e5 e6 hb0 hb hX hD hdv f1 f2 hr h3 hd e2 e3
    go_enter Tryz.func76, Tryz.ntmps76
    go_wp2_with fail
    refine HF.out.mono ?_
    rintro e w1 ⟨A1, n1, c1, f1, rfl, hN, hb1⟩
    obtain rfl := (num_len0 hN).1 rfl
    have B1 := Lib.hid hb1
    clear hN hb1
    go_wp2_with fail
    refine (HS.out _).mono ?_
    rintro e w' ⟨rfl, rfl⟩
    go_wp2_with fail
    go_ret2
    exact ⟨rfl, B1.out⟩
  · have hX0 : rX s z ≠ 0 := by
      rw [hX]
      have := Nat.mul_pos (show 0 < D by omega) (Nat.pow_pos (n := z.toNat) (show 0 < 10 by decide))
      omega
    have HNR := Lib.hid (fun v u W (hv : U W v (rX s z) 900) (hu : U W u (rY z) 900) => rnearest_any v u (rX s z) (rY z) 900 900 W hv hu (by omega) (by omega) f1 f2 hX0 (rY_pos z))
    have HU : Hid (∀ b', Near (rX s z * 2 ^ e74) (rY z) b' → b' = b) := Lib.hid fun b' h => near_uniq (rY_pos z) h hb
    have HPW := Lib.hid (fun n W (hn : n ≤ 3000) => power_any n W hn)
    have HTM := Lib.hid (fun v u W (hv : U W v D 110) (hu : U W u (10 ^ z.toNat) 400) => rtimes_u v u D (10 ^ z.toNat) 110 400 W hv hu (by omega) (by omega))
    rw [← hX] at HTM
    have HP : Hid (z < 0 → rX s z = D) := Lib.hid fun h => by rw [hX, show z.toNat = 0 by omega, Nat.pow_zero, Nat.mul_one]
    have HQ : Hid (0 ≤ z → rY z = 1) := Lib.hid fun h => by unfold rY; rw [show (-z).toNat = 0 by omega, Nat.pow_zero]
    have HY : Hid (rY z = 10 ^ (-z).toNat) := Lib.hid rfl
    have HF := Lib.hid hF
    have HV := Lib.hid hdv
    clear hF hX hD hdv f1 f2 hr h3 hd e2 e3 hX0 hb
    obtain ⟨P, hP⟩ : ∃ P, rX s z = P := ⟨_, rfl⟩
    obtain ⟨Q, hQ⟩ : ∃ Q, rY z = Q := ⟨_, rfl⟩
    rw [hP] at HNR HU HTM HP
    rw [hQ] at HNR HU HQ HY
    clear hP hQ
    -- the two ends
    have fin : (b < inf ∧ roV neg b = sB neg + b ∧ roE b = 0 ∧ neV b = b) ∨ (inf ≤ b ∧ roV neg b = 0 ∧ roE b = 8 ∧ neV b = 0) := by
      rcases Nat.lt_or_ge b inf with g | g
      · exact .inl ⟨g, if_pos g, if_pos g, if_pos g⟩
      · exact .inr ⟨g, if_neg (by omega), if_neg (by omega), if_neg (by omega)⟩
    have HO := Lib.hid (fun (h : b < 9223372036854775808) => or_sB neg h)
    by_cases hz : 0 ≤ z
    · obtain ⟨n, rfl⟩ := Int.eq_ofNat_of_zero_le hz
      rw [Int.toNat_natCast] at HTM
      have PW := Lib.hid (fun W => HPW.out n W (by omega))
      unfold PoAns at PW
      have Q1 := HQ.out (by omega)
      subst Q1
      have hn2 : n ≤ 2000 := by omega
      rcases fin with ⟨g, g1, g2, g3⟩ | ⟨g, g1, g2, g3⟩
      all_goals
        rw [inf_eq] at g
        rw [g1, g2]
        try (have ho := HO.out (by omega))
        have G := Lib.hid (And.intro g2 g3)
        clear g1 g2 g3 hz h4 h5
        go_enter Tryz.func76, Tryz.ntmps76
        go_wp2_with fail
        refine HF.out.mono ?_
        rintro e w1 ⟨A1, n1, c1, f1, rfl, hN, hb1⟩
        have hn0 : n1 ≠ 0 := fun h => hD0 ((num_len0 hN).2 h)
        have hk : ((n1 : Int) == 0) = false := by rw [beq_eq_false_iff_ne]; omega
        have B1 := Lib.hid hb1
        have U1 := Lib.hid (U.of (m := 110) (⟨A1, n1, c1, f1, rfl, hN⟩ : N w1 (.slice A1 n1 c1) D) HV.out)
        clear hN hb1 hn0
        go_wp2_with fail
        refine (PW.out _).mono ?_
        rintro e w2 ⟨v2, rfl, hu2, hb2⟩
        have U2 := Lib.hid (And.intro ((U1.out.alloc (.cells #[.int .u32 1] 72)).below hb2) hu2)
        have hone := (U.one w1 1 72 (by decide))
        rw [show ((1 : Nat) : Int) = 1 from rfl] at hone
        have O2 := Lib.hid (hone.below hb2)
        have B2 := Lib.hid ((B1.out.alloc B1.out.size (.cells #[.int .u32 1] 72)).trans (hb2.mono (by have := B1.out.size; rw [hsz]; omega)))
        clear hu2 hb2 hone
        go_wp2_with fail
        refine (HTM.out _ _ _ U2.out.1 U2.out.2).mono ?_
        rintro e w3 ⟨v3, rfl, _, hu3, hb3⟩
        have B3 := Lib.hid (B2.out.trans (hb3.mono B2.out.size))
        have U3 := Lib.hid (And.intro (hu3.wide (by omega : 110 + 400 + 1 ≤ 900)) ((O2.out.below hb3).wide (by omega : 1 ≤ 900)))
        clear hu3 hb3
        go_wp2_with fail
        refine (HNR.out _ _ _ U3.out.1 U3.out.2).mono ?_
        rintro e w4 ⟨b', hnr, rfl, hb4⟩
        obtain rfl := HU.out b' hnr
        have B4 := Lib.hid (B3.out.trans (hb4.mono B3.out.size))
        rw [G.out.1, G.out.2]
        clear hnr hb4
        go_wp2_with (go_at_call 77; refine (HS.out _).mono ?_; rintro e w' ⟨rfl, rfl⟩)
        go_ret2
        exact ⟨rfl, B4.out⟩
    · obtain ⟨n, hn⟩ : ∃ n : Nat, -z = (n : Int) := ⟨(-z).toNat, by omega⟩
      have PW := Lib.hid (fun W => HPW.out n W (by omega))
      unfold PoAns at PW
      have P1 := HP.out (by omega)
      subst P1
      have Y1 := HY.out
      rw [show (-z).toNat = n by omega] at Y1
      subst Y1
      have hz0 : z < 0 := by omega
      rcases fin with ⟨g, g1, g2, g3⟩ | ⟨g, g1, g2, g3⟩
      all_goals
        rw [inf_eq] at g
        rw [g1, g2]
        try (have ho := HO.out (by omega))
        have G := Lib.hid (And.intro g2 g3)
        clear g1 g2 g3 hz
        go_enter Tryz.func76, Tryz.ntmps76
        go_wp2_with fail
        refine HF.out.mono ?_
        rintro e w1 ⟨A1, n1, c1, f1, rfl, hN, hb1⟩
        have hn0 : n1 ≠ 0 := fun h => hD0 ((num_len0 hN).2 h)
        have hk : ((n1 : Int) == 0) = false := by rw [beq_eq_false_iff_ne]; omega
        have B1 := Lib.hid hb1
        have U1 := Lib.hid (U.of (m := 110) (⟨A1, n1, c1, f1, rfl, hN⟩ : N w1 (.slice A1 n1 c1) P) HV.out)
        clear hN hb1 hn0
        go_wp2_with fail
        refine (PW.out _).mono ?_
        rintro e w2 ⟨v2, rfl, hu2, hb2⟩
        have U3 := Lib.hid (And.intro (((U1.out.alloc (.cells #[.int .u32 1] 72)).below hb2).wide (by omega : 110 ≤ 900)) (hu2.wide (by omega : 400 ≤ 900)))
        have B3 := Lib.hid ((B1.out.alloc B1.out.size (.cells #[.int .u32 1] 72)).trans (hb2.mono (by have := B1.out.size; rw [hsz]; omega)))
        clear hu2 hb2
        go_wp2_with fail
        refine (HNR.out _ _ _ U3.out.1 U3.out.2).mono ?_
        rintro e w4 ⟨b', hnr, rfl, hb4⟩
        obtain rfl := HU.out b' hnr
        have B4 := Lib.hid (B3.out.trans (hb4.mono B3.out.size))
        rw [G.out.1, G.out.2]
        clear hnr hb4
        go_wp2_with (go_at_call 77; refine (HS.out _).mono ?_; rintro e w' ⟨rfl, rfl⟩)
        go_ret2
        exact ⟨rfl, B4.out⟩
end Go.Proofs.YtljbnnpmnoejeaaGreatDoor.nn
