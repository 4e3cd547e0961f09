/- The walk of divideBy: in place wide limbs become their quotient by one limb. -/
import Derived.Test.YtnikoojgoiobjaaDoorDiv64
import Derived.Test.YtnikoojgoiobjaaDoorWiden
namespace Go.Proofs.YtnikoojgoiobjaaDoor.nn
open Go.RowKit

/-- what holds when the limbs from t on are divided, with the rest r -/
def DivRel (w wr : World) (g : Nat) (e : TypeId) (cur : Array Value) (off n : Nat) (f : Nat → Nat) (d : Nat) (f' : Nat → Nat) (cur' : Array Value) (r t : Nat) : Prop :=
  Wrote w wr g e cur cur' off n ∧ Ints cur' .u64 off n f' ∧ Lt W64 f' n ∧ r < d ∧ sm W64 f n + d * sm W64 f' t = d * sm W64 f' n + r * W64 ^ t + sm W64 f' t

theorem DivRel.step {w wr : World} {g : Nat} {e : TypeId} {cur : Array Value} {off n : Nat} {f : Nat → Nat} {d : Nat} {f' : Nat → Nat} {cur' : Array Value} {r s q r' : Nat} (H : DivRel w wr g e cur off n f d f' cur' r (s + 1)) (hs : s < n) (j : Nat)
    (hq : d * q + r' = r * W64 + f' s) (hqq : q < W64) (hr : r' < d) :
    DivRel w ((wr.drewN j).setCell ⟨g, off + s, none⟩ (.int .u64 (q : Int))) g e cur off n f d (upd f' s q) (cur'.setIfInBounds (off + s) (.int .u64 (q : Int))) r' s := by
  obtain ⟨h1, h2, h3, _, h5⟩ := H
  refine ⟨(h1.drewN j).set_ s hs _, h2.set_ s _ hs, h3.upd hqq, hr, ?_⟩
  have a1 := sm_upd W64 f' q hs
  have a2 : sm W64 f' (s + 1) = sm W64 f' s + f' s * W64 ^ s := rfl
  rw [sm_upd_out W64 f' q (Nat.le_refl s)]
  rw [a2, Nat.pow_succ W64 s, Nat.mul_add d] at h5
  have b1 := congrArg (d * ·) a1
  simp only [Nat.mul_add] at b1
  have b2 := congrArg (· * W64 ^ s) hq
  simp only [Nat.add_mul] at b2
  have b3 : d * (q * W64 ^ s) = d * q * W64 ^ s := by rw [Nat.mul_assoc]
  have b4 : r * (W64 ^ s * W64) = r * W64 * W64 ^ s := by rw [Nat.mul_comm (W64 ^ s), ← Nat.mul_assoc]
  rw [b3] at b1
  rw [b4] at h5
  omega

/-- behind divideBy: the rest, and the quotient in place -/
def DivEnd (w w' : World) (g : Nat) (e : TypeId) (cur : Array Value) (off n : Nat) (f : Nat → Nat) (d : Nat) (e' : Ending) : Prop :=
  ∃ (r : Nat) (f' : Nat → Nat) (cur' : Array Value), e' = .returned (.int .u64 (r : Int)) ∧ r < d ∧ Wrote w w' g e cur cur' off n ∧ Ints cur' .u64 off n f' ∧ Lt W64 f' n ∧ sm W64 f n = d * sm W64 f' n + r

theorem quo_lt {r x d : Nat} (hr : r < d) (hx : x < W64) : (r * W64 + x) / d < W64 := by
  rw [Nat.div_lt_iff_lt_mul (by omega), Nat.mul_comm W64]
  have h : (r + 1) * W64 ≤ d * W64 := Nat.mul_le_mul_right _ hr
  rw [Nat.add_mul] at h
  omega

set_option maxRecDepth 100000 in
set_option maxHeartbeats 1000000 in
theorem divideBy_any (g off n c : Nat) (e : TypeId) (cur : Array Value) (f : Nat → Nat) (d : Nat) (w : World)
    (hb : Bk w g e cur) (hi : Ints cur .u64 off n f) (lf : Lt W64 f n) (h0 : 0 < d) (hd : d < W64) (hn : n ≤ maxLen) :
    Calls Tryd.prog 48 #[.slice (some ⟨g, off, none⟩) n c, .int .u64 d] w fun e' w' => DivEnd w w' g e cur off n f d e' := by
  unfold maxLen at hn
  have LF := Lib.hid lf
  have HD := Lib.hid hd
  clear lf hd
  go_enter Tryd.func48, Tryd.ntmps48
  go_wp2
  go_loopw [5, 6] (fun s5 s6 wr => ∃ (r t : Nat) (f' : Nat → Nat) (cur' : Array Value), t ≤ n ∧ s5 = .int .u64 (r : Int) ∧ s6 = .int .i64 ((t : Int) - 1) ∧ Hid (DivRel w wr g e cur off n f d f' cur' r t)) (fun _ s6 _ => (intOf s6 + 1).toNat)
  case atStart => exact ⟨0, n, f, cur, Nat.le_refl _, rfl, rfl, Lib.hid ⟨Wrote.refl hb off n, hi, LF.out, h0, by omega⟩⟩
  case round =>
    obtain ⟨r, t, f', cur', ht, rfl, rfl, hh⟩ := hrel
    by_cases h1 : 0 < t
    · obtain ⟨s, rfl⟩ : ∃ s, t = s + 1 := ⟨t - 1, by omega⟩
      have hx := (Bk.cell hh.out.1.blk (off + s)).trans (hh.out.2.1 s (by omega))
      have hxf := Bk.frozen hh.out.1.blk (off + s)
      have bx := hh.out.2.2.1 s (by omega)
      have br := hh.out.2.2.2.1
      have HC : ∀ W, Calls Tryd.prog 59 #[.int .u64 (r : Nat), .int .u64 (f' s : Nat), .int .u64 d] W fun e w' => e = .returned (.tuple #[.int .u64 (((r * W64 + f' s) / d : Nat) : Int), .int .u64 (((r * W64 + f' s) % d : Nat) : Int)]) ∧ ∃ j, w' = W.drewN j := fun W =>
        div64_any r (f' s) d W bx HD.out br
      have e1 := Nat.div_add_mod (r * W64 + f' s) d
      have e2 := quo_lt br bx
      have e3 := Nat.mod_lt (r * W64 + f' s) h0
      obtain ⟨q, hq⟩ : ∃ q, (r * W64 + f' s) / d = q := ⟨_, rfl⟩
      obtain ⟨r', hr'⟩ : ∃ r', (r * W64 + f' s) % d = r' := ⟨_, rfl⟩
      simp only [hq, hr'] at HC e1 e2 e3
      have HCC := Lib.hid HC
      have E1 := Lib.hid e1
      have E2 := Lib.hid e2
      have E3 := Lib.hid e3
      have hs0 : (((s + 1 : Nat) : Int) - 1) = (s : Int) := by omega
      clear HC e1 e2 e3 hq hr' bx br
      rw [hs0]
      clear hs0
      go_wp2_with (go_at_call 59; refine (HCC.out _).mono ?_; rintro e' w' ⟨rfl, j, rfl⟩)
      go_roundw
      case rel => exact ⟨r', s, _, _, by omega, rfl, by go_num, Lib.hid (hh.out.step (by omega) j E1.out E2.out E3.out)⟩
      case measure => simp [intOf]
    · obtain rfl : t = 0 := by omega
      go_wp2
      go_ret
      exact ⟨r, f', cur', rfl, hh.out.2.2.2.1, hh.out.1, hh.out.2.1, hh.out.2.2.1, by have := hh.out.2.2.2.2; simp [sm] at this; omega⟩
end Go.Proofs.YtnikoojgoiobjaaDoor.nn
