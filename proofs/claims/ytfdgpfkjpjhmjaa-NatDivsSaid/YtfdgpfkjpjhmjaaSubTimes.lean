/- The walk of subTimes: in place it takes a limb times a number from a number that is one limb longer. -/
import Derived.Test.YtfdgpfkjpjhmjaaAddTimes
import Derived.Test.YtfdgpfkjpjhmjaaSubtract
import Derived.Shelf.Spec.BitsCarry
namespace Go.Proofs.Ytfdgpfkjpjhmjaa.nn
open Go.RowKit

/-- difference and borrow at 64 bits -/
def sd64 (x y b : Nat) : Nat := (x + W64 - y - b) % W64
def sb64 (x y b : Nat) : Nat := if x < y + b then 1 else 0
theorem sb64_le (x y b : Nat) : sb64 x y b ≤ 1 := by unfold sb64; split <;> omega
theorem sd64_lt (x y b : Nat) : sd64 x y b < W64 := Nat.mod_lt _ (by decide)
theorem sd64_eq {x y b : Nat} (hx : x < W64) (hy : y < W64) (hb : b ≤ 1) : sd64 x y b + y + b = x + sb64 x y b * W64 := by
  unfold sd64 sb64 W64 at *
  split <;> omega

theorem run_sub64_at (x y b : Nat) (hb : b ≤ 1) (w : World) : (callFunc 75 #[.int .u64 x, .int .u64 y, .int .u64 b]).run Try.prog w =
    .ok (.value (.tuple #[.int .u64 ((sd64 x y b : Nat) : Int), .int .u64 ((sb64 x y b : Nat) : Int)])) w := by
  rw [run_callFunc_extern Try.func75 (by kernel_rfl) (by kernel_rfl) (by kernel_rfl) (e := sub64Entry) (by kernel_rfl), run_sub64 x y b hb]
  rfl

/-- what holds when i limbs are done, with the carry k and the borrow b -/
def StRel (w wr : World) (g : Nat) (e : TypeId) (cur : Array Value) (off n : Nat) (f h : Nat → Nat) (F : Nat) (f' : Nat → Nat) (cur' : Array Value) (k b i : Nat) : Prop :=
  Wrote w wr g e cur cur' off n ∧ Ints cur' .u64 off n f' ∧ Lt W64 f' n ∧ (∀ j, i ≤ j → j < n → f' j = f j) ∧ sm W64 f' i + F * sm W64 h i = sm W64 f i + (k + b) * W64 ^ i ∧ k < W64 ∧ b ≤ 1

theorem StRel.step {w wr : World} {g : Nat} {e : TypeId} {cur : Array Value} {off n : Nat} {f h : Nat → Nat} {F : Nat} {f' : Nat → Nat} {cur' : Array Value} {k b i : Nat} (H : StRel w wr g e cur off n f h F f' cur' k b i) (hi : i < n) (l k' : Nat)
    (hk : h i * F + k = l + k' * W64) (hl : l < W64) (hk' : k' < W64) :
    StRel w (wr.setCell ⟨g, off + i, none⟩ (.int .u64 ((sd64 (f' i) l b : Nat) : Int))) g e cur off n f h F (upd f' i (sd64 (f' i) l b)) (cur'.setIfInBounds (off + i) (.int .u64 ((sd64 (f' i) l b : Nat) : Int))) k' (sb64 (f' i) l b) (i + 1) := by
  obtain ⟨h1, h2, h3, h4, h5, _, h7⟩ := H
  refine ⟨h1.set_ i hi _, h2.set_ i _ hi, h3.upd (sd64_lt _ _ _), fun j ha hb => ?_, ?_, hk', sb64_le _ _ _⟩
  · rw [upd_ne f' (by omega)]; exact h4 j (by omega) hb
  · have e1 : sm W64 f (i + 1) = sm W64 f i + f i * W64 ^ i := rfl
    have e2 : sm W64 h (i + 1) = sm W64 h i + h i * W64 ^ i := rfl
    have e4 := sd64_eq (h3 i hi) hl h7
    rw [sm_snoc, e1, e2, Nat.pow_succ W64 i, Nat.mul_add]
    rw [h4 i (Nat.le_refl _) hi] at e4 ⊢
    generalize sd64 (f i) l b = v at *
    generalize sb64 (f i) l b = b' at *
    have c1 := congrArg (· * W64 ^ i) e4
    have c2 := congrArg (· * W64 ^ i) hk
    simp only [Nat.add_mul] at c1 c2 h5 ⊢
    have e3 : F * (h i * W64 ^ i) = h i * F * W64 ^ i := by rw [← Nat.mul_assoc, Nat.mul_comm F]
    have e5 : k' * (W64 ^ i * W64) = k' * W64 * W64 ^ i := by rw [Nat.mul_comm (W64 ^ i), ← Nat.mul_assoc]
    have e6 : b' * (W64 ^ i * W64) = b' * W64 * W64 ^ i := by rw [Nat.mul_comm (W64 ^ i), ← Nat.mul_assoc]
    rw [e3, e5, e6]
    omega

/-- behind subTimes: the difference, or, with the borrow 1, one power more -/
def StEnd (w w' : World) (g : Nat) (e : TypeId) (cur : Array Value) (off n : Nat) (f h : Nat → Nat) (F : Nat) (e' : Ending) : Prop :=
  ∃ (b : Nat) (f' : Nat → Nat) (cur' : Array Value), e' = .returned (.int .u64 (b : Int)) ∧ b ≤ 1 ∧ Wrote w w' g e cur cur' off (n + 1) ∧ Ints cur' .u64 off (n + 1) f' ∧ Lt W64 f' (n + 1) ∧ sm W64 f' (n + 1) + F * sm W64 h n = sm W64 f (n + 1) + b * W64 ^ (n + 1)

theorem StRel.last {w wr : World} {g : Nat} {e : TypeId} {cur : Array Value} {off n : Nat} {f h : Nat → Nat} {F : Nat} {f' : Nat → Nat} {cur' : Array Value} {k b : Nat} (H : StRel w wr g e cur off (n + 1) f h F f' cur' k b n) :
    StEnd w (wr.setCell ⟨g, off + n, none⟩ (.int .u64 ((sd64 (f' n) k b : Nat) : Int))) g e cur off n f h F (.returned (.int .u64 ((sb64 (f' n) k b : Nat) : Int))) := by
  obtain ⟨h1, h2, h3, h4, h5, h6, h7⟩ := H
  refine ⟨_, _, _, rfl, sb64_le _ _ _, h1.set_ n (Nat.lt_succ_self n) _, h2.set_ n _ (Nat.lt_succ_self n), h3.upd (sd64_lt _ _ _), ?_⟩
  have e1 : sm W64 f (n + 1) = sm W64 f n + f n * W64 ^ n := rfl
  have e4 := sd64_eq (h3 n (Nat.lt_succ_self n)) h6 h7
  rw [sm_snoc, e1, Nat.pow_succ W64 n]
  rw [h4 n (Nat.le_refl _) (Nat.lt_succ_self n)] at e4 ⊢
  generalize sd64 (f n) k b = v at *
  generalize sb64 (f n) k b = b' at *
  have c1 := congrArg (· * W64 ^ n) e4
  simp only [Nat.add_mul] at c1 h5 ⊢
  have e6 : b' * (W64 ^ n * W64) = b' * W64 * W64 ^ n := by rw [Nat.mul_comm (W64 ^ n), ← Nat.mul_assoc]
  rw [e6]
  omega

theorem sub_words {x F k : Nat} (hx : x < W64) (hF : F < W64) (hk : k < W64) :
    x * F / W64 + (x * F % W64 + k) / W64 < W64 ∧ x * F + k = (x * F % W64 + k) % W64 + (x * F / W64 + (x * F % W64 + k) / W64) * W64 := by
  refine ⟨(round_words (a := 0) (by decide) hx hF hk).1, ?_⟩
  have h1 := Nat.div_add_mod (x * F) W64
  have h2 := Nat.div_add_mod (x * F % W64 + k) W64
  generalize x * F = p at *
  generalize p / W64 = u at *
  generalize p % W64 = v at *
  generalize (v + k) / W64 = u1 at *
  generalize (v + k) % W64 = v1 at *
  simp only [W64] at *
  omega

set_option maxRecDepth 100000 in
set_option maxHeartbeats 1000000 in
theorem subTimes_any (g off n c : Nat) (e : TypeId) (cur : Array Value) (f : Nat → Nat) (B : Option Addr) (d : Nat) (h : Nat → Nat) (F : Nat) (w : World)
    (hb : Bk w g e cur) (hi : Ints cur .u64 off (n + 1) f) (hB : Rd w .u64 B n h) (hne : ∀ b o, B = some ⟨b, o, none⟩ → 0 < n → b ≠ g) (lf : Lt W64 f (n + 1)) (lh : Lt W64 h n) (lF : F < W64) (hn : n + 1 ≤ maxLen) :
    Calls Try.prog 73 #[.slice (some ⟨g, off, none⟩) (n + 1 : Nat) c, .slice B n d, .int .u64 F] w fun e' w' => StEnd w w' g e cur off n f h F e' := by
  unfold maxLen at hn
  have LF := Lib.hid lF
  have LL := Lib.hid lf
  have LH := Lib.hid lh
  clear lF lf lh
  go_enter Try.func73, Try.ntmps73
  go_wp2
  go_loopw [7, 8, 16] (fun s7 s8 s16 wr => ∃ (k b i : Nat) (f' : Nat → Nat) (cur' : Array Value), i ≤ n ∧ s7 = .int .u64 (k : Int) ∧ s8 = .int .u64 (b : Int) ∧ s16 = .int .i64 i ∧ Hid (StRel w wr g e cur off (n + 1) f h F f' cur' k b i)) (fun _ _ s16 _ => n - (intOf s16).toNat)
  case atStart => exact ⟨0, 0, 0, f, cur, by omega, rfl, rfl, rfl, Lib.hid ⟨Wrote.refl hb off (n + 1), hi, LL.out, fun _ _ _ => rfl, by simp [sm], by decide, by decide⟩⟩
  case round =>
    obtain ⟨k, b, i, f', cur', hin, rfl, rfl, rfl, hh⟩ := hrel
    by_cases hlt : i < n
    · have hx := (Bk.cell hh.out.1.blk (off + i)).trans (hh.out.2.1 i (by omega))
      have hxf := Bk.frozen hh.out.1.blk (off + i)
      obtain ⟨bb, o, rfl, _, hcell⟩ := (hB.wrote hh.out.1 hne) (by omega)
      have hy := hcell i hlt
      have hkb := hh.out.2.2.2.2.2
      obtain ⟨q1, q3⟩ := sub_words (LH.out i hlt) LF.out hkb.1
      have HM : ∀ W : World, Calls Try.prog 68 #[.int .u64 (h i : Nat), .int .u64 F] W fun e w' => e = .returned (.tuple #[.int .u64 ((h i * F / W64 : Nat) : Int), .int .u64 ((h i * F % W64 : Nat) : Int)]) ∧ W = w' := fun W =>
        (Go.Proofs.Try.bits_Mul64 (h i) F (LH.out i hlt) LF.out W).mono fun e w' ⟨h1, h2⟩ => ⟨h1, h2.symm⟩
      have hA1 := fun W => run_add64_at (h i * F % W64) k W
      obtain ⟨u, hu⟩ : ∃ u, h i * F / W64 = u := ⟨_, rfl⟩
      obtain ⟨v, hv⟩ : ∃ v, h i * F % W64 = v := ⟨_, rfl⟩
      simp only [hu, hv] at q1 q3 HM
      simp only [hv] at hA1
      obtain ⟨u1, hu1⟩ : ∃ u1, (v + k) / W64 = u1 := ⟨_, rfl⟩
      obtain ⟨v1, hv1⟩ : ∃ v1, (v + k) % W64 = v1 := ⟨_, rfl⟩
      simp only [hu1, hv1] at q1 q3 hA1
      have hv1l : Hid (v1 < W64) := Lib.hid (by rw [← hv1]; exact Nat.mod_lt _ (by decide))
      have hA2 := fun W => run_sub64_at (f' i) v1 b hkb.2 W
      obtain ⟨s, hs⟩ : ∃ s, sd64 (f' i) v1 b = s := ⟨_, rfl⟩
      obtain ⟨t, ht⟩ : ∃ t, sb64 (f' i) v1 b = t := ⟨_, rfl⟩
      simp only [hs, ht] at hA2
      have HMM := Lib.hid HM
      have Q1 := Lib.hid q1
      have Q3 := Lib.hid q3
      have HS := Lib.hid hs
      have HT := Lib.hid ht
      have b1 : u + u1 ≤ 18446744073709551615 := by unfold W64 at q1; omega
      clear hcell HM q1 q3 hu hv hu1 hv1 hs ht hkb
      go_wp2_with (go_at_call 68; refine (HMM.out _).mono ?_; rintro e w' ⟨rfl, rfl⟩)
      go_roundw
      case rel => exact ⟨u + u1, t, i + 1, _, _, by omega, congrArg (Value.int .u64) (by omega), rfl, by go_num, Lib.hid (by rw [← HS.out, ← HT.out]; exact hh.out.step (by omega) v1 (u + u1) Q3.out hv1l.out Q1.out)⟩
      case measure => simp [intOf]; omega
    · obtain rfl : i = n := by omega
      have hx := (Bk.cell hh.out.1.blk (off + i)).trans (hh.out.2.1 i (by omega))
      have hxf := Bk.frozen hh.out.1.blk (off + i)
      have hA2 := fun W => run_sub64_at (f' i) k b hh.out.2.2.2.2.2.2 W
      have hl := Lib.hid hh.out.last
      obtain ⟨s, hs⟩ : ∃ s, sd64 (f' i) k b = s := ⟨_, rfl⟩
      obtain ⟨t, ht⟩ : ∃ t, sb64 (f' i) k b = t := ⟨_, rfl⟩
      have HL : Hid (StEnd w (wr.setCell ⟨g, off + i, none⟩ (.int .u64 (s : Int))) g e cur off i f h F (.returned (.int .u64 (t : Int)))) := Lib.hid (by rw [← hs, ← ht]; exact hl.out)
      simp only [hs, ht] at hA2
      clear hs ht hl hlt
      go_wp2
      go_ret
      exact HL.out
end Go.Proofs.Ytfdgpfkjpjhmjaa.nn
