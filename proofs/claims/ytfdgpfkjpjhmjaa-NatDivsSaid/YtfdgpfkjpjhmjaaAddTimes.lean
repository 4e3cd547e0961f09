/- The walk of addTimes: in place it adds a limb times a number. -/
import Derived.Test.YtfdgpfkjpjhmjaaShelf
import Derived.Test.YtfdgpfkjpjhmjaaAddRel
import Derived.Test.YtfdgpfkjpjhmjaaProg
import Derived.Laws.Externs
import Derived.WalkKit
import Derived.Lib.Hide
namespace Go.Proofs.Ytfdgpfkjpjhmjaa.nn
open Go.RowKit

/-- the base of wide limbs -/
def W64 : Nat := 18446744073709551616

theorem run_add64_at (x y : Nat) (w : World) : (callFunc 69 #[.int .u64 x, .int .u64 y, .int .u64 0]).run Try.prog w =
    .ok (.value (.tuple #[.int .u64 (((x + y) % W64 : Nat) : Int), .int .u64 (((x + y) / W64 : Nat) : Int)])) w := by
  rw [run_callFunc_extern Try.func69 (by kernel_rfl) (by kernel_rfl) (by kernel_rfl) (e := add64Entry) (by kernel_rfl), run_add64 x y 0 (by omega) (by omega) (by omega) (by omega)]
  simp only [Result.andThen, W64]
  congr 5 <;> omega

/-- what holds when i limbs are done, with the carry k -/
def MulRel (w wr : World) (g : Nat) (e : TypeId) (cur : Array Value) (off n : Nat) (f h : Nat → Nat) (F : Nat) (f' : Nat → Nat) (cur' : Array Value) (k i : Nat) : Prop :=
  Wrote w wr g e cur cur' off n ∧ Ints cur' .u64 off n f' ∧ Lt W64 f' n ∧ (∀ j, i ≤ j → j < n → f' j = f j) ∧ sm W64 f' i + k * W64 ^ i = sm W64 f i + F * sm W64 h i

theorem MulRel.step {w wr : World} {g : Nat} {e : TypeId} {cur : Array Value} {off n : Nat} {f h : Nat → Nat} {F : Nat} {f' : Nat → Nat} {cur' : Array Value} {k i : Nat} (H : MulRel w wr g e cur off n f h F f' cur' k i) (hi : i < n) (k' v : Nat)
    (hk : f' i + h i * F + k = v + k' * W64) (hv : v < W64) :
    MulRel w (wr.setCell ⟨g, off + i, none⟩ (.int .u64 (v : Int))) g e cur off n f h F (upd f' i v) (cur'.setIfInBounds (off + i) (.int .u64 (v : Int))) k' (i + 1) := by
  obtain ⟨h1, h2, h3, h4, h5⟩ := H
  refine ⟨h1.set_ i hi _, h2.set_ i _ hi, h3.upd hv, fun j ha hb => ?_, ?_⟩
  · rw [upd_ne f' (by omega)]; exact h4 j (by omega) hb
  · have e1 : sm W64 f (i + 1) = sm W64 f i + f i * W64 ^ i := rfl
    have e2 : sm W64 h (i + 1) = sm W64 h i + h i * W64 ^ i := rfl
    rw [sm_snoc, e1, e2, ← h4 i (Nat.le_refl _) hi, Nat.pow_succ W64 i, Nat.mul_add]
    have := carry_eq (P := W64 ^ i) hk
    have e3 : F * (h i * W64 ^ i) = h i * F * W64 ^ i := by rw [← Nat.mul_assoc, Nat.mul_comm F]
    rw [e3]
    omega

/-- the words of one round -/
theorem round_words {a x F k : Nat} (ha : a < W64) (hx : x < W64) (hF : F < W64) (hk : k < W64) :
    x * F / W64 + (x * F % W64 + k) / W64 < W64 ∧ x * F / W64 + (x * F % W64 + k) / W64 + (a + (x * F % W64 + k) % W64) / W64 < W64 ∧
      a + x * F + k = (a + (x * F % W64 + k) % W64) % W64 + (x * F / W64 + (x * F % W64 + k) / W64 + (a + (x * F % W64 + k) % W64) / W64) * W64 := by
  have hm : x * F ≤ (W64 - 1) * (W64 - 1) := Nat.mul_le_mul (by omega) (by omega)
  have hc : (W64 - 1) * (W64 - 1) + 2 * (W64 - 1) = W64 * W64 - 1 := by decide
  have h1 := Nat.div_add_mod (x * F) W64
  have h2 := Nat.div_add_mod (x * F % W64 + k) W64
  have h3 := Nat.div_add_mod (a + (x * F % W64 + k) % W64) W64
  generalize x * F = p at *
  generalize p / W64 = u at *
  generalize p % W64 = v at *
  generalize (v + k) / W64 = u1 at *
  generalize (v + k) % W64 = v1 at *
  generalize (a + v1) / W64 = u2 at *
  generalize (a + v1) % W64 = v2 at *
  simp only [W64] at *
  omega
set_option maxRecDepth 100000 in
set_option maxHeartbeats 1000000 in
theorem addTimes_any (g off n c : Nat) (e : TypeId) (cur : Array Value) (f : Nat → Nat) (B : Option Addr) (d : Nat) (h : Nat → Nat) (F : Nat) (w : World)
    (hb : Bk w g e cur) (hi : Ints cur .u64 off n f) (hB : Rd w .u64 B n h) (hne : ∀ b o, B = some ⟨b, o, none⟩ → 0 < n → b ≠ g) (lf : Lt W64 f n) (lh : Lt W64 h n) (lF : F < W64) (hn : n ≤ maxLen) :
    Calls Try.prog 58 #[.slice (some ⟨g, off, none⟩) n c, .slice B n d, .int .u64 F] w fun e' w' => ∃ k : Nat, e' = .returned (.int .u64 (k : Int)) ∧ k < W64 ∧ ∃ f' cur', MulRel w w' g e cur off n f h F f' cur' k n := by
  unfold maxLen at hn
  have LF := Lib.hid lF
  have LL := Lib.hid lf
  have LH := Lib.hid lh
  clear lF lf lh
  go_enter Try.func58, Try.ntmps58
  go_wp2
  go_loopw [7, 15] (fun s7 s15 wr => ∃ (k i : Nat) (f' : Nat → Nat) (cur' : Array Value), Hid (k < W64) ∧ i ≤ n ∧ s7 = .int .u64 (k : Int) ∧ s15 = .int .i64 i ∧ MulRel w wr g e cur off n f h F f' cur' k i) (fun _ s15 _ => n - (intOf s15).toNat)
  case atStart => exact ⟨0, 0, f, cur, Lib.hid (by decide), by omega, rfl, rfl, Wrote.refl hb off n, hi, LL.out, fun _ _ _ => rfl, by simp [sm]⟩
  case round =>
    obtain ⟨k, i, f', cur', hk, hin, rfl, rfl, hh⟩ := hrel
    by_cases hlt : i < n
    · have hx := (Bk.cell hh.1.blk (off + i)).trans (hh.2.1 i (by omega))
      have hxf := Bk.frozen hh.1.blk (off + i)
      obtain ⟨b, o, rfl, _, hcell⟩ := (hB.wrote hh.1 hne) (by omega)
      have hy := hcell i hlt
      have bx := hh.2.2.1 i hlt
      have by_ := LH.out i hlt
      obtain ⟨q1, q2, q3⟩ := round_words bx by_ LF.out hk.out
      have HM : ∀ W : World, Calls Try.prog 68 #[.int .u64 (h i : Nat), .int .u64 F] W fun e w' => e = .returned (.tuple #[.int .u64 ((h i * F / W64 : Nat) : Int), .int .u64 ((h i * F % W64 : Nat) : Int)]) ∧ W = w' := fun W =>
        (Go.Proofs.Try.bits_Mul64 (h i) F by_ LF.out W).mono fun e w' ⟨h1, h2⟩ => ⟨h1, h2.symm⟩
      have hA1 := fun W => run_add64_at (h i * F % W64) k W
      have hA2 := fun W => run_add64_at (f' i) ((h i * F % W64 + k) % W64) W
      obtain ⟨u, hu⟩ : ∃ u, h i * F / W64 = u := ⟨_, rfl⟩
      obtain ⟨v, hv⟩ : ∃ v, h i * F % W64 = v := ⟨_, rfl⟩
      simp only [hu, hv] at q1 q2 q3 HM
      simp only [hv] at hA1 hA2
      obtain ⟨u1, hu1⟩ : ∃ u1, (v + k) / W64 = u1 := ⟨_, rfl⟩
      obtain ⟨v1, hv1⟩ : ∃ v1, (v + k) % W64 = v1 := ⟨_, rfl⟩
      simp only [hu1, hv1] at q1 q2 q3 hA1 hA2
      obtain ⟨u2, hu2⟩ : ∃ u2, (f' i + v1) / W64 = u2 := ⟨_, rfl⟩
      obtain ⟨v2, hv2⟩ : ∃ v2, (f' i + v1) % W64 = v2 := ⟨_, rfl⟩
      simp only [hu2, hv2] at q2 q3 hA2
      have hv2l : Hid (v2 < W64) := Lib.hid (by rw [← hv2]; exact Nat.mod_lt _ (by decide))
      have HMM := Lib.hid HM
      have Q2 := Lib.hid q2
      have Q3 := Lib.hid q3
      have b1 : u + u1 ≤ 18446744073709551615 := by unfold W64 at q1; omega
      have b2 : u + u1 + u2 ≤ 18446744073709551615 := by unfold W64 at q2; omega
      clear hcell HM q1 q2 q3 hu hv hu1 hv1 hu2 hv2 bx by_
      go_wp2_with (go_at_call 68; refine (HMM.out _).mono ?_; rintro e w' ⟨rfl, rfl⟩)
      go_roundw
      case rel => exact ⟨u + u1 + u2, i + 1, _, _, Q2, by omega, congrArg (Value.int .u64) (by omega), by go_num, hh.step hlt _ v2 (by rw [← Q3.out]) hv2l.out⟩
      case measure => simp [intOf]; omega
    · obtain rfl : i = n := by omega
      go_wp2
      go_ret
      exact ⟨k, rfl, hk.out, f', cur', hh⟩
end Go.Proofs.Ytfdgpfkjpjhmjaa.nn
