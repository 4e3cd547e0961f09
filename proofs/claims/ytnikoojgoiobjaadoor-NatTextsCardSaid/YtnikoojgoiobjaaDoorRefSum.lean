/- The walk of the document's sum of two. -/
import Derived.Test.YtnikoojgoiobjaaDoorRefTrim
import Derived.Test.YtnikoojgoiobjaaDoorAwake
namespace Go.Proofs.YtnikoojgoiobjaaDoor.nn
open Go.RowKit

/-- the sum reads as a trimmed number -/
theorem own_num {base : Nat} {w : World} {v : Value} {n : Nat} {f : Nat → Nat} (ho : w.ownsRow base 45 1 v n (vl .u32 f n)) (lf : Lt (2 ^ 32) f n) (tf : Trm f n) :
    ∃ A c, v = .slice A n c ∧ Num w A n c f (sm (2 ^ 32) f n) := by
  obtain ⟨A, c, e, h1, h2, h3⟩ := Rd.of_own ho
  exact ⟨A, c, e, h1, h2, h3, lf, tf, rfl⟩

/-- one number is the answer, of M limbs at most -/
def One (w w' : World) (e : Ending) (R M : Nat) : Prop :=
  ∃ A n c f, e = .returned (.slice A n c) ∧ Num w' A n c f R ∧ n ≤ M ∧ Below w.heap.size w w'

theorem One.mk_ {w w1 w' : World} {v : Value} {n M R : Nat} {f : Nat → Nat} {base : Nat} (ho : w'.ownsRow base 45 1 v (tr f n) (vl .u32 f (tr f n))) (lf : Lt (2 ^ 32) f n) (hv : sm (2 ^ 32) f n = R) (hM : n ≤ M)
    (hb1 : Below w.heap.size w w1) (hb : Below w1.heap.size w1 w') : One w w' (.returned v) R M := by
  have hle := tr_le f n
  obtain ⟨A, c, rfl, hn⟩ := own_num ho (lf.mono hle) (tr_trm f n)
  rw [sm_tr, hv] at hn
  exact ⟨A, _, c, f, rfl, hn, by omega, hb1.trans (hb.mono hb1.size)⟩

/-- what holds at the head of sum's loop -/
def SumRel (base : Nat) (w0 wr : World) (s : Value) (i k : Nat) (F : Nat → Nat) (G : Nat → Nat) : Prop :=
  ∃ f' : Nat → Nat, wr.ownsRow base 45 1 s i (vl .u32 f' i) ∧ Below base w0 wr ∧ base ≤ wr.heap.size ∧ Lt (2 ^ 32) f' i ∧ k ≤ 1 ∧ sm (2 ^ 32) f' i + k * (2 ^ 32) ^ i = sm (2 ^ 32) F i + sm (2 ^ 32) G i

theorem pow_s (B i : Nat) : B ^ (i + 1) = B ^ i * B := Nat.pow_succ B i

theorem SumRel.step {base : Nat} {w0 wr w1 : World} {v : Value} {i k : Nat} {F G f' : Nat → Nat} (o : Obj) (hF : F i < 2 ^ 32) (hG : G i < 2 ^ 32)
    (h2 : Below base w0 wr) (h3 : base ≤ wr.heap.size) (h4 : Lt (2 ^ 32) f' i) (h5 : k ≤ 1) (h6 : sm (2 ^ 32) f' i + k * (2 ^ 32) ^ i = sm (2 ^ 32) F i + sm (2 ^ 32) G i)
    (ho : w1.ownsRow base 45 1 v (i + 1) (vl .u32 (jn f' i (fun _ => (k + F i + G i) % 4294967296)) (i + 1))) (hb : Below base (wr.alloc o) w1) :
    SumRel base w0 w1 v (i + 1) ((k + F i + G i) / 4294967296) F G := by
  have hb1 := (h2.alloc h3 o).trans hb
  have hs := hb.size
  rw [hsz] at hs
  refine ⟨_, ho, hb1, by omega, h4.jn (m := 1) (fun _ _ => Nat.mod_lt _ (by decide)), by omega, ?_⟩
  have e1 : sm (2 ^ 32) (fun _ => (k + F i + G i) % 4294967296) 1 = (k + F i + G i) % 4294967296 := by simp [sm]
  rw [sm_jn, e1]
  simp only [sm]
  rw [pow_s (2 ^ 32) i]
  have e := carry_eq (P := (2 ^ 32) ^ i) (Bs := 2 ^ 32) (a := F i) (b := G i) (c := k) (v := (k + F i + G i) % 4294967296) (k' := (k + F i + G i) / 4294967296) (by omega)
  omega

/-- no carry is left at the end -/
theorem sum_end {F G f f' g : Nat → Nat} {n m k : Nat} (hf : sm (2 ^ 32) f n < (2 ^ 32) ^ n) (hg : sm (2 ^ 32) g m < (2 ^ 32) ^ m) (h1 : sm (2 ^ 32) F (max n m + 1) = sm (2 ^ 32) f n) (h2 : sm (2 ^ 32) G (max n m + 1) = sm (2 ^ 32) g m)
    (h : sm (2 ^ 32) f' (max n m + 1) + k * (2 ^ 32) ^ (max n m + 1) = sm (2 ^ 32) F (max n m + 1) + sm (2 ^ 32) G (max n m + 1)) : sm (2 ^ 32) f' (max n m + 1) = sm (2 ^ 32) f n + sm (2 ^ 32) g m := by
  rw [h1, h2] at h
  have e1 : (2 ^ 32) ^ n ≤ (2 ^ 32) ^ (max n m) := Nat.pow_le_pow_right (by decide) (by omega)
  have e2 : (2 ^ 32) ^ m ≤ (2 ^ 32) ^ (max n m) := Nat.pow_le_pow_right (by decide) (by omega)
  rw [pow_s (2 ^ 32) (max n m)] at h
  rcases k with _ | k
  · simpa using h
  · exfalso
    have e3 : (2 ^ 32) ^ (max n m) * 2 ^ 32 ≤ (k + 1) * ((2 ^ 32) ^ (max n m) * 2 ^ 32) := Nat.le_mul_of_pos_left _ (by omega)
    omega

set_option maxRecDepth 100000 in
set_option maxHeartbeats 1000000 in
theorem rsum_any (A B : Option Addr) (n m c d : Nat) (f g : Nat → Nat) (w : World) (hA : Rd w .u32 A n f) (hB : Rd w .u32 B m g) (lf : Lt (2 ^ 32) f n) (lg : Lt (2 ^ 32) g m)
    (hn : (n + 1) * 4 ≤ 140737488355328) (hm : (m + 1) * 4 ≤ 140737488355328) :
    Calls Tryd.prog 23 #[.slice A n c, .slice B m d] w fun e w' => One w w' e (sm (2 ^ 32) f n + sm (2 ^ 32) g m) (max n m + 1) := by
  obtain ⟨i0, hi, hz0, hz1, hz2⟩ := info_parts info_u32
  have lF := pad_lt (by decide : 0 < 2 ^ 32) lf (max n m + 1)
  have lG := pad_lt (by decide : 0 < 2 ^ 32) lg (max n m + 1)
  have HF := Lib.hid lF
  have HG := Lib.hid lG
  have s1 := Lib.hid (pad_sm (2 ^ 32) f (by omega : n ≤ max n m + 1))
  have s2 := Lib.hid (pad_sm (2 ^ 32) g (by omega : m ≤ max n m + 1))
  have s3 := Lib.hid (sm_lt lf)
  have s4 := Lib.hid (sm_lt lg)
  clear lF lG
  go_enter Tryd.func23, Tryd.ntmps23
  go_wp2
  go_loopw [5, 6, 7] (fun s5 s6 s7 wr => ∃ i k : Nat, i ≤ max n m + 1 ∧ k ≤ 1 ∧ s7 = .int .i64 i ∧ s6 = .int .u64 k ∧ SumRel w.heap.size w wr s5 i k (pad f n) (pad g m)) (fun _ _ s7 _ => max n m + 1 - (intOf s7).toNat)
  case atStart => exact ⟨0, 0, Nat.zero_le _, by omega, rfl, rfl, fun _ => 0, World.ownsRow_nil _ _ _ _, Below.refl _ _, Nat.le_refl _, fun _ h => absurd h (by omega), by omega, by simp [sm]⟩
  case round =>
    obtain ⟨i, k, hi', hk, rfl, rfl, hh⟩ := hrel
    by_cases hlt : i ≤ max n m
    · have bF := HF.out i (by omega)
      have bG := HG.out i (by omega)
      obtain ⟨f', h1, h2, h3, h4, h5, h6⟩ := hh
      have hA1 := hA.below h2
      have hB1 := hB.below h2
      have hz := Lib.hid (show ((k : Int) + (pad f n i : Int) + (pad g m i : Int)) % 4294967296 = (((k + pad f n i + pad g m i) % 4294967296 : Nat) : Int) by omega)
      have H6 := Lib.hid h6
      clear h6
      go_wp2_with (first
        | (go_at_call_of 46 (Value.slice A n c); refine (at_any _ _ _ _ f _ hA1 lf (by unfold maxLen; omega) (by unfold maxLen; omega)).mono ?_; rintro e w' ⟨rfl, rfl⟩)
        | (go_at_call_of 46 (Value.slice B m d); refine (at_any _ _ _ _ g _ hB1 lg (by unfold maxLen; omega) (by unfold maxLen; omega)).mono ?_; rintro e w' ⟨rfl, rfl⟩)
        | (at_builtin; refine wpList_app rfl (.tmp 26) (.tmp 29) _ rfl w.heap.size 45 i0 _ 4 Tryd.underlying22 hi hz0 hz1 hz2 rfl .u32 _ i f' rfl (h1.alloc _) _ 1 1 (fun _ => (k + pad f n i + pad g m i) % 4294967296) rfl (rd_z _ .u32 _ _ hz.out) (by unfold maxLen; omega) (by omega) (by rw [hsz]; omega) ?_; intro v1 w1 hown1 hb1))
      go_roundw
      case rel => exact ⟨i + 1, (k + pad f n i + pad g m i) / 4294967296, by omega, by omega, by go_num, congrArg (Value.int .u64) (by omega), SumRel.step _ bF bG h2 h3 h4 h5 H6.out hown1 hb1⟩
      case measure => simp [intOf]; omega
    · obtain rfl : i = max n m + 1 := by omega
      obtain ⟨f', h1, h2, h3, h4, h5, h6⟩ := hh
      obtain ⟨A1, c1, rfl, hc1, hm1, hr1⟩ := Rd.of_own h1
      have hle := tr_le f' (max n m + 1)
      have hv := sum_end s3.out s4.out s1.out s2.out h6
      have HV := Lib.hid hv
      clear h6 hv
      go_wp2_with (go_at_call 26; refine (rtrim_any _ _ _ f' _ hr1 hc1 (by omega)).mono ?_; rintro e w2 ⟨v2, rfl, hown2, hb2⟩)
      all_goals
        go_ret
        exact One.mk_ hown2 h4 HV.out (Nat.le_refl _) h2 hb2
end Go.Proofs.YtnikoojgoiobjaaDoor.nn
