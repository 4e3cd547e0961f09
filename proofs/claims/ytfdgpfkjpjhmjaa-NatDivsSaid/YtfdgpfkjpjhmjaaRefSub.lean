/- The walks of the document's less and Sub. -/
import Derived.Test.YtfdgpfkjpjhmjaaRefCmp
namespace Go.Proofs.Ytfdgpfkjpjhmjaa.nn
open Go.RowKit

/-- limbs beyond what the value needs are 0 -/
theorem sm_low {B : Nat} (hB : 0 < B) {g : Nat → Nat} {n m : Nat} (h : sm B g m < B ^ n) : sm B (pad g m) n = sm B g m := by
  rcases Nat.le_total m n with h1 | h1
  · exact pad_sm B g h1
  · have e1 : sm B (pad g m) n = sm B g n := sm_congr B fun i hi => by simp only [pad]; rw [if_pos (by omega)]
    obtain ⟨j, rfl⟩ : ∃ j, m = n + j := ⟨m - n, by omega⟩
    rw [e1]
    rw [sm_split] at h ⊢
    have hp := Nat.pow_pos (n := n) hB
    rcases Nat.eq_zero_or_pos (sm B (fun i => g (n + i)) j) with h2 | h2
    · rw [h2]; simp
    · have := Nat.le_mul_of_pos_left (B ^ n) h2
      omega

/-- what holds at the head of less's loop -/
def LessRel (base : Nat) (w0 wr : World) (s : Value) (i k : Nat) (F G : Nat → Nat) : Prop :=
  ∃ f' : Nat → Nat, wr.ownsRow base 35 1 s i (vl .u32 f' i) ∧ Below base w0 wr ∧ base ≤ wr.heap.size ∧ Lt (2 ^ 32) f' i ∧ sm (2 ^ 32) F i + k * (2 ^ 32) ^ i = sm (2 ^ 32) f' i + sm (2 ^ 32) G i

theorem borrow_eq {a b c v k' Bs P : Nat} (hk : a + k' * Bs = v + b + c) : a * P + k' * (P * Bs) = v * P + b * P + c * P := by
  have e2 := congrArg (· * P) hk
  simp only [Nat.add_mul] at e2
  rw [Nat.mul_comm P Bs, ← Nat.mul_assoc]
  exact e2

theorem LessRel.step {base : Nat} {w0 wr w1 : World} {v : Value} {i k : Nat} {F G f' : Nat → Nat} (o : Obj) (hF : F i < 2 ^ 32) (hG : G i < 2 ^ 32) (hk : k ≤ 1)
    (h2 : Below base w0 wr) (h3 : base ≤ wr.heap.size) (h4 : Lt (2 ^ 32) f' i) (h6 : sm (2 ^ 32) F i + k * (2 ^ 32) ^ i = sm (2 ^ 32) f' i + sm (2 ^ 32) G i)
    (ho : w1.ownsRow base 35 1 v (i + 1) (vl .u32 (jn f' i (fun _ => (F i + 4294967296 - G i - k) % 4294967296)) (i + 1))) (hb : Below base (wr.alloc o) w1) :
    LessRel base w0 w1 v (i + 1) (1 - (F i + 4294967296 - G i - k) / 4294967296) F G := by
  have hb1 := (h2.alloc h3 o).trans hb
  have hs := hb.size
  rw [hsz] at hs
  refine ⟨_, ho, hb1, by omega, h4.jn (m := 1) (fun _ _ => Nat.mod_lt _ (by decide)), ?_⟩
  have e1 : sm (2 ^ 32) (fun _ => (F i + 4294967296 - G i - k) % 4294967296) 1 = (F i + 4294967296 - G i - k) % 4294967296 := by simp [sm]
  rw [sm_jn, e1]
  simp only [sm]
  rw [pow_s (2 ^ 32) i]
  have e := borrow_eq (P := (2 ^ 32) ^ i) (Bs := 2 ^ 32) (a := F i) (b := G i) (c := k) (v := (F i + 4294967296 - G i - k) % 4294967296) (k' := 1 - (F i + 4294967296 - G i - k) / 4294967296) (by omega)
  omega

theorem less_end {F f' G : Nat → Nat} {n k S : Nat} (h : sm (2 ^ 32) F n + k * (2 ^ 32) ^ n = sm (2 ^ 32) f' n + sm (2 ^ 32) G n) (hG : sm (2 ^ 32) G n = S) (hle : S ≤ sm (2 ^ 32) F n) (lf : Lt (2 ^ 32) f' n) :
    sm (2 ^ 32) f' n = sm (2 ^ 32) F n - S := by
  have h1 := sm_lt lf
  rcases k with _ | k
  · omega
  · have e3 : (2 ^ 32) ^ n ≤ (k + 1) * (2 ^ 32) ^ n := Nat.le_mul_of_pos_left _ (by omega)
    omega

set_option maxHeartbeats 1000000 in
theorem less_any (A B : Option Addr) (n m c d : Nat) (f g : Nat → Nat) (w : World) (hA : Rd w .u32 A n f) (hB : Rd w .u32 B m g) (lf : Lt (2 ^ 32) f n) (lg : Lt (2 ^ 32) g m)
    (hn : (n + 1) * 4 ≤ 140737488355328) (hm : (m + 1) * 4 ≤ 140737488355328) (hle : sm (2 ^ 32) g m ≤ sm (2 ^ 32) f n) :
    Calls Try.prog 43 #[.slice A n c, .slice B m d] w fun e w' => One w w' e (sm (2 ^ 32) f n - sm (2 ^ 32) g m) n := by
  obtain ⟨i0, hi, hz0, hz1, hz2⟩ := info_parts info_u32
  have HG := Lib.hid (pad_lt (by decide : 0 < 2 ^ 32) lg n)
  have hlow := Lib.hid (sm_low (B := 2 ^ 32) (by decide) (Nat.lt_of_le_of_lt hle (sm_lt lf)))
  have HLE := Lib.hid hle
  have hpf : Hid (∀ i, i < n → pad f n i = f i) := Lib.hid fun i hi => by simp [pad, hi]
  clear hle
  go_enter Try.func43, Try.ntmps43
  go_wp2
  go_loopw [5, 6, 7] (fun s5 s6 s7 wr => ∃ i k : Nat, i ≤ n ∧ k ≤ 1 ∧ s7 = .int .i64 i ∧ s6 = .int .u64 k ∧ LessRel w.heap.size w wr s5 i k f (pad g m)) (fun _ _ s7 _ => n - (intOf s7).toNat)
  case atStart => exact ⟨0, 0, Nat.zero_le _, by omega, rfl, rfl, fun _ => 0, World.ownsRow_nil _ _ _ _, Below.refl _ _, Nat.le_refl _, fun _ h => absurd h (by omega), by simp [sm]⟩
  case round =>
    obtain ⟨i, k, hi', hk, rfl, rfl, hh⟩ := hrel
    by_cases hlt : i < n
    · have bF := lf i hlt
      have bG := HG.out i hlt
      obtain ⟨f', h1, h2, h3, h4, h6⟩ := hh
      have hA1 := hA.below h2
      have hB1 := hB.below h2
      have hat := Lib.hid (at_any A n c i f wr hA1 lf (by unfold maxLen; omega) (by unfold maxLen; omega))
      rw [hpf.out i hlt] at hat
      have hz := Lib.hid (show ((f i : Int) + 4294967296 - (pad g m i : Int) - (k : Int)) % 4294967296 = (((f i + 4294967296 - pad g m i - k) % 4294967296 : Nat) : Int) by omega)
      have H6 := Lib.hid h6
      clear h6
      go_wp2_with (first
        | (go_at_call_of 54 (Value.slice A n c); refine hat.out.mono ?_; rintro e w' ⟨rfl, rfl⟩)
        | (go_at_call_of 54 (Value.slice B m d); refine (at_any _ _ _ _ g _ hB1 lg (by unfold maxLen; omega) (by unfold maxLen; omega)).mono ?_; rintro e w' ⟨rfl, rfl⟩)
        | (at_builtin; refine wpList_app rfl (.tmp 25) (.tmp 28) _ rfl w.heap.size 35 i0 _ 4 Try.underlying22 hi hz0 hz1 hz2 rfl .u32 _ i f' rfl (h1.alloc _) _ 1 1 (fun _ => (f i + 4294967296 - pad g m i - k) % 4294967296) rfl (rd_z _ .u32 _ _ hz.out) (by unfold maxLen; omega) (by omega) (by rw [hsz]; omega) ?_; intro v1 w1 hown1 hb1))
      go_roundw
      case rel => exact ⟨i + 1, 1 - (f i + 4294967296 - pad g m i - k) / 4294967296, by omega, by omega, by go_num, congrArg (Value.int .u64) (by omega), LessRel.step _ bF bG hk h2 h3 h4 H6.out hown1 hb1⟩
      case measure => simp [intOf]; omega
    · obtain rfl : i = n := by omega
      obtain ⟨f', h1, h2, h3, h4, h6⟩ := hh
      obtain ⟨A1, c1, rfl, hc1, hm1, hr1⟩ := Rd.of_own h1
      have HV := Lib.hid (less_end h6 hlow.out HLE.out h4)
      clear h6
      go_wp2_with (go_at_call 41; refine (rtrim_any _ _ _ f' _ hr1 hc1 (by omega)).mono ?_; rintro e w2 ⟨v2, rfl, hown2, hb2⟩)
      go_ret
      exact One.mk_ hown2 h4 HV.out (Nat.le_refl _) h2 hb2
theorem cm_ge {a b : Nat} (h : ¬ a < b) : 0 ≤ cm a b ∧ cm a b ≤ 1 := by
  rw [cm, if_neg h]
  split <;> omega

/-- one of two -/
def two {α : Type} (x y : α) : Nat → α := fun i => match i with | 0 => x | _ + 1 => y

theorem rds_two (w : World) (A B : Option Addr) (n c m d : Nat) (f g : Nat → Nat) (e : TypeId) (hA : Rd w .u32 A n f) (hn : n ≤ c) (hc : c ≤ maxLen) (hB : Rd w .u32 B m g) (hm : m ≤ d) (hd : d ≤ maxLen) :
    Rds (w.alloc (.cells #[.slice A n c, .slice B m d] e)) (some ⟨w.heap.size, 0, none⟩) 2 (two A B) (two n m) (two c d) (two f g) := fun _ =>
  ⟨w.heap.size, 0, rfl, by simp, fun i hi => by
    rcases i with _ | _ | i
    · refine ⟨?_, hn, hc, hA.alloc _⟩
      rw [World.cell?_alloc_at _ _ _ _ rfl]; rfl
    · refine ⟨?_, hm, hd, hB.alloc _⟩
      rw [World.cell?_alloc_at _ _ _ _ rfl]; rfl
    · omega⟩

theorem lg_two (n m : Nat) (f g : Nat → Nat) : lg (two n m) (two f g) 2 = (decide (4096 < tr f n) || decide (4096 < tr g m)) := by
  simp only [lg, Bool.false_or]; rfl

/-- is one of two too long? -/
def tl2 (n m : Nat) (f g : Nat → Nat) : Bool := decide (4096 < tr f n) || decide (4096 < tr g m)
/-- what Sub answers -/
def subR (n m : Nat) (f g : Nat → Nat) : Nat := if tl2 n m f g = true then 0 else if sm (2 ^ 32) f n < sm (2 ^ 32) g m then 0 else sm (2 ^ 32) f n - sm (2 ^ 32) g m
def subE (n m : Nat) (f g : Nat → Nat) : Nat := if tl2 n m f g = true then 2 else if sm (2 ^ 32) f n < sm (2 ^ 32) g m then 1 else 0

set_option maxHeartbeats 400000 in
theorem rsub_any (A B : Option Addr) (n m c d : Nat) (f g : Nat → Nat) (w : World) (hA : Rd w .u32 A n f) (hB : Rd w .u32 B m g) (lf : Lt (2 ^ 32) f n) (lg : Lt (2 ^ 32) g m)
    (hnc : n ≤ c) (hmd : m ≤ d) (hc : c * 4 ≤ 140737488351232) (hd : d * 4 ≤ 140737488351232) :
    Calls Try.prog 18 #[.slice A n c, .slice B m d] w fun e w' => Res w w' e (subR n m f g) (subE n m f g) := by
  have h2 := rds_two w A B n c m d f g 22 hA hnc (by unfold maxLen; omega) hB hmd (by unfold maxLen; omega)
  have hlong := rlong_any _ 2 2 _ _ _ _ _ h2 (by simp [maxLen]) (fun i hi => by
    rcases i with _ | _ | i
    · show n * 4 ≤ _; omega
    · show m * 4 ≤ _; omega
    · omega)
  rw [lg_two] at hlong
  have HL0 : Calls Try.prog 38 #[.slice (some ⟨w.heap.size, 0, none⟩) 2 2] (w.alloc (.cells #[.slice A n c, .slice B m d] 22)) fun e w' => e = .returned (.bool (tl2 n m f g)) ∧ Below (w.alloc (.cells #[.slice A n c, .slice B m d] 22)).heap.size (w.alloc (.cells #[.slice A n c, .slice B m d] 22)) w' := hlong
  clear hlong h2
  by_cases hl : tl2 n m f g = true
  · rw [hl] at HL0
    have HL := Lib.hid HL0
    have H1 : Hid (subR n m f g = 0) := if_pos hl
    have H2 : Hid (subE n m f g = 2) := if_pos hl
    clear HL0 hl
    go_enter Try.func18, Try.ntmps18
    go_wp2_with (go_at_call 38; refine HL.out.mono ?_; rintro e w2 ⟨rfl, hb2⟩)
    go_ret2
    rw [H1.out, H2.out]
    exact ⟨none, 0, 0, _, rfl, num_nil _, ((Below.refl _ _).alloc (Nat.le_refl _) _).trans (hb2.mono (by rw [hsz]; omega))⟩
  · have hl' : tl2 n m f g = false := by cases h : tl2 n m f g <;> simp_all
    rw [hl'] at HL0
    have HL := Lib.hid HL0
    by_cases hlt : sm (2 ^ 32) f n < sm (2 ^ 32) g m
    · have H1 : Hid (subR n m f g = 0) := (if_neg hl).trans (if_pos hlt)
      have H2 : Hid (subE n m f g = 1) := (if_neg hl).trans (if_pos hlt)
      have HC := Lib.hid (cm_lt hlt)
      clear HL0 hl hl' hlt
      go_enter Try.func18, Try.ntmps18
      go_wp2_with (first
        | (go_at_call 38; refine HL.out.mono ?_; rintro e w2 ⟨rfl, hb2⟩; have hb3 := Lib.hid (((Below.refl w.heap.size w).alloc (Nat.le_refl _) (.cells #[.slice A n c, .slice B m d] 22)).trans (hb2.mono (by rw [hsz]; omega))))
        | (go_at_call 15; refine (rcmp_any A B n m c d f g _ (hA.below hb3.out) (hB.below hb3.out) lf lg hnc hmd (by omega) (by omega)).mono ?_; rw [HC.out]; rintro e w4 ⟨rfl, hb4⟩))
      go_ret2
      rw [H1.out, H2.out]
      exact ⟨none, 0, 0, _, rfl, num_nil _, hb3.out.trans (hb4.mono hb3.out.size)⟩
    · have H1 : Hid (subR n m f g = sm (2 ^ 32) f n - sm (2 ^ 32) g m) := (if_neg hl).trans (if_neg hlt)
      have H2 : Hid (subE n m f g = 0) := (if_neg hl).trans (if_neg hlt)
      have hle : sm (2 ^ 32) g m ≤ sm (2 ^ 32) f n := by omega
      have HC : 0 ≤ cm (sm (2 ^ 32) f n) (sm (2 ^ 32) g m) ∧ cm (sm (2 ^ 32) f n) (sm (2 ^ 32) g m) ≤ 1 := cm_ge hlt
      obtain ⟨z, hz⟩ : ∃ z, cm (sm (2 ^ 32) f n) (sm (2 ^ 32) g m) = z := ⟨_, rfl⟩
      rw [hz] at HC
      obtain ⟨z0, z1⟩ := HC
      have HZ := Lib.hid hz
      have HLE := Lib.hid hle
      clear HL0 hl hl' hlt hz hle
      go_enter Try.func18, Try.ntmps18
      go_wp2_with (first
        | (go_at_call 38; refine HL.out.mono ?_; rintro e w2 ⟨rfl, hb2⟩; have hb3 := Lib.hid (((Below.refl w.heap.size w).alloc (Nat.le_refl _) (.cells #[.slice A n c, .slice B m d] 22)).trans (hb2.mono (by rw [hsz]; omega))))
        | (go_at_call 15; refine (rcmp_any A B n m c d f g _ (hA.below hb3.out) (hB.below hb3.out) lf lg hnc hmd (by omega) (by omega)).mono ?_; rw [HZ.out]; rintro e w4 ⟨rfl, hb4⟩; have hb5 := Lib.hid (hb3.out.trans (hb4.mono hb3.out.size)))
        | (go_at_call 43; refine (less_any A B n m c d f g _ (hA.below hb5.out) (hB.below hb5.out) lf lg (by omega) (by omega) HLE.out).mono ?_; rintro e w6 ⟨A6, n6, c6, f6, rfl, hn6, hle6, hb6⟩))
      go_ret2
      rw [H1.out, H2.out]
      exact ⟨A6, n6, c6, f6, rfl, hn6, hb5.out.trans (hb6.mono hb5.out.size)⟩
end Go.Proofs.Ytfdgpfkjpjhmjaa.nn
