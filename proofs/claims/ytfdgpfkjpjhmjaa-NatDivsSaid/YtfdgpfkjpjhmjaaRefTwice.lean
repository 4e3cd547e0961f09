/- The walks of the document's twice and Bits. -/
import Derived.Test.YtfdgpfkjpjhmjaaShifts
import Derived.Test.YtfdgpfkjpjhmjaaRefCmp
namespace Go.Proofs.Ytfdgpfkjpjhmjaa.nn
open Go.RowKit

/-- what holds at the head of twice's loop -/
def TwRel (base : Nat) (w0 wr : World) (s : Value) (i b b0 : Nat) (f : Nat → Nat) : Prop :=
  ∃ f' : Nat → Nat, wr.ownsRow base 35 1 s i (vl .u32 f' i) ∧ Below base w0 wr ∧ base ≤ wr.heap.size ∧ Lt (2 ^ 32) f' i ∧ sm (2 ^ 32) f' i + b * (2 ^ 32) ^ i = 2 * sm (2 ^ 32) f i + b0

theorem or_one {x b : Nat} (hb : b ≤ 1) : bits BinOp.or IntKind.u32 ((x : Int) * 2 % 4294967296) (b : Int) = ((x * 2 % 4294967296 + b : Nat) : Int) := by
  have e : (x : Int) * 2 % 4294967296 = ((x * 2 % 4294967296 : Nat) : Int) := by omega
  have h1 : x * 2 % 4294967296 < 4294967296 := Nat.mod_lt _ (by decide)
  rw [e, u32_or_nat _ _ h1 (by omega), nat_join 1 _ _ (by omega) (by omega)]

theorem TwRel.step {base : Nat} {w0 wr w1 : World} {v : Value} {i b b0 : Nat} {f f' : Nat → Nat} (o : Obj) (hb : b ≤ 1) (h2 : Below base w0 wr) (h3 : base ≤ wr.heap.size) (h4 : Lt (2 ^ 32) f' i)
    (h6 : sm (2 ^ 32) f' i + b * (2 ^ 32) ^ i = 2 * sm (2 ^ 32) f i + b0)
    (ho : w1.ownsRow base 35 1 v (i + 1) (vl .u32 (jn f' i (fun _ => f i * 2 % 4294967296 + b)) (i + 1))) (hb1 : Below base (wr.alloc o) w1) : TwRel base w0 w1 v (i + 1) (f i / 2147483648) b0 f := by
  have hb2 := (h2.alloc h3 o).trans hb1
  have hs := hb1.size
  rw [hsz] at hs
  refine ⟨_, ho, hb2, by omega, h4.jn (m := 1) (fun _ _ => by show f i * 2 % 4294967296 + b < 2 ^ 32; omega), ?_⟩
  have e1 : sm (2 ^ 32) (fun _ => f i * 2 % 4294967296 + b) 1 = f i * 2 % 4294967296 + b := by simp [sm]
  have er : sm (2 ^ 32) f (i + 1) = sm (2 ^ 32) f i + f i * (2 ^ 32) ^ i := rfl
  rw [sm_jn, e1, er, pow_s (2 ^ 32) i]
  have e := congrArg (· * (2 ^ 32) ^ i) (show f i * 2 % 4294967296 + b + f i / 2147483648 * 2 ^ 32 = 2 * f i + b by omega)
  simp only [Nat.add_mul] at e
  have e2 : f i / 2147483648 * ((2 ^ 32) ^ i * 2 ^ 32) = f i / 2147483648 * 2 ^ 32 * (2 ^ 32) ^ i := by ac_rfl
  have e3 : 2 * (f i * (2 ^ 32) ^ i) = 2 * f i * (2 ^ 32) ^ i := by ac_rfl
  rw [e2, Nat.mul_add, e3, Nat.add_mul]
  omega

set_option maxHeartbeats 1000000 in
theorem twice_any (A : Option Addr) (n c b : Nat) (f : Nat → Nat) (w : World) (hA : Rd w .u32 A n f) (lf : Lt (2 ^ 32) f n) (hn : (n + 1) * 4 ≤ 140737488355328) (hb : b ≤ 1) :
    Calls Try.prog 50 #[.slice A n c, .int .u32 b] w fun e w' => One w w' e (2 * sm (2 ^ 32) f n + b) (n + 1) := by
  obtain ⟨i0, hi, hz0, hz1, hz2⟩ := info_parts info_u32
  obtain ⟨b0, hb0⟩ : ∃ b0, b = b0 := ⟨_, rfl⟩
  have HB0 := Lib.hid hb0
  go_enter Try.func50, Try.ntmps50
  clear hb0
  go_wp2
  go_loopw [1, 5, 6] (fun s1 s5 s6 wr => ∃ i b' : Nat, i ≤ n ∧ b' ≤ 1 ∧ s6 = .int .i64 i ∧ s1 = .int .u32 b' ∧ TwRel w.heap.size w wr s5 i b' b f) (fun _ _ s6 _ => n - (intOf s6).toNat)
  case atStart => exact ⟨0, b, Nat.zero_le _, hb, rfl, rfl, fun _ => 0, World.ownsRow_nil _ _ _ _, Below.refl _ _, Nat.le_refl _, fun _ h => absurd h (by omega), by simp [sm]⟩
  case round =>
    obtain ⟨i, b', hi', hb', rfl, rfl, f', h1, h2, h3, h4, h6⟩ := hrel
    by_cases hlt : i < n
    · obtain ⟨bb, off, rfl, _, hcell⟩ := (hA.below h2) (by omega)
      have hx := hcell i hlt
      have bx := lf i hlt
      have hz := Lib.hid (or_one (x := f i) hb')
      have hbl := hA.lt rfl (by omega)
      have hx2 : Hid (∀ (o : Obj) (w1 : World), Below w.heap.size (World.alloc _ o) w1 → w1.cell? ⟨bb, off + i, none⟩ = some (.int .u32 (f i : Int))) := Lib.hid fun o w1 hb1 =>
        ((hb1.cell (p := ⟨bb, off + i, none⟩) hbl).trans (World.cell?_alloc_lt _ o _ (Nat.lt_of_lt_of_le hbl h3))).trans hx
      have H6 := Lib.hid h6
      clear hcell h6
      go_wp2_with (at_builtin; refine wpList_app rfl (.tmp 13) (.tmp 21) _ rfl w.heap.size 35 i0 _ 4 Try.underlying22 hi hz0 hz1 hz2 rfl .u32 _ i f' rfl (h1.alloc _) _ 1 1 (fun _ => f i * 2 % 4294967296 + b') rfl (rd_z _ .u32 _ _ hz.out) (by unfold maxLen; omega) (by omega) (by rw [hsz]; omega) ?_; intro v1 w1 hown1 hb1; have hx3 := hx2.out _ w1 hb1)
      go_roundw
      case rel => exact ⟨i + 1, f i / 2147483648, by omega, by omega, by go_num, congrArg (Value.int .u32) (by omega), TwRel.step _ hb' h2 h3 h4 H6.out hown1 hb1⟩
      case measure => simp [intOf]; omega
    · obtain rfl : i = n := by omega
      have H6 := Lib.hid h6
      clear h6
      go_wp2_with (at_builtin; refine wpList_app rfl (.tmp 28) (.tmp 30) _ rfl w.heap.size 35 i0 _ 4 Try.underlying22 hi hz0 hz1 hz2 rfl .u32 _ i f' rfl (h1.alloc _) _ 1 1 (fun _ => b') rfl (rd_one _ .u32 b' _) (by unfold maxLen; omega) (by omega) (by rw [hsz]; omega) ?_; intro v1 w1 hown1 hb1; obtain ⟨A1, c1, rfl, hc1, hm1, hr1⟩ := Rd.of_own hown1)
      have hbw1 := (h2.alloc h3 (.cells #[.int .u32 (b' : Int)] 35)).trans hb1
      have l1 : Lt (2 ^ 32) (jn f' i (fun _ => b')) (i + 1) := h4.jn (m := 1) (fun _ _ => by show b' < 2 ^ 32; omega)
      have hv : sm (2 ^ 32) (jn f' i (fun _ => b')) (i + 1) = 2 * sm (2 ^ 32) f i + b := by
        rw [sm_jn]
        have e1 : sm (2 ^ 32) (fun _ => b') 1 = b' := by simp [sm]
        rw [e1]
        exact H6.out
      have HV := Lib.hid hv
      clear hv
      refine (rtrim_any _ _ _ _ _ hr1 hc1 (by omega)).mono ?_
      rintro e w2 ⟨v2, rfl, hown2, hb2⟩
      go_wp2
      go_ret
      exact One.mk_ hown2 l1 HV.out (Nat.le_refl _) hbw1 hb2

set_option maxHeartbeats 400000 in
theorem rbits_any (A : Option Addr) (n c : Nat) (f : Nat → Nat) (w : World) (hA : Rd w .u32 A n f) (lf : Lt (2 ^ 32) f n) (hn : n ≤ c) (hreach : n * 4 ≤ 140737488355328) :
    Calls Try.prog 31 #[.slice A n c] w fun e w' => e = .returned (.int .i64 (bl (sm (2 ^ 32) f n))) ∧ Below w.heap.size w w' := by
  have hle := tr_le f n
  rcases hj : tr f n with _ | j
  · have H0 : Hid (bl (sm (2 ^ 32) f n) = 0) := by
      rw [← sm_tr, hj]; rfl
    have HT := Lib.hid (rtrim_at A n c 0 f w hj hA hn hreach)
    clear hj
    go_enter Try.func31, Try.ntmps31
    go_wp2_with (go_at_call 41; refine HT.out.mono ?_; rintro e w' ⟨A1, c1, rfl, hr1, hb1⟩)
    go_ret
    exact ⟨by rw [H0.out]; rfl, hb1⟩
  · obtain ⟨h1, h2, h3⟩ := bits_val lf hj
    have bx := lf j h3
    have HT := Lib.hid (rtrim_at A n c (j + 1) f w hj hA hn hreach)
    obtain ⟨K, hK⟩ : ∃ K, bl (sm (2 ^ 32) f n) = K := ⟨_, rfl⟩
    rw [hK] at h1 ⊢
    have H1 := Lib.hid h1
    have hblx := Lib.hid (bl_le bx)
    clear h1 h2 hj hK
    go_enter Try.func31, Try.ntmps31
    go_wp2_with fail
    refine HT.out.mono ?_
    rintro e w' ⟨A1, c1, rfl, hr1, hb1⟩
    obtain ⟨b, off, rfl, _, hcell⟩ := hr1 (by omega)
    have hx := hcell j (by omega)
    clear hcell hr1
    go_wp2
    go_loop [4, 5] (fun s4 s5 => ∃ N t : Nat, t < 4294967296 ∧ s4 = .int .i64 N ∧ s5 = .int .u32 t ∧ N ≤ 32 * j + 32 ∧ Hid (N + bl t = K)) (fun _ s5 => (intOf s5).toNat)
    case atStart => exact ⟨32 * j, f j, bx, by go_num, rfl, by omega, Lib.hid H1.out.symm⟩
    case round =>
      obtain ⟨N, t, ht, rfl, rfl, hN, hI⟩ := hrel
      rcases Nat.eq_zero_or_pos t with h0 | h0
      · subst h0
        go_wp2
        go_ret
        exact ⟨ret_int (by have := hI.out; rw [bl_zero] at this; omega), hb1⟩
      · have hh := bl_half (x := t) (by omega)
        have hI2 : Hid (N + 1 + bl (t / 2) = K) := Lib.hid (by have := hI.out; omega)
        have hN2 : N + 1 ≤ 32 * j + 32 := by have := hI.out; have := H1.out; have := hblx.out; omega
        clear hh
        go_wp2
        go_round
        case rel => exact ⟨N + 1, t / 2, by omega, by go_num, congrArg (Value.int .u32) (by omega), hN2, hI2⟩
        case measure => simp [intOf]; omega
end Go.Proofs.Ytfdgpfkjpjhmjaa.nn
