/- The walk of the document's Shr. -/
import Derived.Test.YtfdgpfkjpjhmjaaRefShl
namespace Go.Proofs.Ytfdgpfkjpjhmjaa.nn
open Go.RowKit

theorem shr_word {x y r : Nat} (hr : r ≤ 32) (hx : x < 2 ^ 32) : (x + y * 2 ^ 32) / 2 ^ r % 2 ^ 32 = x / 2 ^ r + y % 2 ^ r * 2 ^ (32 - r) := by
  obtain ⟨_, p2, _⟩ := shr_parts 32 r x y hr hx
  have hp := pow_split 32 r hr
  have hr0 := Nat.two_pow_pos r
  have e1 : x + y * 2 ^ 32 = x + y * 2 ^ (32 - r) * 2 ^ r := by rw [Nat.mul_assoc, ← hp]
  rw [e1, Nat.add_mul_div_right _ _ hr0]
  have h1 := Nat.div_add_mod y (2 ^ r)
  have e2 : y * 2 ^ (32 - r) = y % 2 ^ r * 2 ^ (32 - r) + 2 ^ 32 * (y / 2 ^ r) := by
    have h2 : (2 ^ r * (y / 2 ^ r) + y % 2 ^ r) * 2 ^ (32 - r) = y * 2 ^ (32 - r) := by rw [h1]
    rw [← h2, Nat.add_mul]
    have h3 : 2 ^ r * (y / 2 ^ r) * 2 ^ (32 - r) = 2 ^ 32 * (y / 2 ^ r) := by
      rw [Nat.mul_right_comm, Nat.mul_comm (2 ^ r) (2 ^ (32 - r)), ← hp]
    rw [h3, Nat.add_comm]
  rw [e2, ← Nat.add_assoc, Nat.add_mul_mod_self_left, Nat.mod_eq_of_lt p2]

theorem shr_val {x y r : Nat} (hr : r < 32) (hx : x < 4294967296) (hy : y < 4294967296) : (bits BinOp.or IntKind.u64 ((y : Int) * 4294967296) (x : Int) / 2 ^ r) % 4294967296 = ((x / 2 ^ r + y % 2 ^ r * 2 ^ (32 - r) : Nat) : Int) := by
  have e : (y : Int) * 4294967296 = ((y * 4294967296 : Nat) : Int) := by omega
  have e3 : y * 4294967296 ||| x = x + y * 4294967296 := by
    rw [nat_join 32 _ _ (Nat.mul_mod_left _ _) hx, Nat.add_comm]
  rw [e, u64_or_nat (y * 4294967296) x (by omega) (Nat.lt_trans hx (by decide)), e3, ← shr_word (by omega) hx]
  simp

/-- what holds when i limbs are told -/
def ShrRel (base : Nat) (w0 wr : World) (s : Value) (i r : Nat) (F : Nat → Nat) : Prop :=
  ∃ f' : Nat → Nat, wr.ownsRow base 35 1 s i (vl .u32 f' i) ∧ Below base w0 wr ∧ base ≤ wr.heap.size ∧ Lt (2 ^ 32) f' i ∧ sm (2 ^ 32) f' i * 2 ^ r + F 0 % 2 ^ r = sm (2 ^ 32) F i + F i % 2 ^ r * (2 ^ 32) ^ i

theorem ShrRel.step {base : Nat} {w0 wr w1 : World} {v : Value} {i r x y : Nat} {F f' : Nat → Nat} (o : Obj) (hr : r < 32) (ex : F i = x) (ey : F (i + 1) = y) (hx : x < 2 ^ 32) (h2 : Below base w0 wr) (h3 : base ≤ wr.heap.size) (h4 : Lt (2 ^ 32) f' i)
    (h6 : sm (2 ^ 32) f' i * 2 ^ r + F 0 % 2 ^ r = sm (2 ^ 32) F i + F i % 2 ^ r * (2 ^ 32) ^ i)
    (ho : w1.ownsRow base 35 1 v (i + 1) (vl .u32 (jn f' i (fun _ => x / 2 ^ r + y % 2 ^ r * 2 ^ (32 - r))) (i + 1))) (hb1 : Below base (wr.alloc o) w1) : ShrRel base w0 w1 v (i + 1) r F := by
  obtain ⟨_, p2, p3⟩ := shr_parts 32 r x y (by omega) hx
  have hb2 := (h2.alloc h3 o).trans hb1
  have hs := hb1.size
  rw [hsz] at hs
  refine ⟨_, ho, hb2, by omega, h4.jn (m := 1) (fun _ _ => p2), ?_⟩
  have e1 : sm (2 ^ 32) (jn f' i (fun _ => x / 2 ^ r + y % 2 ^ r * 2 ^ (32 - r))) (i + 1) = sm (2 ^ 32) (upd f' i (x / 2 ^ r + y % 2 ^ r * 2 ^ (32 - r))) (i + 1) := sm_congr _ (jn_one f' _ i)
  rw [e1]
  subst ex
  subst ey
  exact down_val 32 h6 p3

set_option maxRecDepth 100000 in
set_option maxHeartbeats 2000000 in
theorem rshr_any (A : Option Addr) (n c : Nat) (z : Int) (f : Nat → Nat) (w : World) (hA : Rd w .u32 A n f) (lf : Lt (2 ^ 32) f n) (hn : n ≤ c) (hc : c * 4 ≤ 140737488351232) (hz : z ≤ 9223372036854775807) (hzl : -9223372036854775808 ≤ z) :
    Calls Try.prog 29 #[.slice A n c, .int .i64 z] w fun e w' => Res w w' e (shrR n f z) (shrE n f z) := by
  have hle := tr_le f n
  have hcm : c ≤ maxLen := by unfold maxLen; omega
  by_cases hl : 4096 < tr f n
  · have HL := Lib.hid (long_one_r w A n c f hA hn hcm (by omega) true (decide_eq_true hl))
    have H1 : Hid (shrR n f z = 0) := if_pos (.inl hl)
    have H2 : Hid (shrE n f z = 2) := if_pos hl
    clear hl hcm
    go_enter Try.func29, Try.ntmps29
    go_wp2_with (go_at_call 38; refine HL.out.mono ?_; rintro e w2 ⟨rfl, hb2⟩)
    go_ret2
    rw [H1.out, H2.out]
    exact ⟨none, 0, 0, _, rfl, num_nil _, hb2⟩
  · have HL := Lib.hid (long_one_r w A n c f hA hn hcm (by omega) false (decide_eq_false hl))
    by_cases hz0 : z < 0
    · have H1 : Hid (shrR n f z = 0) := if_pos (.inr hz0)
      have H2 : Hid (shrE n f z = 1) := (if_neg hl).trans (if_pos hz0)
      clear hl hcm
      go_enter Try.func29, Try.ntmps29
      go_wp2_with (go_at_call 38; refine HL.out.mono ?_; rintro e w2 ⟨rfl, hb2⟩)
      go_ret2
      rw [H1.out, H2.out]
      exact ⟨none, 0, 0, _, rfl, num_nil _, hb2⟩
    · obtain ⟨s, rfl⟩ := Int.eq_ofNat_of_zero_le (show 0 ≤ z by omega)
      have H1 : Hid (shrR n f s = sm (2 ^ 32) f n / 2 ^ s) := by
        have : ¬ (4096 < tr f n ∨ (s : Int) < 0) := by omega
        show shrR n f s = _
        rw [shrR, if_neg this, Int.toNat_natCast]
      have H2 : Hid (shrE n f s = 0) := (if_neg hl).trans (if_neg hz0)
      obtain ⟨i0, hi, hi0, hi1, hi2⟩ := info_parts info_u32
      by_cases hbig : 131072 < s
      · have hv0 : sm (2 ^ 32) f n / 2 ^ s = 0 := by
          rw [← sm_tr]
          have h1 := down_none 32 (q := s / 32) (r := s % 32) (lf.mono hle) (by omega)
          rw [Nat.div_add_mod] at h1
          exact h1
        have H3 := Lib.hid (H1.out.trans hv0)
        clear hv0 hl hz0 hcm
        go_enter Try.func29, Try.ntmps29
        go_wp2_with (go_at_call 38; refine HL.out.mono ?_; rintro e w2 ⟨rfl, hb2⟩)
        refine wp_loop_rounds 1 ?_
        rw [rounds_succ]
        go_wp2_with fail
        refine (rtrim_any none 0 0 (fun _ => 0) w2 Rd.none_ (Nat.le_refl _) (by omega)).mono ?_
        rintro e w3 ⟨v3, rfl, hown3, hb3⟩
        obtain ⟨A3, c3, rfl, hn3⟩ := own_num hown3 (fun _ _ => Nat.two_pow_pos 32) (tr_trm _ _)
        have HN := Lib.hid hn3
        clear hn3 hown3
        go_wp2
        go_ret2
        rw [H3.out, H2.out]
        exact ⟨A3, _, c3, _, rfl, HN.out, hb2.trans (hb3.mono hb2.size)⟩
      · obtain ⟨q, hq⟩ : ∃ q, s / 32 = q := ⟨_, rfl⟩
        obtain ⟨r, hr⟩ : ∃ r, s % 32 = r := ⟨_, rfl⟩
        have e1 : (s : Int) / 32 = (q : Int) := by omega
        have e2 : (s : Int) % 32 = (r : Int) := by omega
        have r32 : r < 32 := by omega
        have q4 : q ≤ 4096 := by omega
        have bs : s ≤ 131072 := by omega
        have HS := Lib.hid (show s = 32 * q + r by omega)
        have lpad := pad_lt (Nat.two_pow_pos 32) lf
        have HP := Lib.hid lpad
        have HE := Lib.hid (fun f' => down_end 32 (r := r) (f := pad f n) (F := fun j => pad f n (q + j)) (f' := f') (q := q) (L := n) (lpad _) (fun _ _ => rfl) (by simp only [pad]; rw [if_neg (by omega)]))
        have HV0 := Lib.hid (pad_sm (2 ^ 32) f (by omega : n ≤ q + n))
        have LF := Lib.hid lf
        have HAT : Hid (∀ W (i : Nat), Below w.heap.size w W → i ≤ 100000000000000 → Calls Try.prog 54 #[.slice A n c, .int .i64 ((i : Int) + (q : Int))] W fun e w' => e = .returned (.int .u64 (pad f n (q + i) : Nat)) ∧ W = w') := Lib.hid fun W i hW hi => by
          have h := at_any A n c (q + i) f W (hA.below hW) lf (by unfold maxLen; omega) (by unfold maxLen; omega)
          rw [show ((q + i : Nat) : Int) = (i : Int) + (q : Int) by omega] at h
          exact h
        have HAT1 : Hid (∀ W (i : Nat), Below w.heap.size w W → i ≤ 100000000000000 → Calls Try.prog 54 #[.slice A n c, .int .i64 ((i : Int) + (q : Int) + 1)] W fun e w' => e = .returned (.int .u64 (pad f n (q + (i + 1)) : Nat)) ∧ W = w') := Lib.hid fun W i hW hi => by
          have h := at_any A n c (q + (i + 1)) f W (hA.below hW) lf (by unfold maxLen; omega) (by unfold maxLen; omega)
          rw [show ((q + (i + 1) : Nat) : Int) = (i : Int) + (q : Int) + 1 by omega] at h
          exact h
        clear hl hz0 hcm hbig hq hr lpad lf hA
        go_enter Try.func29, Try.ntmps29
        go_wp2_with (go_at_call 38; refine HL.out.mono ?_; rintro e w2 ⟨rfl, hb2⟩)
        have hz2 := hb2.size
        go_loopw [6, 7] (fun s6 s7 wr => ∃ i : Nat, i ≤ n ∧ s7 = .int .i64 i ∧ ShrRel w.heap.size w wr s6 i r (fun j => pad f n (q + j))) (fun _ s7 _ => n - (intOf s7).toNat)
        case atStart => exact ⟨0, Nat.zero_le _, rfl, fun _ => 0, World.ownsRow_nil _ _ _ _, hb2, hz2, fun _ h => absurd h (by omega), by simp [sm]⟩
        case round =>
          clear hb2 hz2
          obtain ⟨i, hi', rfl, f', h1, h2, h3, h4, h6⟩ := hrel
          by_cases hlt : i < n
          · obtain ⟨x, hx⟩ : ∃ x, pad f n (q + i) = x := ⟨_, rfl⟩
            obtain ⟨y, hy⟩ : ∃ y, pad f n (q + (i + 1)) = y := ⟨_, rfl⟩
            have hxl : x < 4294967296 := by rw [← hx]; exact HP.out (q + i + 1) _ (by omega)
            have hyl : y < 4294967296 := by rw [← hy]; exact HP.out (q + i + 2) _ (by omega)
            have c1 := HAT.out _ i h2 (by omega)
            have c2 := HAT1.out _ i h2 (by omega)
            rw [hx] at c1
            rw [hy] at c2
            have C1 := Lib.hid c1
            have C2 := Lib.hid c2
            have HX := Lib.hid hx
            have HY := Lib.hid hy
            have H6 := Lib.hid h6
            have hz := Lib.hid (shr_val r32 hxl hyl)
            clear c1 c2 hx hy h6
            go_wp2_with fail
            refine C2.out.mono ?_
            rintro e w' ⟨rfl, rfl⟩
            go_wp2_with fail
            refine C1.out.mono ?_
            rintro e w' ⟨rfl, rfl⟩
            go_wp2_with (at_builtin; refine wpList_app rfl (.tmp 39) (.tmp 45) _ rfl w.heap.size 35 i0 _ 4 Try.underlying22 hi hi0 hi1 hi2 rfl .u32 _ i f' rfl (h1.alloc _) _ 1 1 (fun _ => x / 2 ^ r + y % 2 ^ r * 2 ^ (32 - r)) rfl (rd_z _ .u32 _ _ hz.out) (by unfold maxLen; omega) (by omega) (by rw [hsz]; omega) ?_; intro v1 w1 hown1 hb1)
            go_roundw
            case rel => exact ⟨i + 1, by omega, by go_num, ShrRel.step _ r32 HX.out HY.out hxl h2 h3 h4 H6.out hown1 hb1⟩
            case measure => simp [intOf]; omega
          · obtain rfl : i = n := by omega
            obtain ⟨A1, c1, rfl, hc1, hm1, hr1⟩ := Rd.of_own h1
            have hv := HE.out f' h6
            rw [HV0.out, ← HS.out] at hv
            have HV := Lib.hid hv
            have HRT := Lib.hid (rtrim_any A1 i c1 f' _ hr1 hc1 (by omega))
            clear hv h6 h1
            go_wp2_with fail
            refine HRT.out.mono ?_
            rintro e w3 ⟨v3, rfl, hown3, hb3⟩
            obtain ⟨A3, c3, rfl, hn3⟩ := own_num hown3 (h4.mono (tr_le f' i)) (tr_trm _ _)
            rw [sm_tr, HV.out] at hn3
            have HN := Lib.hid hn3
            clear hn3 hown3
            go_wp2
            go_ret2
            rw [H1.out, H2.out]
            exact ⟨A3, _, c3, _, rfl, HN.out, h2.trans (hb3.mono h2.size)⟩
end Go.Proofs.Ytfdgpfkjpjhmjaa.nn
