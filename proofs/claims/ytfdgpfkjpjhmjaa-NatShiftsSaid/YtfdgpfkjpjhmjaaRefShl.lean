/- The walk of the document's Shl. -/
import Derived.Test.YtfdgpfkjpjhmjaaRefTwice
namespace Go.Proofs.Ytfdgpfkjpjhmjaa.nn
open Go.RowKit

/-- what holds when out was doubled i times -/
def ShlRel (w0 wr : World) (s : Value) (R M : Nat) : Prop :=
  ∃ A n c f, s = .slice A n c ∧ Num wr A n c f R ∧ n ≤ M ∧ Below w0.heap.size w0 wr

theorem shl_start {base q p : Nat} {w0 w : World} {v : Value} {f : Nat → Nat} (ho : w.ownsRow base 35 1 v (q + p) (vl .u32 (jn (fun _ => 0) q f) (q + p))) (lf : Lt (2 ^ 32) f p) (hp : 0 < p) (ht : f (p - 1) ≠ 0) (hb : Below w0.heap.size w0 w) :
    ShlRel w0 w v (sm (2 ^ 32) f p * 2 ^ (32 * q)) (q + p) := by
  obtain ⟨A, c, e, h1⟩ := own_num ho (Lt.jn (B := 2 ^ 32) (f := fun _ => 0) (n := q) (fun _ _ => Nat.two_pow_pos 32) lf) (.inr (by
    have := jn_hi (fun _ => 0) f q (p - 1)
    rw [show q + p - 1 = q + (p - 1) by omega, this]
    exact ht))
  rw [sm_jn, zero_sm, Nat.zero_add, ← Nat.pow_mul] at h1
  exact ⟨A, _, c, _, e, h1, Nat.le_refl _, hb⟩

theorem long_one_r (w : World) (A : Option Addr) (n c : Nat) (f : Nat → Nat) (hA : Rd w .u32 A n f) (hn : n ≤ c) (hc : c ≤ maxLen) (hreach : n * 4 ≤ 140737488351232) (b : Bool) (hb : decide (4096 < tr f n) = b) :
    Calls Try.prog 38 #[.slice (some ⟨w.heap.size, 0, none⟩) 1 1] (w.alloc (.cells #[.slice A n c] 22)) fun e' w' => e' = .returned (.bool b) ∧ Below w.heap.size w w' := by
  have h := rlong_any _ 1 1 _ _ _ _ _ (rds_one w A n c f 22 hA hn hc) (by simp [maxLen]) (fun _ _ => hreach)
  have e1 : lg (fun _ => n) (fun _ => f) 1 = b := by simp only [lg, Bool.false_or]; exact hb
  rw [e1] at h
  exact h.mono fun e w' ⟨h1, h2⟩ => ⟨h1, ((Below.refl _ _).alloc (Nat.le_refl _) _).trans (h2.mono (by rw [hsz]; omega))⟩

set_option maxRecDepth 100000 in
set_option maxHeartbeats 2000000 in
theorem rshl_any (A : Option Addr) (n c : Nat) (z : Int) (f : Nat → Nat) (w : World) (hA : Rd w .u32 A n f) (lf : Lt (2 ^ 32) f n) (hn : n ≤ c) (hc : c * 4 ≤ 140737488351232) (hz : z ≤ 9223372036854775807) (hzl : -9223372036854775808 ≤ z) :
    Calls Try.prog 27 #[.slice A n c, .int .i64 z] w fun e w' => Res w w' e (shlR n f z) (shlE n f z) := by
  have hle := tr_le f n
  have hcm : c ≤ maxLen := by unfold maxLen; omega
  by_cases hl : 4096 < tr f n
  · have HL := Lib.hid (long_one_r w A n c f hA hn hcm (by omega) true (decide_eq_true hl))
    have H1 : Hid (shlR n f z = 0) := if_pos (.inl hl)
    have H2 : Hid (shlE n f z = 2) := if_pos hl
    clear hl hcm
    go_enter Try.func27, Try.ntmps27
    go_wp2_with (go_at_call 38; refine HL.out.mono ?_; rintro e w2 ⟨rfl, hb2⟩)
    go_ret2
    rw [H1.out, H2.out]
    exact ⟨none, 0, 0, _, rfl, num_nil _, hb2⟩
  · have HL := Lib.hid (long_one_r w A n c f hA hn hcm (by omega) false (decide_eq_false hl))
    by_cases hz0 : z < 0
    · have H1 : Hid (shlR n f z = 0) := if_pos (.inr (.inl hz0))
      have H2 : Hid (shlE n f z = 1) := (if_neg hl).trans (if_pos hz0)
      clear hl hcm
      go_enter Try.func27, Try.ntmps27
      go_wp2_with (go_at_call 38; refine HL.out.mono ?_; rintro e w2 ⟨rfl, hb2⟩)
      go_ret2
      rw [H1.out, H2.out]
      exact ⟨none, 0, 0, _, rfl, num_nil _, hb2⟩
    · have HB : Hid (∀ W, Below w.heap.size w W → Calls Try.prog 31 #[.slice A n c] W fun e w' => e = .returned (.int .i64 (bl (sm (2 ^ 32) f n))) ∧ Below W.heap.size W w') := Lib.hid fun W hW => rbits_any A n c f W (hA.below hW) lf hn (by omega)
      by_cases hv0 : sm (2 ^ 32) f n = 0
      · have H1 : Hid (shlR n f z = 0) := if_pos (.inr (.inr (.inl hv0)))
        have H2 : Hid (shlE n f z = 0) := (if_neg hl).trans ((if_neg hz0).trans (if_pos hv0))
        rw [hv0, bl_zero] at HB
        clear hl hv0 hcm
        go_enter Try.func27, Try.ntmps27
        go_wp2_with fail
        refine HL.out.mono ?_
        rintro e w2 ⟨rfl, hb2⟩
        go_wp2_with fail
        refine (HB.out _ hb2).mono ?_
        rintro e w3 ⟨rfl, hb3⟩
        have hb23 := hb2.trans (hb3.mono hb2.size)
        go_wp2
        go_ret2
        rw [H1.out, H2.out]
        exact ⟨none, 0, 0, _, rfl, num_nil _, hb23⟩
      · have hbl0 := (bl_ge hv0).2
        obtain ⟨K, hK⟩ : ∃ K, bl (sm (2 ^ 32) f n) = K := ⟨_, rfl⟩
        have hblm : K ≤ 32 * tr f n := by
          have h1 := sm_lt (lf.mono hle)
          rw [sm_tr, ← Nat.pow_mul] at h1
          rw [← hK]
          exact bl_le h1
        rw [hK] at HB hbl0
        have k0 : ((K : Int) == 0) = false := by rw [beq_eq_false_iff_ne]; omega
        have hp0 : 0 < tr f n := by omega
        have hlast : f (tr f n - 1) ≠ 0 := by rcases tr_trm f n with h | h; omega; exact h
        by_cases hbig : 131072 - (K : Int) < z
        · have H1 : Hid (shlR n f z = 0) := if_pos (.inr (.inr (.inr (by rw [hK]; exact hbig))))
          have H2 : Hid (shlE n f z = 2) := (if_neg hl).trans ((if_neg hz0).trans ((if_neg hv0).trans (if_pos (by rw [hK]; exact hbig))))
          have hKs : K ≤ 131072 := by omega
          clear hl hv0 hK hcm hlast hp0
          by_cases hz2 : 131072 < z
          · go_enter Try.func27, Try.ntmps27
            go_wp2_with fail
            refine HL.out.mono ?_
            rintro e w2 ⟨rfl, hb2⟩
            go_wp2_with fail
            refine (HB.out _ hb2).mono ?_
            rintro e w3 ⟨rfl, hb3⟩
            have hb23 := hb2.trans (hb3.mono hb2.size)
            go_wp2
            go_ret2
            rw [H1.out, H2.out]
            exact ⟨none, 0, 0, _, rfl, num_nil _, hb23⟩
          · go_enter Try.func27, Try.ntmps27
            go_wp2_with fail
            refine HL.out.mono ?_
            rintro e w2 ⟨rfl, hb2⟩
            go_wp2_with fail
            refine (HB.out _ hb2).mono ?_
            rintro e w3 ⟨rfl, hb3⟩
            have hb23 := hb2.trans (hb3.mono hb2.size)
            go_wp2_with fail
            refine (HB.out _ hb23).mono ?_
            rintro e w4 ⟨rfl, hb4⟩
            have hb24 := hb23.trans (hb4.mono hb23.size)
            go_wp2
            go_ret2
            rw [H1.out, H2.out]
            exact ⟨none, 0, 0, _, rfl, num_nil _, hb24⟩
        · obtain ⟨s, rfl⟩ := Int.eq_ofNat_of_zero_le (show 0 ≤ z by omega)
          have H1 : Hid (shlR n f s = sm (2 ^ 32) f (tr f n) * 2 ^ s) := by
            have : ¬ (4096 < tr f n ∨ (s : Int) < 0 ∨ sm (2 ^ 32) f n = 0 ∨ 131072 - (bl (sm (2 ^ 32) f n) : Int) < s) := by rw [hK]; omega
            show shlR n f s = _
            rw [shlR, if_neg this, Int.toNat_natCast, sm_tr]
          have H2 : Hid (shlE n f s = 0) := (if_neg hl).trans ((if_neg hz0).trans ((if_neg hv0).trans (if_neg (by rw [hK]; exact hbig))))
          obtain ⟨p, hp⟩ : ∃ p, tr f n = p := ⟨_, rfl⟩
          have lp := lf.mono hle
          rw [hp] at H1 hp0 hlast hblm lp hle
          have HP := Lib.hid hp
          have h4096 : p ≤ 4096 := by omega
          have bs : s ≤ 131072 := by omega
          have bK : K + s ≤ 131072 := by omega
          obtain ⟨q, hq⟩ : ∃ q, s / 32 = q := ⟨_, rfl⟩
          obtain ⟨r, hr⟩ : ∃ r, s % 32 = r := ⟨_, rfl⟩
          have e1 : (s : Int) / 32 = (q : Int) := by omega
          have e2 : (s : Int) % 32 = (r : Int) := by omega
          have r32 : r < 32 := by omega
          have q4 : q ≤ 4096 := by omega
          have HS := Lib.hid (show s = 32 * q + r by omega)
          have LP := Lib.hid lp
          have HLA := Lib.hid hlast
          have hn4 : n * 4 ≤ 140737488355328 := by omega
          obtain ⟨i0, hi, hi0, hi1, hi2⟩ := info_parts info_u32
          clear hl hz0 hv0 hK hcm hbig hp hlast lp lf hq hr
          go_enter Try.func27, Try.ntmps27
          go_wp2_with fail
          refine HL.out.mono ?_
          rintro e w2 ⟨rfl, hb2⟩
          go_wp2_with fail
          refine (HB.out _ hb2).mono ?_
          rintro e w3 ⟨rfl, hb3⟩
          have hb23 := hb2.trans (hb3.mono hb2.size)
          go_wp2_with fail
          refine (HB.out _ hb23).mono ?_
          rintro e w4 ⟨rfl, hb4⟩
          have hb24 := hb23.trans (hb4.mono hb23.size)
          have hz4 := hb24.size
          clear hb2 hb3 hb4 hb23
          go_wp2_with (refine wpList_make_full _ rfl _ _ 22 rfl w4.heap.size 35 i0 _ 1 Try.underlying22 hi hi0 hi1 .i64 .i64 _ _ q rfl rfl ?c1 ?c2 ?c3 ?c4 ?c5 ?_; rotate_left 5; intro w5 hown5 hg5)
          case c1 => rfl
          case c2 => rfl
          case c3 => rw [hi2]; omega
          case c4 => unfold maxLen; omega
          case c5 => omega
          rw [made_vl] at hown5
          have hb5 : Below w4.heap.size w4 w5 := (Below.refl _ _).grown (row := none) hg5 (Nat.le_refl _) (fun k hk => by cases hk)
          have hb25 := hb24.trans (hb5.mono hz4)
          refine (rtrim_at A n c p f w5 HP.out (hA.below hb25) hn hn4).mono ?_
          rintro e w6 ⟨A6, c6, rfl, hr6, hb6⟩
          have hown6 := hown5.kept (w' := w6) (row := none) ⟨hb6.os, hb6.tape, hb6.output, hb6.size, fun k hk _ => hb6.block k hk⟩ (.inr (by simp [Value.ownBlock]))
          have hz6 : w4.heap.size ≤ w6.heap.size := Nat.le_trans hb5.size hb6.size
          have hb26 := hb25.trans (hb6.mono hb25.size)
          clear hown5 hg5
          go_wp2_with (at_builtin; refine wpList_app rfl (.tmp 28) (.tmp 30) _ rfl w4.heap.size 35 i0 _ 4 Try.underlying22 hi hi0 hi1 hi2 rfl .u32 _ q (fun _ => 0) rfl hown6 _ p c6 f rfl hr6 ?d1 ?d2 ?d3 ?d4; rotate_left 3; intro v7 w7 hown7 hb7)
          case d1 => unfold maxLen; omega
          case d2 => omega
          case d3 => exact hz6
          have hb27 : Below w.heap.size w w7 := hb26.trans (hb7.mono hz4)
          have hst := shl_start hown7 LP.out hp0 HLA.out hb27
          clear hown6 hown7 hb5 hb6 hb7 hb25 hb26 hr6
          go_loopw [6, 7] (fun s6 s7 wr => ∃ i : Nat, i ≤ r ∧ s7 = .int .i64 i ∧ ShlRel w wr s6 (sm (2 ^ 32) f p * 2 ^ (32 * q) * 2 ^ i) (q + p + i)) (fun _ s7 _ => r - (intOf s7).toNat)
          case atStart => exact ⟨0, Nat.zero_le _, rfl, by rw [Nat.pow_zero, Nat.mul_one]; exact hst⟩
          case round =>
            clear hst hb27
            obtain ⟨i, hi', rfl, A8, n8, c8, f8, rfl, hn8, hl8, hb8⟩ := hrel
            by_cases hlt : i < r
            · have HN := Lib.hid hn8
              have HT := Lib.hid (twice_any A8 n8 c8 0 f8 _ hn8.rd hn8.lt (by omega) (by omega))
              clear hn8
              go_wp2_with fail
              refine HT.out.mono ?_
              rintro e w9 ⟨A9, n9, c9, f9, rfl, hn9, hl9, hb9⟩
              have hv : 2 * sm (2 ^ 32) f8 n8 + 0 = sm (2 ^ 32) f p * 2 ^ (32 * q) * 2 ^ (i + 1) := by
                rw [HN.out.val, pow_s 2 i, ← Nat.mul_assoc (sm (2 ^ 32) f p * 2 ^ (32 * q))]
                omega
              rw [hv] at hn9
              have HN9 := Lib.hid hn9
              clear hn9 hv
              go_wp2
              go_roundw
              case rel => exact ⟨i + 1, by omega, by go_num, A9, n9, c9, f9, rfl, HN9.out, by omega, hb8.trans (hb9.mono hb8.size)⟩
              case measure => simp [intOf]; omega
            · obtain rfl : i = r := by omega
              have hv : sm (2 ^ 32) f p * 2 ^ (32 * q) * 2 ^ i = sm (2 ^ 32) f p * 2 ^ s := by rw [HS.out, Nat.pow_add, Nat.mul_assoc]
              rw [hv] at hn8
              have HN := Lib.hid hn8
              clear hn8 hv
              go_wp2
              go_ret2
              rw [H1.out, H2.out]
              exact ⟨A8, n8, c8, f8, rfl, HN.out, hb8⟩
end Go.Proofs.Ytfdgpfkjpjhmjaa.nn
