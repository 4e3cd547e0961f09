/- The walk of decimalChunks: a number in chunks of 19 decimal digits, the lowest first. -/
import Derived.Test.YtnikoojgoiobjaaDoorDivideBy
import Derived.Test.YtnikoojgoiobjaaDoorCmp64
import Derived.Test.YtnikoojgoiobjaaDoorAppend
import Derived.Deep.LoopGhost
namespace Go.Proofs.YtnikoojgoiobjaaDoor.nn
open Go.RowKit

def D19 : Nat := 10000000000000000000
theorem d19_pos : 0 < D19 := by decide
theorem d19_lt : D19 < W64 := by decide

/-- i chunks of V are in the row v, what is left stands in block g -/
structure DcRel (base B2 : Nat) (w wr : World) (g : Nat) (V i n : Nat) (f : Nat → Nat) (cur : Array Value) (v : Value) (ch : Nat → Nat) : Prop where
  blk : Bk wr g 48 cur
  ints : Ints cur .u64 0 n f
  lt : Lt W64 f n
  trm : Trm f n
  val : sm W64 f n = V / D19 ^ i
  own : wr.ownsRow B2 48 1 v i (vl .u64 ch i)
  chs : ∀ j, j < i → ch j = V / D19 ^ j % D19
  one : 1 ≤ i
  last : i = 1 ∨ V / D19 ^ (i - 1) ≠ 0
  below : Below base w wr
  gB : g < B2
  bB : base ≤ g
  sz : B2 ≤ wr.heap.size

theorem div_pow (V D i : Nat) : V / D ^ (i + 1) = V / D ^ i / D := by rw [Nat.pow_succ, Nat.div_div_eq_div_mul]
theorem pow_div_lt {x k : Nat} (h : x < 2 ^ (k + 1)) : x / D19 < 2 ^ k := by
  rw [Nat.div_lt_iff_lt_mul d19_pos]
  have : 2 ^ k * 2 ≤ 2 ^ k * D19 := Nat.mul_le_mul_left _ (by decide)
  rw [Nat.pow_succ] at h
  omega

/-- the chunks: a row of its own with k of them -/
def Chunks (base : Nat) (w w' : World) (e : Ending) (V M : Nat) : Prop :=
  ∃ v k ch, e = .returned v ∧ w'.ownsRow base 48 1 v k (vl .u64 ch k) ∧ (∀ j, j < k → ch j = V / D19 ^ j % D19) ∧ 1 ≤ k ∧ k ≤ M ∧ (k = 1 ∨ V / D19 ^ (k - 1) ≠ 0) ∧ V / D19 ^ k = 0 ∧ Below base w w'

set_option maxRecDepth 100000 in
set_option maxHeartbeats 2000000 in
theorem chunks_any (base g n c : Nat) (cur : Array Value) (f : Nat → Nat) (w : World) (hb : Bk w g 48 cur) (hi : Ints cur .u64 0 n f) (lf : Lt W64 f n) (hbg : base ≤ g) (hn : n ≤ c) (hc : c ≤ 1000000) :
    Calls Tryd.prog 28 #[.slice (some ⟨g, 0, none⟩) n c] w fun e w' => Chunks base w w' e (sm W64 f n) (64 * n + 1) := by
  obtain ⟨i0, hi0, hz0, hz1, hz2⟩ := info_parts info_u64
  have hdv := divideBy_any g 0 n c 48 cur f D19 w hb hi lf d19_pos d19_lt (by unfold maxLen; omega)
  obtain ⟨V, hV⟩ : ∃ V, sm W64 f n = V := ⟨_, rfl⟩
  have hVk : V < 2 ^ (64 * n) := by
    rw [← hV, Nat.pow_mul 2 64 n]
    exact sm_lt lf
  rw [hV]
  have HDV : Hid (Calls Tryd.prog 48 #[.slice (some ⟨g, 0, none⟩) n c, .int .u64 10000000000000000000] w fun e' w' => DivEnd w w' g 48 cur 0 n f D19 e') := Lib.hid hdv
  have HV := Lib.hid hV
  have hgw := hb.lt
  have HB := Lib.hid (Below.refl base w)
  clear hdv hV hb hi lf
  go_enter Tryd.func28, Tryd.ntmps28
  go_wp2_with fail
  refine HDV.out.mono ?_
  rintro e w1 ⟨r, f1, cur1, rfl, hr, hw1, hi1, lf1, hv1⟩
  have hsz1 : w1.heap.size = w.heap.size := hw1.hsize
  have HS1 := Lib.hid hsz1
  clear hsz1
  have HW1 := Lib.hid hw1
  have hrd := hi1.rd hw1.blk
  have HTR := fun o => trim64_any (some ⟨g, 0, none⟩) n c f1 (w1.alloc o) (hrd.alloc o) hn (by unfold maxLen; omega)
  have HTT := Lib.hid HTR
  have hq : sm W64 f1 n = V / D19 ^ 1 ∧ r = V / D19 ^ 0 % D19 := by
    rw [HV.out] at hv1
    rw [Nat.pow_one, Nat.pow_zero, Nat.div_one, hv1]
    refine ⟨?_, ?_⟩
    · rw [Nat.add_comm, Nat.add_mul_div_left _ _ d19_pos, Nat.div_eq_of_lt hr, Nat.zero_add]
    · rw [Nat.add_comm, Nat.add_mul_mod_self_left, Nat.mod_eq_of_lt hr]
  have HQ := Lib.hid hq
  have HI1 := Lib.hid (And.intro hi1 lf1)
  have hr64 : r ≤ 18446744073709551615 := by have : D19 = 10000000000000000000 := rfl; omega
  clear hw1 hi1 lf1 hv1 hr hrd HTR hq
  go_wp2_with fail
  refine (HTT.out _).mono ?_
  rintro e w2 ⟨rfl, rfl⟩
  have h0 : DcRel base w.heap.size w (w1.alloc (.cells #[.int .u64 (r : Int)] 48)) g V 1 (tr f1 n) f1 cur1 (.slice (some ⟨w1.heap.size, 0, none⟩) 1 1) (fun _ => r) := by
    have hle := tr_le f1 n
    refine ⟨?_, HI1.out.1.mono hle, HI1.out.2.mono hle, tr_trm _ _, by rw [sm_tr]; exact HQ.out.1, ?_, fun j hj => ?_, Nat.le_refl _, .inl rfl, ?_, hgw, hbg, ?_⟩
    · exact (Below.heap_alloc _ _ _ (by rw [HS1.out]; exact hgw)).trans HW1.out.blk
    · have := World.ownsRow_lit (base := w.heap.size) (e := 48) (size := 1) w1 #[.int .u64 (r : Int)] 1 (by rw [HS1.out]; exact Nat.le_refl _) (by simp [maxLen]) rfl
      exact this
    · obtain rfl : j = 0 := by omega
      exact HQ.out.2
    · exact ((Below.refl base w).grown HW1.out.grown (by omega) (fun k hk => by injection hk with hk; subst hk; exact hbg)).alloc (by rw [HS1.out]; omega) _
    · have := HS1.out; simp; omega
  have H0 := Lib.hid h0
  have HVK : Hid (V / D19 ^ 1 < 2 ^ (64 * n)) := Lib.hid (Nat.lt_of_le_of_lt (Nat.div_le_self _ _) hVk)
  have hle0 := tr_le f1 n
  have hnn : tr f1 n ≤ n := hle0
  obtain ⟨n1, hn1⟩ : ∃ n1, tr f1 n = n1 := ⟨_, rfl⟩
  rw [hn1] at H0 hnn
  rw [hn1]
  clear h0 hVk hn1 hle0
  go_wp2_with fail
  go_loopg [0, 3] (64 * n) (fun k s0 s3 wr => ∃ (i n' : Nat) (f' : Nat → Nat) (cur' : Array Value) (v : Value) (ch : Nat → Nat), n' ≤ n ∧ s0 = .slice (some ⟨g, 0, none⟩) n' c ∧ v = s3 ∧ i + k ≤ 64 * n + 1 ∧ Hid (DcRel base w.heap.size w wr g V i n' f' cur' v ch) ∧ Hid (V / D19 ^ i < 2 ^ k))
  case atStart => exact ⟨1, n1, f1, cur1, _, _, hnn, rfl, rfl, by omega, H0, HVK⟩
  case round =>
    obtain ⟨i, n', f', cur', v, ch, hn', rfl, rfl, hik, hh, hk⟩ := hrel
    by_cases h0 : 0 < n'
    · have hpos : 0 < V / D19 ^ i := by rw [← hh.out.val]; exact sm_pos (by decide) hh.out.trm (by omega)
      obtain ⟨k', rfl⟩ : ∃ k', gk = k' + 1 := by
        rcases Nat.eq_zero_or_pos gk with h | h
        · have h2 := hk.out; rw [h, Nat.pow_zero] at h2; omega
        · exact ⟨gk - 1, by omega⟩
      have hdv := divideBy_any g 0 n' c 48 cur' f' D19 wr hh.out.blk hh.out.ints hh.out.lt d19_pos d19_lt (by unfold maxLen; omega)
      have HDV2 : Hid (Calls Tryd.prog 48 #[.slice (some ⟨g, 0, none⟩) n' c, .int .u64 10000000000000000000] wr fun e' w' => DivEnd wr w' g 48 cur' 0 n' f' D19 e') := Lib.hid hdv
      have HPOS := Lib.hid hpos
      clear hdv hpos
      go_wp2_with fail
      refine HDV2.out.mono ?_
      rintro e w3 ⟨r3, f3, cur3, rfl, hr3, hw3, hi3, lf3, hv3⟩
      have hq3 : sm W64 f3 n' = V / D19 ^ (i + 1) ∧ r3 = V / D19 ^ i % D19 := by
        rw [hh.out.val] at hv3
        rw [div_pow, hv3]
        refine ⟨?_, ?_⟩
        · rw [Nat.add_comm, Nat.add_mul_div_left _ _ d19_pos, Nat.div_eq_of_lt hr3, Nat.zero_add]
        · rw [Nat.add_comm, Nat.add_mul_mod_self_left, Nat.mod_eq_of_lt hr3]
      have hown3 : w3.ownsRow w.heap.size 48 1 v i (vl .u64 ch i) := hh.out.own.kept (row := some g) hw3.grown (by
        cases ho : v.ownBlock with
        | none => exact .inl rfl
        | some b => exact .inr (fun e => by injection e with e; subst e; have := (hh.out.own.lt _ ho).1; have := hh.out.gB; omega))
      have hb3 : Below base w w3 := hh.out.below.grown hw3.grown (Nat.le_trans (Nat.le_trans hh.out.bB (Nat.le_of_lt hgw)) hh.out.sz) (fun k hk => by injection hk with hk; subst hk; exact hh.out.bB)
      have hs3 : w.heap.size ≤ w3.heap.size := by rw [hw3.hsize]; exact hh.out.sz
      have hr64' : r3 ≤ 18446744073709551615 := by have : D19 = 10000000000000000000 := rfl; omega
      have HQ3 := Lib.hid (And.intro hq3 (And.intro hr3 (And.intro hw3 (And.intro hi3 lf3))))
      have HB3 := Lib.hid hb3
      clear hq3 hr3 hw3 hi3 lf3 hv3 hb3
      go_wp2_with (at_builtin; refine wpList_app rfl (.tmp 14) (.tmp 17) _ rfl w.heap.size 48 i0 _ 8 Tryd.underlying47 hi0 hz0 hz1 hz2 rfl .u64 _ i ch rfl (hown3.alloc _) _ 1 1 (fun _ => r3) rfl (rd_one _ .u64 r3 _) (by unfold maxLen; omega) (by omega) (by simp; omega) ?_; intro v4 w4 hown4 hb4)
      have hblk4 : Bk w4 g 48 cur3 := Bk.below ((Below.heap_alloc _ _ _ HQ3.out.2.2.1.blk.lt).trans HQ3.out.2.2.1.blk) hb4 hh.out.gB
      have hT4 := trim64_any (some ⟨g, 0, none⟩) n' c f3 w4 (HQ3.out.2.2.2.1.rd hblk4) (by omega) (by unfold maxLen; omega)
      have HT4 := Lib.hid hT4
      have hsz4 : w.heap.size ≤ w4.heap.size := Nat.le_trans (by simp; omega) hb4.size
      have hle3 := tr_le f3 n'
      have hDc : DcRel base w.heap.size w w4 g V (i + 1) (tr f3 n') f3 cur3 v4 (jn ch i (fun _ => r3)) := by
        refine ⟨hblk4, HQ3.out.2.2.2.1.mono hle3, HQ3.out.2.2.2.2.mono hle3, tr_trm _ _, by rw [sm_tr]; exact HQ3.out.1.1, hown4, fun j hj => ?_, by omega, .inr ?_, ?_, hh.out.gB, hh.out.bB, hsz4⟩
        · by_cases e : j < i
          · rw [jn_lo _ _ e]; exact hh.out.chs j e
          · obtain rfl : j = i := by omega
            have e2 := jn_hi ch (fun _ => r3) j 0
            rw [Nat.add_zero] at e2
            rw [e2]
            exact HQ3.out.1.2
        · rw [Nat.add_sub_cancel]
          have := HPOS.out
          omega
        · exact (HB3.out.alloc (by omega) _).trans (hb4.mono (by omega))
      have HDC := Lib.hid hDc
      have HK2 : Hid (V / D19 ^ (i + 1) < 2 ^ k') := Lib.hid (by rw [div_pow]; exact pow_div_lt hk.out)
      obtain ⟨n3, hn3⟩ : ∃ n3, tr f3 n' = n3 := ⟨_, rfl⟩
      rw [hn3] at HDC HT4 hle3
      clear hblk4 hT4 hDc hn3 hown4 hb4 hown3
      go_wp2_with fail
      refine HT4.out.mono ?_
      rintro e w5 ⟨rfl, rfl⟩
      go_wp2_with fail
      go_roundg k'
      case measure => omega
      case rel => exact ⟨i + 1, n3, f3, cur3, v4, _, by omega, rfl, rfl, by omega, HDC, HK2⟩
    · obtain rfl : n' = 0 := by omega
      have HE : Hid (V / D19 ^ i = 0) := Lib.hid (by rw [← hh.out.val]; rfl)
      go_wp2_with fail
      go_ret
      exact ⟨v, i, ch, rfl, ⟨hh.out.own.1, hh.out.own.2.imp id (fun ⟨g', cap, cr, h1, h2, h3⟩ => ⟨g', cap, cr, h1, by have := hh.out.bB; omega, h3⟩)⟩, hh.out.chs, hh.out.one, by omega, hh.out.last, HE.out, hh.out.below⟩
end Go.Proofs.YtnikoojgoiobjaaDoor.nn
