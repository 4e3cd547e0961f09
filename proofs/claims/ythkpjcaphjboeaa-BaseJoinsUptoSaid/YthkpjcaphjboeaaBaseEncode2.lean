/- The walk of base's Encode. -/
import Derived.Test.YthkpjcaphjboeaaBaseEncode
namespace Go.Proofs.Ythkpjcaphjboeaa.nn
open Go.RowKit

theorem filler_take : ∀ u, u < 7 → ((⟨#[61, 61, 61, 61, 61, 61]⟩ : ByteArray).extract 0 u).data.toList = List.replicate u 61 := by decide
theorem filler_size {u : Nat} (h : u ≤ 6) : ((⟨#[61, 61, 61, 61, 61, 61]⟩ : ByteArray).extract 0 u).size = u := by
  have : ∀ u, u < 7 → ((⟨#[61, 61, 61, 61, 61, 61]⟩ : ByteArray).extract 0 u).size = u := by decide
  exact this u (by omega)
theorem Gt.below {B bo ba bs bq bh bk W M v k : Nat} {L : ByteArray} {l : List UInt8} {w w' : World} (g : Gt B bo ba bs bq bh bk L W M l v k w) (hb : Below w.heap.size w w') : Gt B bo ba bs bq bh bk L W M l v k w' :=
  ⟨g.o.keep hb, g.a.keep hb, (hb.block _ (lt_of_block g.s)).trans g.s, (hb.block _ (lt_of_block g.y)).trans g.y, (hb.block _ (lt_of_block g.h)).trans g.h, (hb.block _ (lt_of_block g.k)).trans g.k⟩
theorem lack_le {W M n : Nat} (h : WM W M) : 8 * n ≤ nlw W n * W ∧ nlw W n * W ≤ 8 * n + 5 := by
  unfold nlw
  rcases h with ⟨rfl, rfl⟩ | ⟨rfl, rfl⟩ | ⟨rfl, rfl⟩ | ⟨rfl, rfl⟩ <;> omega
theorem wid_wm {k : Nat} (h : k < 4) : WM (wid k) (mlt k) := by
  rcases (show k = 0 ∨ k = 1 ∨ k = 2 ∨ k = 3 by omega) with rfl | rfl | rfl | rfl
  · exact .inl ⟨rfl, rfl⟩
  · exact .inr (.inl ⟨rfl, rfl⟩)
  · exact .inr (.inr (.inl ⟨rfl, rfl⟩))
  · exact .inr (.inr (.inr ⟨rfl, rfl⟩))

set_option maxRecDepth 100000 in
set_option maxHeartbeats 4000000 in
theorem encode_core (kk : Int) (L : ByteArray) (W M : Nat) (hWM : WM W M) (hL : 2 ^ W ≤ L.size) (hLs : L.size ≤ 1000)
    (HA : Hid (∀ w, Calls Try.prog 11 #[.int .i64 kk] w fun e w' => e = .returned (.tuple #[.agg #[.string L, .int .i64 (W : Int), .int .i64 (M : Int)], .bool true]) ∧ Below w.heap.size w w'))
    (A : Option Addr) (n c : Nat) (f : Nat → Nat) (w : World) (hA : Rd w .u8 A n f) (hf : ∀ j, j < n → f j < 256) (hn : n ≤ 16777216) :
    Calls Try.prog 6 #[.int .i64 kk, .slice A n c] w (EncAns (encB L W M f n (nlw W n)) 0 w) := by
  have hmf : ∀ (fn : Fn) (first cap : Array Value) (w : World), (Instr.makeFunc fn first cap).run Try.prog w = .ok (.func fn first cap) w := fun _ _ _ _ => rfl
  have HR := Lib.hid hA
  have HF := Lib.hid hf
  have h4 := hWM.four
  obtain ⟨p, hp⟩ : ∃ p, nlw W n = p := ⟨_, rfl⟩
  have hp2 : p ≤ 33554433 := hp ▸ nlw_le h4.1 hn
  obtain ⟨u, hu⟩ : ∃ u, flw W M n = u := ⟨_, rfl⟩
  have hu6 : u ≤ 6 := hu ▸ fill_six hWM
  have hup : up M p - p = u := by rw [← hu, ← hp]; rfl
  have CL := Lib.hid (fun w => blets_any L W M n w hWM hn)
  have CF := Lib.hid (fun w => fill_any L W M n w hWM hn)
  have CK := Lib.hid (fun w => lacking_any L W M n w hWM hn)
  rw [hp]
  rw [hp] at CL CK
  rw [hu] at CF
  unfold av at CL CF CK
  clear hA hf hu
  go_enter Try.func6, Try.ntmps6
  go_wp2_with fail
  refine (HA.out _).mono ?_
  rintro e w1 ⟨rfl, b1⟩
  have B1 := Lib.hid b1
  clear b1
  go_upto_region 5 with fail
  have hw1 : w.heap.size ≤ w1.heap.size := B1.out.size
  obtain ⟨N, hN⟩ : ∃ N, p + u = N := ⟨_, rfl⟩
  have fN : IntKind.i64.wrap ((p : Int) + (u : Int)) = (N : Int) := by rw [IntWalk.i64_in _ (by omega)]; omega
  have HK0 : Av w1.heap.size L W M ((w1.alloc (.cells #[.string L, .int .i64 (W : Int), .int .i64 (M : Int)] 34)).alloc (.cells #[.pointer none, .slice none 0 0] 39)) ∧
      Gs w.heap.size (w1.heap.size + 1) N ((w1.alloc (.cells #[.string L, .int .i64 (W : Int), .int .i64 (M : Int)] 34)).alloc (.cells #[.pointer none, .slice none 0 0] 39)) ∧
      Below w.heap.size w ((w1.alloc (.cells #[.string L, .int .i64 (W : Int), .int .i64 (M : Int)] 34)).alloc (.cells #[.pointer none, .slice none 0 0] 39)) := by
    have e : (w1.alloc (.cells #[.string L, .int .i64 (W : Int), .int .i64 (M : Int)] 34)).heap.size = w1.heap.size + 1 := by simp
    refine ⟨(Lib.alloc_old _ _ _ (by omega)).trans (heap_alloc_new _ _), Gs.fresh (by omega) (e ▸ heap_alloc_new _ _), (B1.out.alloc hw1 _).alloc (by omega) _⟩
  obtain ⟨a, ha⟩ : ∃ a, w1.heap.size = a := ⟨_, rfl⟩
  obtain ⟨w2, hw2⟩ : ∃ w2, ((w1.alloc (.cells #[.string L, .int .i64 (W : Int), .int .i64 (M : Int)] 34)).alloc (.cells #[.pointer none, .slice none 0 0] 39)) = w2 := ⟨_, rfl⟩
  rw [hw2, ha] at HK0
  rw [hw2, ha]
  have hab : a ≠ a + 1 := by omega
  have haB : w.heap.size ≤ a := by omega
  clear hw2 ha hw1 B1
  obtain ⟨KK, hKK⟩ : ∃ KK : World → Prop, KK = fun W' => Av a L W M W' ∧ Gs w.heap.size (a + 1) N W' ∧ Below w.heap.size w W' := ⟨_, rfl⟩
  have K0 : KK w2.drew := by rw [hKK]; exact ⟨HK0.1, HK0.2.1.drew, HK0.2.2.drew⟩
  have hkeep : ∀ W' W'', KK W' → Below W'.heap.size W' W'' → KK W'' := by
    rw [hKK]; exact fun W' W'' h hb => ⟨h.1.keep hb, h.2.1.keep hb, h.2.2.trans (hb.mono h.2.2.size)⟩
  have HX : Hid (∀ W', KK W' → (W'.cell? ⟨a, 0, none⟩ = some (.string L) ∧ W'.cell? ⟨a, 1, none⟩ = some (.int .i64 (W : Int)) ∧ W'.cell? ⟨a, 2, none⟩ = some (.int .i64 (M : Int)) ∧ KK W')) :=
    Lib.hid fun W' h => ⟨(by rw [hKK] at h; exact h.1.c0), (by rw [hKK] at h; exact h.1.c1), (by rw [hKK] at h; exact h.1.c2), h⟩
  have H1 : Hid (∀ W', KK W' → Calls Try.prog 13 #[.agg #[.string L, .int .i64 (W : Int), .int .i64 (M : Int)], .int .i64 (n : Int)] W' fun e w' => e = .returned (.int .i64 (p : Int)) ∧ KK w') :=
    Lib.hid fun W' h => (CL.out W').mono fun e w' ⟨h1, h2⟩ => ⟨h1, hkeep _ _ h h2⟩
  have H2 : Hid (∀ W', KK W' → Calls Try.prog 14 #[.agg #[.string L, .int .i64 (W : Int), .int .i64 (M : Int)], .int .i64 (n : Int)] W' fun e w' => e = .returned (.int .i64 (u : Int)) ∧ KK w') :=
    Lib.hid fun W' h => (CF.out W').mono fun e w' ⟨h1, h2⟩ => ⟨h1, hkeep _ _ h h2⟩
  have H3 : Hid (∀ W', KK W' → Calls Try.prog 12 #[.pointer (some ⟨a + 1, 0, none⟩), .int .i64 (N : Int)] W' fun e w' => e = .returned (.tuple #[]) ∧ KK w') :=
    Lib.hid fun W' h => by
      rw [hKK] at h ⊢
      exact (grow_any w.heap.size (a + 1) N W' h.2.1 h.2.2.size (by omega)).mono fun e w' ⟨h1, h2, h3, h4⟩ => ⟨h1, h4 _ _ _ hab (by decide) h.1, h2, h.2.2.trans h3⟩
  have K1 := HX.out _ K0
  have HKK := Lib.hid hKK
  clear hKK hkeep HK0
  go_region_held3 (fun W' => W'.cell? ⟨a, 0, none⟩ = some (.string L) ∧ W'.cell? ⟨a, 1, none⟩ = some (.int .i64 (W : Int)) ∧ W'.cell? ⟨a, 2, none⟩ = some (.int .i64 (M : Int)) ∧ KK W')
    (first | exact HX.out _ ‹_› | exact HX.out _ (And.right (And.right (And.right ‹_›))))
    (first
      | (go_at_call 13; refine (H1.out _ ?_).mono ?_; (first | assumption | exact And.right (And.right (And.right ‹_›))); rintro e w' ⟨rfl, hk5⟩)
      | (go_at_call 14; refine (H2.out _ ?_).mono ?_; (first | assumption | exact And.right (And.right (And.right ‹_›))); rintro e w' ⟨rfl, hk5⟩)
      | (go_at_call 12; refine (H3.out _ ?_).mono ?_; (first | assumption | exact And.right (And.right (And.right ‹_›))); rintro e w' ⟨rfl, hk5⟩))
  have hK := hk5
  rw [HKK.out] at hK
  obtain ⟨hA5, hG5, hB5⟩ := hK
  have c1 := hA5.c1
  obtain ⟨w5, hw5⟩ : ∃ w5, w' = w5 := ⟨_, rfl⟩
  subst hw5
  have CG := Lib.hid (gather_any w.heap.size (a + 1) a W M L w' hG5.bld hA5 hB5.size)
  have sb : w.heap.size ≤ w'.heap.size := hB5.size
  have HB5 := Lib.hid hB5
  obtain ⟨s, hs⟩ : ∃ s, w'.heap.size = s := ⟨_, rfl⟩
  rw [hs] at CG sb
  clear hA5 hG5 hB5 hs
  go_wp2_with fail
  refine CG.out.mono ?_
  rintro e w6 ⟨rfl, g6, b6⟩
  have G6 := Lib.hid g6
  have B6 := Lib.hid (HB5.out.trans b6)
  clear g6 b6 CG c1 H1 H2 H3 HX HB5
  go_wp2_with fail
  go_loopw [35] (fun s35 wr => ∃ i : Nat, i ≤ n ∧ s35 = .int .i64 (i : Int) ∧ Hid (∃ m k, m * W + k = 8 * i ∧ k < W ∧ Gt w.heap.size (a + 1) a s (s + 1) (s + 2) (s + 3) L W M (ltrs L W f n m) (gv f n (m * W) k) k wr) ∧ Hid (Below w.heap.size w wr)) (fun s35 _ => n - (intOf s35).toNat)
  case atStart => exact ⟨0, Nat.zero_le _, rfl, Lib.hid ⟨0, 0, by omega, by omega, G6.out⟩, B6⟩
  case round =>
    obtain ⟨i, hi, rfl, hG, hB⟩ := hrel
    by_cases hlt : i < n
    · obtain ⟨bb, off, rfl, hbb, hc⟩ := HR.out (by omega)
      have hci : wr.cell? ⟨bb, off + i, none⟩ = some (.int .u8 (f i : Int)) := (hB.out.cell (p := ⟨bb, off + i, none⟩) hbb).trans (hc i hlt)
      obtain ⟨g, hg⟩ : ∃ g, f i = g := ⟨_, rfl⟩
      have hg8 : g < 256 := hg ▸ HF.out i hlt
      have CP : Hid (Calls Try.prog 25 #[.int .u64 (g : Int), .int .i64 8, .pointer (some ⟨s + 2, 0, none⟩), .pointer (some ⟨s + 3, 0, none⟩), .pointer (some ⟨s, 0, none⟩), .pointer (some ⟨s + 1, 0, none⟩)] wr
          fun e w' => e = .returned (.tuple #[]) ∧ (∃ m k, m * W + k = 8 * (i + 1) ∧ k < W ∧ Gt w.heap.size (a + 1) a s (s + 1) (s + 2) (s + 3) L W M (ltrs L W f n m) (gv f n (m * W) k) k w') ∧ Below w.heap.size wr w') := Lib.hid (by
        obtain ⟨m, k, e1, e2, e3⟩ := hG.out
        have hm : m * 4 ≤ m * W := Nat.mul_le_mul_left _ h4.1
        refine (put_any w.heap.size (a + 1) a s (s + 1) (s + 2) (s + 3) W M L f n m k g 8 wr e3 (by omega) ⟨h4.1, h4.2.1⟩ e2 (by omega) (by rw [e1, gv_byte hlt (HF.out i hlt), hg]) hL hLs (by omega) hB.out.size (by omega) (by omega)).mono ?_
        rintro e w' ⟨h1, ⟨m', k', h2, h3, h5⟩, h6⟩
        exact ⟨h1, ⟨m', k', by omega, h3, h5⟩, h6⟩)
      rw [hg] at hci
      clear hc hg
      go_wp2_with fail
      refine CP.out.mono ?_
      rintro e w7 ⟨rfl, g7, b7⟩
      have G7 := Lib.hid g7
      have B7 := Lib.hid (hB.out.trans b7)
      clear g7 b7 CP hci
      go_wp2_with fail
      go_roundw
      case rel => exact ⟨i + 1, by omega, by go_num, G7, B7⟩
      case measure => simp [intOf]; omega
    · obtain rfl : n = i := by omega
      obtain ⟨m, k, e1, e2, e3⟩ := hG.out
      have hm : m * 4 ≤ m * W := Nat.mul_le_mul_left _ h4.1
      have hll := lack_le (n := n) hWM
      rw [hp] at hll
      obtain ⟨q, hq⟩ : ∃ q, p * W - 8 * n = q := ⟨_, rfl⟩
      rw [hq] at CK
      have c0 := e3.a.c0
      have c1 := e3.a.c1
      have c2 := e3.a.c2
      have HG := Lib.hid e3
      have CP : Hid (∀ W', Gt w.heap.size (a + 1) a s (s + 1) (s + 2) (s + 3) L W M (ltrs L W f n m) (gv f n (m * W) k) k W' → w.heap.size ≤ W'.heap.size → Calls Try.prog 25 #[.int .u64 0, .int .i64 (q : Int), .pointer (some ⟨s + 2, 0, none⟩), .pointer (some ⟨s + 3, 0, none⟩), .pointer (some ⟨s, 0, none⟩), .pointer (some ⟨s + 1, 0, none⟩)] W'
          fun e w' => e = .returned (.tuple #[]) ∧ Gt w.heap.size (a + 1) a s (s + 1) (s + 2) (s + 3) L W M (ltrs L W f n p) 0 0 w' ∧ Below w.heap.size W' w') := Lib.hid (fun W' hW' hs' => by
        refine (put_any w.heap.size (a + 1) a s (s + 1) (s + 2) (s + 3) W M L f n m k 0 q W' hW' (by omega) ⟨h4.1, h4.2.1⟩ e2 (by omega) (by rw [e1, gv_zero (Nat.le_refl _)]) hL hLs (by omega) hs' (by omega) (by omega)).mono ?_
        rintro e w' ⟨h1, ⟨m', k', h2, h3, h5⟩, h6⟩
        obtain ⟨rfl, rfl⟩ := all_said (p := p) (m := m') (k := k') (W := W) (by omega) h3
        exact ⟨h1, h5, h6⟩)
      clear e1 e2 e3 hm hll hG hlt
      go_wp2_with fail
      refine (CK.out _).mono ?_
      rintro e w8 ⟨rfl, b8⟩
      have CP := Lib.hid (CP.out w8 (HG.out.below b8) (Nat.le_trans hB.out.size b8.size))
      have B8 := Lib.hid (hB.out.trans (b8.mono hB.out.size))
      clear b8 HG c0 c1 c2 hq
      go_wp2_with fail
      refine CP.out.mono ?_
      rintro e w9 ⟨rfl, g9, b9⟩
      have B9 := Lib.hid (B8.out.trans b9)
      have c0 := g9.a.c0
      have c1 := g9.a.c1
      have c2 := g9.a.c2
      have O9 := Lib.hid g9.o
      clear g9 b9 CP
      go_wp2_with fail
      refine (CF.out _).mono ?_
      rintro e w10 ⟨rfl, b10⟩
      have B10 := Lib.hid (B9.out.trans (b10.mono B9.out.size))
      have O10 := Lib.hid (O9.out.keep b10)
      clear b10 c0 c1 c2
      have hu0 : (0 : Int) ≤ (u : Int) := by omega
      have hu6' : (u : Int) ≤ 6 := by omega
      have hfs := filler_size hu6
      have CW := Lib.hid (writeString_any w.heap.size (a + 1) _ ((⟨#[61, 61, 61, 61, 61, 61]⟩ : ByteArray).extract 0 u) w10 O10.out (by rw [hfs, ltrs_len]; omega) B10.out.size)
      rw [filler_take u (by omega)] at CW
      clear hfs
      go_wp2_with fail
      refine CW.out.mono ?_
      rintro e w11 ⟨rfl, o11, b11, _⟩
      have B11 := Lib.hid (B10.out.trans b11)
      have CS := Lib.hid (string_any w.heap.size (a + 1) _ w11 o11 B11.out.size)
      have HE : Hid (ltrs L W f n p ++ List.replicate u 61 = encB L W M f n p) := Lib.hid (by unfold encB; rw [hup])
      rw [HE.out] at CS
      clear o11 b11 CW
      go_wp2_with fail
      refine CS.out.mono ?_
      rintro e w12 ⟨rfl, b12⟩
      have B12 := Lib.hid (B11.out.trans b12)
      clear b12
      go_wp2_with fail
      go_ret2
      exact ⟨rfl, B12.out⟩
theorem bencode_any (kind : Int) (A : Option Addr) (n c : Nat) (f : Nat → Nat) (w : World) (hA : Rd w .u8 A n f) (hf : ∀ j, j < n → f j < 256) (hn : n ≤ 16777216) :
    Calls Try.prog 6 #[.int .i64 kind, .slice A n c] w (EncAns (enK kind f n) (erK kind) w) := by
  by_cases hk : 0 ≤ kind ∧ kind < 4
  · obtain ⟨k, rfl⟩ := Int.eq_ofNat_of_zero_le hk.1
    have hk4 : k < 4 := by omega
    have e1 : enK (k : Int) f n = encB (alp k) (wid k) (mlt k) f n (nl k n) := by unfold enK; rw [if_pos hk, Int.toNat_natCast]
    have e2 : erK (k : Int) = 0 := by unfold erK; rw [if_pos hk]
    rw [e1, e2]
    exact encode_core (k : Int) (alp k) (wid k) (mlt k) (wid_wm hk4) (alp_size hk4).1 (alp_size hk4).2 (Lib.hid fun w => of_yes k w hk4) A n c f w hA hf hn
  · have e1 : enK kind f n = [] := by unfold enK; rw [if_neg hk]
    have e2 : erK kind = 1 := by unfold erK; rw [if_neg hk]
    rw [e1, e2]
    have HA := Lib.hid (fun w => of_no kind w hk)
    clear hk e1 e2 hf hA
    go_enter Try.func6, Try.ntmps6
    go_wp2_with fail
    refine (HA.out _).mono ?_
    rintro e w1 ⟨rfl, h1⟩
    go_wp2_with fail
    exact bodyPost_ret (v := .tuple #[.string ⟨#[]⟩, .int .i64 1]) (by simp [results, Try.results6, go_sem]) rfl ⟨rfl, h1.alloc h1.size _⟩
set_option maxRecDepth 100000 in
set_option maxHeartbeats 1000000 in
theorem blen_any (kind n : Int) (w : World) :
    Calls Try.prog 8 #[.int .i64 kind, .int .i64 n] w fun e w' => e = .returned (.int .i64 (lnK kind n)) ∧ Below w.heap.size w w' := by
  by_cases hk : 0 ≤ kind ∧ kind < 4
  · obtain ⟨k, rfl⟩ := Int.eq_ofNat_of_zero_le hk.1
    have hk4 : k < 4 := by omega
    have HA := Lib.hid (fun w => of_yes k w hk4)
    unfold av at HA
    by_cases hn : 0 ≤ n ∧ n ≤ 1048576
    · obtain ⟨N, rfl⟩ := Int.eq_ofNat_of_zero_le hn.1
      have hN : N ≤ 16777216 := by omega
      obtain ⟨n1, n2⟩ := hn
      have hWM := wid_wm hk4
      obtain ⟨L, hL⟩ : ∃ L, alp k = L := ⟨_, rfl⟩
      obtain ⟨W, hW⟩ : ∃ W, wid k = W := ⟨_, rfl⟩
      obtain ⟨M, hM⟩ : ∃ M, mlt k = M := ⟨_, rfl⟩
      obtain ⟨p, hp⟩ : ∃ p, nlw W N = p := ⟨_, rfl⟩
      obtain ⟨u, hu⟩ : ∃ u, flw W M N = u := ⟨_, rfl⟩
      rw [hL, hW, hM] at HA
      rw [hW, hM] at hWM
      have h4 := hWM.four
      have hp2 : p ≤ 33554433 := hp ▸ nlw_le h4.1 hN
      have hu6 : u ≤ 6 := hu ▸ fill_six hWM
      have e : lnK (k : Int) (N : Int) = ((p + u : Nat) : Int) := by
        unfold lnK
        rw [if_pos ⟨hk, n1, n2⟩, Int.toNat_natCast, Int.toNat_natCast, ← hu, ← hp, hM]
        unfold flw
        rw [show nl k N = nlw W N by unfold nl nlw; rw [hW]]
        have := up_ge (i := nlw W N) (m := M) (by omega)
        omega
      rw [e]
      have CL := Lib.hid (fun w => blets_any L W M N w hWM hN)
      have CF := Lib.hid (fun w => fill_any L W M N w hWM hN)
      rw [hp] at CL
      rw [hu] at CF
      unfold av at CL CF
      have fN : IntKind.i64.wrap ((p : Int) + (u : Int)) = ((p + u : Nat) : Int) := by rw [IntWalk.i64_in _ (by omega)]; omega
      clear e hu hp hW hM hL
      go_enter Try.func8, Try.ntmps8
      go_wp2_with fail
      refine (HA.out _).mono ?_
      rintro e w1 ⟨rfl, b1⟩
      have B1 := Lib.hid b1
      clear b1
      go_wp2_with fail
      have hw1 : w.heap.size ≤ w1.heap.size := B1.out.size
      have HK0 : Av w1.heap.size L W M (w1.alloc (.cells #[.string L, .int .i64 (W : Int), .int .i64 (M : Int)] 34)) ∧ Below w.heap.size w (w1.alloc (.cells #[.string L, .int .i64 (W : Int), .int .i64 (M : Int)] 34)) :=
        ⟨heap_alloc_new _ _, B1.out.alloc hw1 _⟩
      obtain ⟨a, ha⟩ : ∃ a, w1.heap.size = a := ⟨_, rfl⟩
      obtain ⟨w2, hw2⟩ : ∃ w2, (w1.alloc (.cells #[.string L, .int .i64 (W : Int), .int .i64 (M : Int)] 34)) = w2 := ⟨_, rfl⟩
      rw [hw2, ha] at HK0
      rw [hw2, ha]
      clear hw2 ha hw1 B1
      have K0 : Av a L W M w2.drew ∧ Below w.heap.size w w2.drew := ⟨HK0.1, HK0.2.drew⟩
      have HX : Hid (∀ W', (Av a L W M W' ∧ Below w.heap.size w W') → (W'.cell? ⟨a, 0, none⟩ = some (.string L) ∧ W'.cell? ⟨a, 1, none⟩ = some (.int .i64 (W : Int)) ∧ W'.cell? ⟨a, 2, none⟩ = some (.int .i64 (M : Int)) ∧ (Av a L W M W' ∧ Below w.heap.size w W'))) :=
        Lib.hid fun W' h => ⟨h.1.c0, h.1.c1, h.1.c2, h⟩
      have H1 : Hid (∀ W', (Av a L W M W' ∧ Below w.heap.size w W') → Calls Try.prog 13 #[.agg #[.string L, .int .i64 (W : Int), .int .i64 (M : Int)], .int .i64 (N : Int)] W' fun e w' => e = .returned (.int .i64 (p : Int)) ∧ (Av a L W M w' ∧ Below w.heap.size w w')) :=
        Lib.hid fun W' h => (CL.out W').mono fun e w' ⟨h1, h2⟩ => ⟨h1, h.1.keep h2, h.2.trans (h2.mono h.2.size)⟩
      have H2 : Hid (∀ W', (Av a L W M W' ∧ Below w.heap.size w W') → Calls Try.prog 14 #[.agg #[.string L, .int .i64 (W : Int), .int .i64 (M : Int)], .int .i64 (N : Int)] W' fun e w' => e = .returned (.int .i64 (u : Int)) ∧ (Av a L W M w' ∧ Below w.heap.size w w')) :=
        Lib.hid fun W' h => (CF.out W').mono fun e w' ⟨h1, h2⟩ => ⟨h1, h.1.keep h2, h.2.trans (h2.mono h.2.size)⟩
      have K1 := HX.out _ K0
      clear HK0 hp2 hu6 h4 hWM
      go_region_held3 (fun W' => W'.cell? ⟨a, 0, none⟩ = some (.string L) ∧ W'.cell? ⟨a, 1, none⟩ = some (.int .i64 (W : Int)) ∧ W'.cell? ⟨a, 2, none⟩ = some (.int .i64 (M : Int)) ∧ (Av a L W M W' ∧ Below w.heap.size w W'))
        (first | exact HX.out _ ‹_› | exact HX.out _ (And.right (And.right (And.right ‹_›))))
        (first
          | (go_at_call 13; refine (H1.out _ ?_).mono ?_; (first | assumption | exact And.right (And.right (And.right ‹_›))); rintro e w' ⟨rfl, hk5⟩)
          | (go_at_call 14; refine (H2.out _ ?_).mono ?_; (first | assumption | exact And.right (And.right (And.right ‹_›))); rintro e w' ⟨rfl, hk5⟩))
      all_goals
        go_wp2_with fail
        go_ret
        exact ⟨rfl, hk5.2⟩
    · have e : lnK (k : Int) n = 0 := by unfold lnK; rw [if_neg fun h => hn h.2]
      rw [e]
      clear e
      by_cases h0 : n < 0
      · clear hn
        go_enter Try.func8, Try.ntmps8
        go_wp2_with fail
        refine (HA.out _).mono ?_
        rintro e w1 ⟨rfl, h1⟩
        go_wp2_with fail
        go_ret
        exact ⟨rfl, h1.alloc h1.size _⟩
      · have h1 : 1048576 < n := by omega
        clear hn
        go_enter Try.func8, Try.ntmps8
        go_wp2_with fail
        refine (HA.out _).mono ?_
        rintro e w1 ⟨rfl, h1⟩
        go_wp2_with fail
        go_ret
        exact ⟨rfl, h1.alloc h1.size _⟩
  · have e : lnK kind n = 0 := by unfold lnK; rw [if_neg fun h => hk h.1]
    rw [e]
    have HA := Lib.hid (fun w => of_no kind w hk)
    clear e hk
    go_enter Try.func8, Try.ntmps8
    go_wp2_with fail
    refine (HA.out _).mono ?_
    rintro e w1 ⟨rfl, h1⟩
    go_wp2_with fail
    go_ret
    exact ⟨rfl, h1.alloc h1.size _⟩
end Go.Proofs.Ythkpjcaphjboeaa.nn
