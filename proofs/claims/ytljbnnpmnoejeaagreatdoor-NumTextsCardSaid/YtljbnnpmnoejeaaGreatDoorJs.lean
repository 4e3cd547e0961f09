/- Joined texts, what is wanted of them: NuB, NuC, NuI, NuV, NumOwn3. -/
import Derived.Test.YtljbnnpmnoejeaaGreatDoorShelf
import Derived.Shelf.Strings.AsciiSet
import Derived.Lib.IndexAny
import Derived.Test.YtljbnnpmnoejeaaGreatDoorJb
import Derived.Test.YtljbnnpmnoejeaaGreatDoorJf
import Derived.Test.YtljbnnpmnoejeaaGreatDoorJc
import Derived.Test.YtljbnnpmnoejeaaGreatDoorJg
import Derived.Test.YtljbnnpmnoejeaaGreatDoorJa
import Derived.Test.YtljbnnpmnoejeaaGreatDoorJd
import Derived.Test.YtljbnnpmnoejeaaGreatDoorJk
import Derived.Test.YtljbnnpmnoejeaaGreatDoorJl
import Derived.Test.YtljbnnpmnoejeaaGreatDoorJm
import Derived.Test.YtljbnnpmnoejeaaGreatDoorJh
import Derived.Test.YtljbnnpmnoejeaaGreatDoorJe
import Derived.Test.YtljbnnpmnoejeaaGreatDoorJn
namespace Go.Proofs.YtljbnnpmnoejeaaGreatDoor.nn
open Go.RowKit

theorem dv_zero {f : Nat → Nat} {n : Nat} (hd : dgs f n = true) (h : dv f n = 0) : ∀ i, i < n → f i = 48 := by
  induction n with
  | zero => intro i hi; omega
  | succ n ih =>
    intro i hi
    rw [dv] at h
    have h1 := dgs_at hd (Nat.lt_succ_self n)
    by_cases e : i = n
    · subst e; omega
    · exact ih (dgs_mono hd (Nat.le_succ n)) (by omega) i (by omega)
/-- the one text of a whole number that is not read as such -/
theorem minus_zero {s : ByteArray} (h : NmIs s s.size 0) (hw : wh s = true) (hn : at_ s 0 45 = true) (h0 : wV s = 0) : s = ⟨#[45, 48]⟩ := by
  obtain ⟨hd1, hd2⟩ := whole_digits h hw
  have hA : cA s = 1 := if_pos hn
  obtain ⟨hp, hb0⟩ := at_le hn
  have hz := sfx_size s (cA s)
  have h48 := dv_zero hd2 h0
  rw [hA] at hd1 hz h48
  have hb1 : bt s 1 = 48 := by
    have := h48 0 (by omega)
    rwa [bt_sfx (by omega)] at this
  have q1 : nq (bt s) 1 = 1 := by
    show nst 0 (bt s 0) = 1
    rw [hb0]; rfl
  have q2 : nq (bt s) 2 = 2 := by
    show nst (nq (bt s) 1) (bt s 1) = 2
    rw [q1, hb1]; rfl
  have hs2 : s.size = 2 := by
    rcases Nat.lt_or_ge 2 s.size with g | g
    · exfalso
      have hb2 : bt s 2 = 48 := by
        have := h48 1 (by omega)
        rwa [bt_sfx (by omega)] at this
      have q3 : nq (bt s) 3 = 9 := by
        show nst (nq (bt s) 2) (bt s 2) = 9
        rw [q2, hb2]; rfl
      exact nq_less h.go (show 3 ≤ s.size by omega) q3
    · omega
  refine fba_ext hs2 fun i hi => ?_
  have : i = 0 ∨ i = 1 := by omega
  rcases this with rfl | rfl
  · rw [hb0]; rfl
  · rw [hb1]; rfl
theorem mz_wh : wh ⟨#[45, 48]⟩ = true := by decide
theorem mz_va : VaIs ⟨#[45, 48]⟩ (.mk 8 false 9223372036854775808 ⟨#[]⟩ []) 0 := .zero ⟨by decide, by decide, fun h => absurd h (by decide), by decide⟩ mz_wh (by decide) (by decide) (by decide)
theorem mz_sc : ScIs ⟨#[45, 48]⟩ 9223372036854775808 0 := .inr (.inr (.inl ⟨by decide, by unfold scLong; decide, .inl (by decide), rfl, rfl⟩))
theorem mz_no {s : ByteArray} (h : s ≠ ⟨#[45, 48]⟩) (hn : NmIs s s.size 0) (hw : wh s = true) : at_ s 0 45 = true → 0 < wV s := fun hneg => by
  rcases Nat.eq_zero_or_pos (wV s) with g | g
  · exact absurd (minus_zero hn hw hneg g) h
  · exact g

theorem cutMinus_any (s : ByteArray) (w : World) (hs : s.size ≤ maxLen) : Calls Tryz.prog 30 #[.string s, .string ⟨#[45]⟩] w fun e w' => e = .returned (.tuple #[.string (sfx s (cA s)), .bool (at_ s 0 45)]) ∧ w = w' := by
  have h := cutPrefix_at s 0 45 w hs (Nat.zero_le _)
  rw [sfx_zero] at h
  exact h

/-- what readFloat answers -/
def RfAns (s : ByteArray) (w : World) (e : Ending) (w' : World) : Prop := ∃ V E, ScIs s V E ∧ ((E = 0 ∧ e = .returned (.tuple #[vv (.mk 8 false V ⟨#[]⟩ []) nilS, .int .i64 0])) ∨ (E ≠ 0 ∧ e = .returned (.tuple #[vv zt nilS, .int .i64 8]))) ∧ Below w.heap.size w w'
set_option maxRecDepth 100000 in
set_option maxHeartbeats 2000000 in
theorem readFloat_any (s : ByteArray) (w : World) (hs : s.size ≤ 140737488351232) : Calls Tryz.prog 16 #[.string s] w (RfAns s w) := by
  have HB0 := Lib.hid (Bz.new w)
  have H3 := Lib.hid (fun W => scan_any s W hs)
  go_enter Tryz.func16, Tryz.ntmps16
  go_wp2_with fail
  refine (H3.out _).mono ?_
  rintro e w3 ⟨V, E, rfl, hS, hb3⟩
  have B3 := Lib.hid (HB0.out.on hb3)
  have HS := Lib.hid hS
  obtain ⟨⟨bc0, bf0⟩, ⟨bc1, bf1⟩, ⟨bc2, bf2⟩, ⟨bc3, bf3⟩, ⟨bc4, bf4⟩⟩ := B3.out.f
  have HBF : Hid (∀ nq, Below w.heap.size w (w3.drewN nq)) := Lib.hid fun nq => drewN_keep B3.out.b nq
  clear hb3 hS H3 B3
  by_cases hE : E = 0
  · subst hE
    go_wp2_with fail
    exact bodyPost_ret (v := .tuple #[.agg #[.int .i64 8, .bool false, .int .u64 (V : Int), .string ⟨#[]⟩, .slice none 0 0], .int .i64 0]) (by simp [results, Tryz.results16, go_sem, bc0, bc1, bc2, bc3, bc4]) rfl ⟨V, 0, HS.out, .inl ⟨rfl, rfl⟩, below_set5 (HBF.out 0) (Nat.le_refl _) _ _ _ _ _⟩
  · have hE' : ((E : Int) == 0) = false := by rw [beq_eq_false_iff_ne]; omega
    have hE2 : ((E : Int) != 0) = true := by simp; omega
    have HE := Lib.hid hE
    clear hE
    go_wp2_with fail
    exact bodyPost_ret (v := .tuple #[.agg #[.int .i64 0, .bool false, .int .u64 0, .string ⟨#[]⟩, .slice none 0 0], .int .i64 8]) (by simp [results, Tryz.results16, go_sem, bc0, bc1, bc2, bc3, bc4]) rfl ⟨V, E, HS.out, .inr ⟨HE.out, rfl⟩, below_set5 (HBF.out 0) (Nat.le_refl _) _ _ _ _ _⟩

/-- a new slice of one limb 1 -/
def OneAns (w : World) (e : Ending) (w' : World) : Prop := ∃ g, e = .returned (.slice (some ⟨g, 0, none⟩) 1 1) ∧ Limb w' g 1 ∧ Below w.heap.size w w'
set_option maxRecDepth 100000 in
set_option maxHeartbeats 400000 in
theorem one_any (w : World) : Calls Tryz.prog 33 #[] w (OneAns w) := by
  go_enter Tryz.func33, Tryz.ntmps33
  go_wp2_with fail
  go_ret
  exact ⟨_, rfl, by first | exact Limb.l4 _ _ 1 rfl | exact Limb.l1 _ _ 1 rfl, by first | exact (Below.refl _ _).alloc (Nat.le_refl _) _ | exact ((Below.refl _ _).alloc (Nat.le_refl _) _).drew⟩
/-- the two limbs of a number of 64 bits -/
def lim2 (N : Nat) (i : Nat) : Nat := if i = 0 then N % 4294967296 else N / 4294967296
def LongAns (N : Nat) (w : World) (e : Ending) (w' : World) : Prop := ∃ g, e = .returned (.slice (some ⟨g, 0, none⟩) 2 2) ∧ Rd w' .u32 (some ⟨g, 0, none⟩) 2 (lim2 N) ∧ Below w.heap.size w w'
set_option maxRecDepth 100000 in
set_option maxHeartbeats 400000 in
theorem plong_any (N : Nat) (w : World) (hN : N < 18446744073709551616) : Calls Tryz.prog 46 #[.int .u64 (N : Int)] w (LongAns N w) := by
  have hr : ∀ x y : Int, x = ((N % 4294967296 : Nat) : Int) → y = ((N / 4294967296 : Nat) : Int) → ∀ T, Rd (w.alloc (.cells #[.int .u32 x, .int .u32 y] T)) .u32 (some ⟨w.heap.size, 0, none⟩) 2 (lim2 N) := by
    rintro x y rfl rfl T _
    refine ⟨w.heap.size, 0, rfl, by simp, fun i hi => ?_⟩
    rw [World.cell?_alloc_at _ _ _ _ rfl]
    have : i = 0 ∨ i = 1 := by omega
    rcases this with rfl | rfl <;> rfl
  have HR := Lib.hid hr
  clear hr
  go_enter Tryz.func46, Tryz.ntmps46
  go_wp2_with fail
  go_ret
  exact ⟨w.heap.size, rfl, HR.out _ _ (by omega) (by omega) _, (Below.refl _ _).alloc (Nat.le_refl _) _⟩
set_option maxRecDepth 100000 in
set_option maxHeartbeats 2000000 in
theorem short_any (A : Option Addr) (L c : Nat) (O : Nat → Nat) (Y : Nat) (w : World) (hr2 : Rd w .u8 A L O) (hO : ∀ i, i < L → O i = Y / 256 ^ (L - 1 - i) % 256) (hY64 : Y < 18446744073709551616) (hY : Y < 256 ^ L) (hL : L ≤ 8) :
    Calls Tryz.prog 35 #[.slice A L c] w fun e w' => e = .returned (.int .u64 (Y : Int)) ∧ w = w' := by
  have hO256 : ∀ i, i < L → O i < 256 := fun i hi => by rw [hO i (by omega)]; exact Nat.mod_lt _ (by decide)
  have HST : Hid (∀ i, i < L → Y / 256 ^ (L - i) * 256 + O i = Y / 256 ^ (L - (i + 1)) ∧ Y / 256 ^ (L - (i + 1)) ≤ Y) := Lib.hid fun i hi => by
    obtain ⟨d, hd⟩ : ∃ d, L - i = d + 1 := ⟨L - i - 1, by omega⟩
    rw [hO i hi, show L - 1 - i = d by omega, show L - (i + 1) = d by omega, hd]
    exact ⟨(div256 Y d).symm, Nat.div_le_self _ _⟩
  have HO := Lib.hid hO256
  have HR2 := Lib.hid hr2
  have HY0 : Hid (Y / 256 ^ (L - 0) = 0) := Lib.hid (Nat.div_eq_of_lt hY)
  clear hO hO256 hr2 hY
  go_enter Tryz.func35, Tryz.ntmps35
  go_wp2_with fail
  go_loop [3, 8] (fun s6 s7 => ∃ i : Nat, i ≤ L ∧ s6 = .int .u64 ((Y / 256 ^ (L - i) : Nat) : Int) ∧ s7 = .int .i64 (i : Int)) (fun _ s7 => L - (intOf s7).toNat)
  case atStart => exact ⟨0, Nat.zero_le _, by rw [HY0.out]; rfl, rfl⟩
  case round =>
    obtain ⟨i, hiL, rfl, rfl⟩ := hrel
    by_cases hlt : i < L
    · obtain ⟨bb, off, rfl, hbl, hcell⟩ := HR2.out (by omega)
      have hx := hcell i hlt
      obtain ⟨h1, h2⟩ := HST.out i hlt
      have h3 := HO.out i hlt
      obtain ⟨o, ho⟩ : ∃ o, O i = o := ⟨_, rfl⟩
      obtain ⟨v, hv⟩ : ∃ v, Y / 256 ^ (L - i) = v := ⟨_, rfl⟩
      obtain ⟨v2, hv2⟩ : ∃ v, Y / 256 ^ (L - (i + 1)) = v := ⟨_, rfl⟩
      rw [ho] at hx h1 h3
      rw [hv, hv2] at h1
      rw [hv2] at h2
      have hor := up_byte (v := v) (b := o) (by omega) h3
      rw [h1] at hor
      have HV2 := Lib.hid hv2
      rw [hv]
      clear hcell hv hv2 ho
      go_wp2_with fail
      go_round
      case rel => exact ⟨i + 1, hlt, by rw [HV2.out], by go_num⟩
      case measure => simp [intOf]; omega
    · obtain rfl : i = L := by omega
      have e0 : Y / 256 ^ (i - i) = Y := by rw [Nat.sub_self, Nat.pow_zero, Nat.div_one]
      rw [e0]
      clear e0
      go_wp2_with fail
      go_ret
      exact ⟨rfl, rfl⟩
end Go.Proofs.YtljbnnpmnoejeaaGreatDoor.nn
namespace Go.Proofs.YtljbnnpmnoejeaaGreatDoor.nn
open Go.RowKit

theorem num_few {w : World} {A : Option Addr} {n c : Nat} {f : Nat → Nat} {X : Nat} (hN : Num w A n c f X) (hb : X < big) : n ≤ 4096 := by
  rcases Nat.lt_or_ge 4096 n with h | h
  · have h1 := trm_long hN.trm h
    rw [hN.val] at h1
    omega
  · exact h
/-- one less -/
theorem psub_one_any (A : Option Addr) (n c : Nat) (f : Nat → Nat) (X g : Nat) (w : World) (hN : Num w A n c f X) (hX : 0 < X) (hb : X < big) (hg : Limb w g 1) :
    Calls Tryz.prog 32 #[.slice A n c, .slice (some ⟨g, 0, none⟩) 1 1] w fun e w' => ∃ A' n' c' f', e = .returned (.tuple #[.slice A' n' c', .int .i64 0]) ∧ Num w' A' n' c' f' (X - 1) ∧ Below w.heap.size w w' := by
  have hn4 := num_few hN hb
  have hs1 : sm (2 ^ 32) (fun _ => 1) 1 = 1 := by simp [sm]
  have hl : tl2 n 1 f (fun _ => 1) = false := by
    unfold tl2
    have h1 := tr_le f n
    have h2 := tr_le (fun _ => 1) 1
    rw [decide_eq_false (by omega), decide_eq_false (by omega)]
    rfl
  have hR : subR n 1 f (fun _ => 1) = X - 1 := by
    unfold subR
    rw [hl, if_neg (by decide), hN.val, hs1, if_neg (by omega)]
  have hE : subE n 1 f (fun _ => 1) = 0 := by
    unfold subE
    rw [hl, if_neg (by decide), hN.val, hs1, if_neg (by omega)]
  have h := sub_any A (some ⟨g, 0, none⟩) n 1 c 1 f (fun _ => 1) w hN.rd hg hN.lt (fun _ _ => by show 1 < 2 ^ 32; decide) hN.le (Nat.le_refl _) hN.cap (by unfold maxLen; omega)
  rw [hR, hE] at h
  exact h

/-- Y's bytes, few or many -/
def FewAns (w : World) (Y : Nat) (e : Ending) (w' : World) : Prop := ∃ g O, e = .returned (.slice (some ⟨g, 0, none⟩) (nb Y) (nb Y)) ∧ Rd w' .u8 (some ⟨g, 0, none⟩) (nb Y) O ∧ (∀ i, i < nb Y → O i = Y / 256 ^ (nb Y - 1 - i) % 256) ∧ Below w.heap.size w w'
theorem pbytes_num (A : Option Addr) (n c : Nat) (f : Nat → Nat) (Y : Nat) (w : World) (hN : Num w A n c f Y) (hb : Y < big) :
    Calls Tryz.prog 34 #[.slice A n c] w (FewAns w Y) := by
  have hn := num_few hN hb
  have h := bytes_any A n c f w hN.rd hN.lt hN.le hN.cap (by omega)
  rw [hN.val] at h
  refine h.mono ?_
  rintro e w' ⟨g, O, he, _, hr, hO, hb⟩
  exact ⟨g, O, he, hr, hO, hb⟩

set_option maxRecDepth 100000 in
set_option maxHeartbeats 4000000 in
theorem readWhole_any (s : ByteArray) (w : World) (hs : s.size ≤ 140737488351232) (hN : NmIs s s.size 0) (hw : wh s = true) (hz : at_ s 0 45 = true → 0 < wV s) :
    Calls Tryz.prog 15 #[.string s] w (VaAns s w) := by
  have HB0 := Lib.hid (Bz.new w)
  have HCP := Lib.hid (fun W => cutMinus_any s W (by unfold maxLen; omega))
  obtain ⟨hd1, hd2⟩ := whole_digits hN hw
  have hDsz := sfx_size s (cA s)
  have VI : Hid ((1200 < (sfx s (cA s)).size → VaIs s zt 8) ∧ (¬ 1200 < (sfx s (cA s)).size → VaIs s (numT (at_ s 0 45) (lessT (at_ s 0 45) (wV s))) 0)) :=
    Lib.hid ⟨fun h => .long hN hw h, fun h => .int hN hw h hz⟩
  have HFD : Hid (¬ 1200 < (sfx s (cA s)).size → ∀ W, Calls Tryz.prog 31 #[.string (sfx s (cA s))] W fun e w' => Res W w' e (wV s) 0 ∧ wV s < big) := Lib.hid fun h W => by
    have hlt : wV s < big := Nat.lt_trans (dv_lt hd2) (ten_big (by omega))
    have := fromDigits_any (sfx s (cA s)) W (by unfold maxLen; omega)
    have e1 : fdR (bt (sfx s (cA s))) (sfx s (cA s)).size = wV s := by
      unfold fdR
      rw [if_neg (by omega), hd2, decide_eq_true (by omega)]
      rfl
    have e2 : fdE (bt (sfx s (cA s))) (sfx s (cA s)).size = 0 := by
      unfold fdE
      rw [if_neg (by omega), hd2, decide_eq_true (by omega)]
      rfl
    rw [e1, e2] at this
    exact this.mono fun e w' h => ⟨h, hlt⟩
  obtain ⟨neg, hng⟩ : ∃ b, at_ s 0 45 = b := ⟨_, rfl⟩
  obtain ⟨D, hD⟩ : ∃ D, sfx s (cA s) = D := ⟨_, rfl⟩
  obtain ⟨X, hXX⟩ : ∃ X, wV s = X := ⟨_, rfl⟩
  rw [hng, hD, hXX] at VI
  rw [hng, hD] at HCP
  rw [hng, hXX] at hz
  rw [hD, hXX] at HFD
  rw [hD] at hDsz
  clear hw hd1 hd2 hng hXX hD hN
  go_enter Tryz.func15, Tryz.ntmps15
  go_wp2_with fail
  refine (HCP.out _).mono ?_
  rintro e w1 ⟨rfl, hww⟩
  obtain rfl : w.alloc (.cells (vc zt nilS) 25) = w1 := hww
  by_cases hl : 1200 < D.size
  · have HV := Lib.hid (VI.out.1 hl)
    obtain ⟨⟨bc0, bf0⟩, ⟨bc1, bf1⟩, ⟨bc2, bf2⟩, ⟨bc3, bf3⟩, ⟨bc4, bf4⟩⟩ := HB0.out.f
    have HBF : Hid (∀ nq, Below w.heap.size w ((w.alloc (.cells (vc zt nilS) 25)).drewN nq)) := Lib.hid fun nq => drewN_keep HB0.out.b nq
    generalize w.alloc (.cells (vc zt nilS) 25) = w1 at *
    clear HFD VI
    go_wp2_with fail
    exact bodyPost_ret (v := .tuple #[.agg #[.int .i64 0, .bool false, .int .u64 0, .string ⟨#[]⟩, .slice none 0 0], .int .i64 8]) (by simp [results, Tryz.results15, go_sem, bc0, bc1, bc2, bc3, bc4]) rfl ⟨zt, 8, rfl, HV.out, below_set5 (HBF.out 0) (Nat.le_refl _) _ _ _ _ _⟩
  · have HF := Lib.hid (HFD.out hl)
    have HV0 := Lib.hid (VI.out.2 hl)
    clear HFD VI
    go_wp2_with fail
    refine (HF.out _).mono ?_
    rintro e w3 ⟨⟨A3, n3, c3, f3, rfl, hn3, hb3⟩, hXb⟩
    have N3 := Lib.hid hn3
    have B3 := Lib.hid (HB0.out.on hb3)
    obtain ⟨Y, hY⟩ : ∃ Y, lessT neg X = Y := ⟨_, rfl⟩
    rw [hY] at HV0
    have hYb : Y < big := by rw [← hY]; unfold lessT; split <;> omega
    have HS : Hid (neg = true → ∀ W g, Bz w W → Num W A3 n3 c3 f3 X → Limb W g 1 → Calls Tryz.prog 32 #[.slice A3 n3 c3, .slice (some ⟨g, 0, none⟩) 1 1] W fun e w' => ∃ A' n' c' f', e = .returned (.tuple #[.slice A' n' c', .int .i64 0]) ∧ Num w' A' n' c' f' Y ∧ Bz w w') := Lib.hid fun hng W g hW hNW hg => by
      refine (psub_one_any A3 n3 c3 f3 X g W hNW (hz hng) hXb hg).mono ?_
      rintro e w' ⟨A', n', c', f', h1, h3, h4⟩
      refine ⟨A', n', c', f', h1, ?_, hW.on h4⟩
      rw [← hY, hng]
      exact h3
    have HO1 := Lib.hid (fun W => one_any W)
    have HF1 : Hid (neg = false → X = Y) := Lib.hid fun h => by rw [← hY, h]; rfl
    have HPB := Lib.hid (fun A n c f W (h : Num W A n c f Y) => pbytes_num A n c f Y W h hYb)
    clear hn3 hb3 HF hz hY hXb hYb
    go_upto_if 23 with (fail)
    go_cut [6] (fun s6 wx => (∃ A' n' c' f', s6 = .slice A' n' c' ∧ Hid (Num wx A' n' c' f' Y ∧ Bz w wx)))
    case first =>
      cases neg with
      | false =>
        obtain rfl := HF1.out rfl
        go_wp2_with fail
        go_meet
        exact ⟨A3, n3, c3, f3, rfl, Lib.hid ⟨N3.out, B3.out⟩⟩
      | true =>
        have HS1 := Lib.hid (HS.out rfl)
        clear HS HF1
        go_wp2_with fail
        refine (HO1.out _).mono ?_
        rintro e w4 ⟨g, rfl, hg, hb4⟩
        have G4 := Lib.hid hg
        have N4 := Lib.hid (Num.keep N3.out hb4)
        have B4 := Lib.hid (B3.out.on hb4)
        clear hg hb4
        go_wp2_with fail
        refine (HS1.out _ _ B4.out N4.out G4.out).mono ?_
        rintro e w5 ⟨A5, n5, c5, f5, rfl, hn5, hk5⟩
        have HH := Lib.hid (And.intro hn5 hk5)
        clear hn5 hk5
        go_wp2_with fail
        go_meet
        exact ⟨A5, n5, c5, f5, rfl, HH⟩
    case rest =>
      obtain ⟨A', n', c', f', rfl, hNB⟩ := hcut
      have HC := Lib.hid (HPB.out A' n' c' f' wc hNB.out.1)
      have HBz := Lib.hid hNB.out.2
      clear HS HF1 N3 B3 hNB HPB HO1
      go_wp2_with fail
      refine HC.out.mono ?_
      rintro e w2 ⟨g2, O, rfl, hr2, hO, hb2⟩
      obtain ⟨L, hL⟩ : ∃ L, nb Y = L := ⟨_, rfl⟩
      have hO256 : ∀ i, i < L → O i < 256 := fun i hi => by rw [hO i (by omega)]; exact Nat.mod_lt _ (by decide)
      have B2 := Lib.hid (HBz.out.on hb2)
      have hbe : pc O (nb Y) = beT Y := pc_congr hO
      have h8 := fun h => nb_eight (N := Y) h
      rw [hL] at hr2 hO hbe h8 ⊢
      have HT1 : Hid (8 < L → numT neg Y = .mk 5 neg 0 (beT Y) []) := Lib.hid fun h => by unfold numT; rw [hL, if_pos h]
      have HT2 : Hid (¬ 8 < L → numT neg Y = .mk 4 neg Y e7 []) := Lib.hid fun h => by unfold numT; rw [hL, if_neg h]
      have hlt := nb_lt Y
      rw [hL] at hlt
      obtain ⟨⟨bc0, bf0⟩, ⟨bc1, bf1⟩, ⟨bc2, bf2⟩, ⟨bc3, bf3⟩, ⟨bc4, bf4⟩⟩ := B2.out.f
      have HBF : Hid (∀ nq, Below w.heap.size w (w2.drewN nq)) := Lib.hid fun nq => drewN_keep B2.out.b nq
      clear hb2 hL HC HBz
      by_cases hl8 : 8 < L
      · have HT := Lib.hid (HT1.out hl8)
        have kc := conv_row (some ⟨g2, 0, none⟩) L L O w2 hr2
        rw [hbe] at kc
        obtain ⟨P, hP⟩ : ∃ P, beT Y = P := ⟨_, rfl⟩
        rw [hP] at kc HT
        clear HT1 HT2 hO hO256 hbe h8 hP hr2 hlt
        go_wp2_with fail
        exact bodyPost_ret (v := .tuple #[.agg #[.int .i64 5, .bool neg, .int .u64 0, .string P, .slice none 0 0], .int .i64 0]) (by simp [results, Tryz.results15, go_sem, bc0, bc1, bc2, bc3, bc4]) rfl ⟨numT neg Y, 0, by rw [HT.out]; rfl, HV0.out, below_set5 (HBF.out 0) (Nat.le_refl _) _ _ _ _ _⟩
      · have HT := Lib.hid (HT2.out hl8)
        have hY64 := h8 (by omega)
        have HSH := Lib.hid (short_any (some ⟨g2, 0, none⟩) L L O Y w2 hr2 hO hY64 hlt (by omega))
        clear HT1 HT2 hO hO256 hbe h8 hr2 hlt
        go_wp2_with fail
        refine HSH.out.mono ?_
        rintro e w' ⟨rfl, rfl⟩
        go_wp2_with fail
        exact bodyPost_ret (v := .tuple #[.agg #[.int .i64 4, .bool neg, .int .u64 (Y : Int), .string ⟨#[]⟩, .slice none 0 0], .int .i64 0]) (by simp [results, Tryz.results15, go_sem, bc0, bc1, bc2, bc3, bc4]) rfl ⟨numT neg Y, 0, by rw [HT.out]; rfl, HV0.out, below_set5 (HBF.out 0) (Nat.le_refl _) _ _ _ _ _⟩
end Go.Proofs.YtljbnnpmnoejeaaGreatDoor.nn
namespace Go.Proofs.YtljbnnpmnoejeaaGreatDoor.nn
open Go.RowKit

theorem wb_has (x : UInt8) : ([46, 101, 69] : List UInt8).contains x = wb x.toNat := by
  have : ∀ n, n < 256 → ([46, 101, 69] : List UInt8).contains (UInt8.ofNat n) = wb n := by decide +kernel
  have h := this x.toNat x.toNat_lt
  rwa [UInt8.ofNat_toNat] at h
theorem wls_first {f : Nat → Nat} {n : Nat} (h : wls f n = false) : ∃ i, i < n ∧ wls f i = true ∧ wb (f i) = true := by
  induction n with
  | zero => cases h
  | succ n ih =>
    cases hn : wls f n with
    | true =>
      rw [wls, hn, Bool.true_and, Bool.not_eq_false'] at h
      exact ⟨n, Nat.lt_succ_self n, hn, h⟩
    | false =>
      obtain ⟨i, h1, h2, h3⟩ := ih hn
      exact ⟨i, Nat.lt_succ_of_lt h1, h2, h3⟩
theorem data_bt {s : ByteArray} {j : Nat} {b : UInt8} (h : s.data.toList[j]? = some b) : j < s.size ∧ bt s j = b.toNat := by
  obtain ⟨hj, e⟩ := List.getElem?_eq_some_iff.1 h
  have hj' : j < s.size := by rw [Array.length_toList] at hj; exact hj
  refine ⟨hj', ?_⟩
  rw [bt_at hj', ← e]
  rfl
theorem no_any {s : ByteArray} {i : Nat} (h : wls (bt s) i = true) : Lib.NoAny s.data.toList [46, 101, 69] i := fun j b hj hb => by
  rw [wb_has, ← (data_bt hb).2]
  exact wls_at h hj
theorem ascii_nst {q b : Nat} (h : nst q b ≠ 9) (hb : b < 256) : b < 128 := by
  rcases Nat.lt_or_ge b 128 with g | g
  · exact g
  · exfalso
    apply h
    have hd : dg b = false := by unfold dg; exact decide_eq_false (by omega)
    unfold nst
    rw [hd, if_neg (by decide), if_neg (by omega), if_neg (by omega), if_neg (by omega), if_neg (by omega)]
theorem ascii_of {s : ByteArray} (h : NmIs s s.size 0) : ∀ (j : Nat) b, s.data.toList[j]? = some b → b.toNat < 128 := fun j b hb => by
  obtain ⟨hj, e⟩ := data_bt hb
  have h1 := nq_less h.go (show j + 1 ≤ s.size by omega)
  rw [nq, e] at h1
  exact ascii_nst h1 b.toNat_lt
theorem index_wh (s : ByteArray) : (wh s = true → Lib.indexAny s.data.toList [46, 101, 69] = -1) ∧ (wh s = false → 0 ≤ Lib.indexAny s.data.toList [46, 101, 69]) := by
  refine ⟨fun h => ?_, fun h => ?_⟩
  · exact Lib.indexAny_none (by rw [Array.length_toList]; exact no_any h)
  · obtain ⟨i, h1, h2, h3⟩ := wls_first h
    have hx : s.data.toList[i]? = some (s[i]) := by
      rw [List.getElem?_eq_getElem (show i < s.data.toList.length by rw [Array.length_toList]; exact h1)]
      rfl
    have hc : ([46, 101, 69] : List UInt8).contains s[i] = true := by
      rw [wb_has, ← bt_at h1]
      exact h3
    rw [Lib.indexAny_hit (no_any h2) hx hc]
    omega
def AnyAns (s : ByteArray) (w : World) (e : Ending) (w' : World) : Prop := ∃ z : Int, e = .returned (.int .i64 z) ∧ (wh s = true → z = -1) ∧ (wh s = false → 0 ≤ z) ∧ Below w.heap.size w w'

set_option maxRecDepth 100000 in
set_option maxHeartbeats 4000000 in
theorem indexAny_far (s : ByteArray) (w : World) (h8 : 8 < s.size) (hs : s.size ≤ 140737488351232) : Calls Tryz.prog 29 #[.string s, .string ⟨#[46, 101, 69]⟩] w (AnyAns s w) := by
  have h116 : (Tryz.prog.info? 91).map (fun i => (i.zero, i.size)) = some (some (.agg (Array.replicate 256 (.bool false))), 256) := by kernel_rfl
  have hz := (zero_of_info h116).1
  have hi := (zero_of_info h116).2
  have HM := Lib.hid (fun W => Tryz.strings_makeASCIISet hz ⟨#[46, 101, 69]⟩ W (by decide) (fun j b hb => by
    have : j = 0 ∨ j = 1 ∨ j = 2 ∨ 3 ≤ j := by omega
    rcases this with rfl | rfl | rfl | h
    · injection hb with hb; subst hb; decide
    · injection hb with hb; subst hb; decide
    · injection hb with hb; subst hb; decide
    · rw [List.getElem?_eq_none (by show 3 ≤ j; exact h)] at hb; cases hb))
  have HSU := Lib.hid (fun W => Tryz.strings_shouldUseASCIISet (s.size : Int) W)
  rw [decide_eq_true (show (8 : Int) < (s.size : Int) by omega)] at HSU
  have hsz6 := Lib.setCells_size [46, 101, 69]
  have h1c := Lib.setCells_one [46, 101, 69]
  have hat := Lib.setCells_at [46, 101, 69]
  obtain ⟨CS, hCS⟩ : ∃ CS, Lib.setCells [46, 101, 69] = CS := ⟨_, rfl⟩
  have hCS2 : Lib.setCells (ByteArray.mk #[46, 101, 69]).data.toList = CS := hCS
  rw [hCS2] at HM
  rw [hCS] at hsz6 h1c hat
  obtain ⟨W1, hW1⟩ : ∃ W, w.alloc (.cells CS 91) = W := ⟨_, rfl⟩
  obtain ⟨W2, hW2⟩ : ∃ W, W1.alloc (.cells CS 91) = W := ⟨_, rfl⟩
  have hn1 : W1.heap.size = w.heap.size + 1 := by rw [← hW1]; exact hsz _ _
  have hn2 : W2.heap.size = w.heap.size + 2 := by rw [← hW2, hsz, hn1]
  have HB2 : Hid (Below w.heap.size w W2) := Lib.hid (by
    rw [← hW2, ← hW1]
    exact ((Below.refl _ _).alloc (Nat.le_refl _) _).alloc (by rw [hsz]; omega) _)
  have HC : Hid (∀ x : UInt8, W2.cell? ⟨w.heap.size + 1, x.toNat, none⟩ = some (.bool (wb x.toNat))) := Lib.hid fun x => by
    rw [← hW2, ← hn1, World.cell?_alloc_at _ _ _ _ rfl, hat, wb_has]
  have hsc : (storeCells ⟨w.heap.size + 1, 0, none⟩ CS.toList 0).run Tryz.prog (W1.alloc (.cells (Array.replicate 256 (.bool false)) 91)) = .ok () W2 := by
    have := run_storeCells_new (P := Tryz.prog) W1 91 (Array.replicate 256 (.bool false)) CS (by rw [hsz6]; exact hi) (by rw [hsz6, Array.size_replicate]) h1c
    rwa [hn1, hW2] at this
  have HCC := Lib.hid (fun b x v W hc => Tryz.asciiSet_contains b x v W hc)
  have HNO : Hid (∀ i, i < s.size → wb (bt s i) = true → wh s = false) := Lib.hid fun i hi h => wls_no hi h
  have HYES : Hid (wls (bt s) s.size = true → wh s = true) := Lib.hid fun h => h
  have HW1 := Lib.hid hW1
  clear h116 hCS hCS2 hat hW1 hW2 hn2 h1c hi
  go_enter Tryz.func29, Tryz.ntmps29
  go_wp2_with fail
  refine (HSU.out _).mono ?_
  rintro e w' ⟨rfl, hw1⟩
  obtain rfl : w = w' := hw1.symm
  go_wp2_with fail
  refine (HM.out _).mono ?_
  rintro e w' ⟨rfl, hw2⟩
  rw [HW1.out] at hw2
  obtain rfl : W1 = w' := hw2.symm
  go_wp2_with fail
  clear hsc hz HSU HM hsz6
  go_loopw [8] (fun s8 wx => ∃ i : Nat, i ≤ s.size ∧ s8 = .int .i64 (i : Int) ∧ wx = W2 ∧ Hid (wls (bt s) i = true)) (fun s8 _ => s.size - (intOf s8).toNat)
  case atStart => exact ⟨0, Nat.zero_le _, rfl, rfl, Lib.hid rfl⟩
  case round =>
    obtain ⟨i, hi, rfl, hww, hd⟩ := hrel
    obtain rfl : W2 = wr := hww.symm
    by_cases hlt : i < s.size
    · obtain ⟨x, hxx, hx, hx256⟩ := byte_of hlt
      have HC1 := Lib.hid (HCC.out (w.heap.size + 1) s[i] (wb x) W2 (by rw [HC.out, hxx]))
      rw [hxx] at HC1
      cases hb : wb x with
      | true =>
        have HF := Lib.hid (HNO.out i hlt (by rw [hx]; exact hb))
        rw [hb] at HC1
        clear hx hb
        go_wp2_with fail
        refine HC1.out.mono ?_
        rintro e w' ⟨rfl, hw3⟩
        obtain rfl : W2 = w' := hw3.symm
        go_wp2_with fail
        go_ret
        exact ⟨(i : Int), by first | rfl | trivial, fun h => by rw [HF.out] at h; exact absurd h (by decide), fun _ => by omega, HB2.out⟩
      | false =>
        have HD : Hid (wls (bt s) (i + 1) = true) := Lib.hid (by rw [wls, hd.out, hx, hb]; rfl)
        rw [hb] at HC1
        clear hx hb
        go_wp2_with fail
        refine HC1.out.mono ?_
        rintro e w' ⟨rfl, hw3⟩
        obtain rfl : W2 = w' := hw3.symm
        go_wp2_with fail
        go_roundw
        case rel => exact ⟨i + 1, hlt, by go_num, by first | rfl | trivial, HD⟩
        case measure => simp [intOf]; omega
    · obtain rfl : i = s.size := by omega
      have HT := Lib.hid (HYES.out hd.out)
      go_wp2_with fail
      go_ret
      refine ⟨-1, by first | rfl | trivial, fun _ => rfl, fun h => by rw [HT.out] at h; exact absurd h (by decide), HB2.out⟩
theorem indexAny_ct (s : ByteArray) (w : World) (hs : s.size ≤ 140737488351232) (hN : NmIs s s.size 0) : Calls Tryz.prog 29 #[.string s, .string ⟨#[46, 101, 69]⟩] w (AnyAns s w) := by
  by_cases h8 : s.size ≤ 8
  · refine (Tryz.strings_IndexAny_short s ⟨#[46, 101, 69]⟩ w (by decide) h8 (ascii_of hN)).mono ?_
    rintro e w' ⟨rfl, pos, rfl⟩
    obtain ⟨h1, h2⟩ := index_wh s
    exact ⟨_, rfl, h1, h2, (Below.refl _ _).alloc (Nat.le_refl _) _⟩
  · exact indexAny_far s w (by omega) hs
set_option maxRecDepth 100000 in
set_option maxHeartbeats 1000000 in
theorem containsAny_any (s : ByteArray) (w : World) (hs : s.size ≤ 140737488351232) (hN : NmIs s s.size 0) : Calls Tryz.prog 14 #[.string s, .string ⟨#[46, 101, 69]⟩] w fun e w' => e = .returned (.bool (!wh s)) ∧ Below w.heap.size w w' := by
  have HI := Lib.hid (indexAny_ct s w hs hN)
  obtain ⟨H, hH⟩ : ∃ H, wh s = H := ⟨_, rfl⟩
  unfold AnyAns at HI
  rw [hH] at HI ⊢
  clear hH hN
  cases H with
  | true =>
    go_enter Tryz.func14, Tryz.ntmps14
    go_wp2_with fail
    refine HI.out.mono ?_
    rintro e w' ⟨z, rfl, h1, _, hb⟩
    obtain rfl := h1 (by simp)
    have HB := Lib.hid hb
    clear hb h1
    go_wp2_with fail
    go_ret
    exact ⟨rfl, HB.out⟩
  | false =>
    go_enter Tryz.func14, Tryz.ntmps14
    go_wp2_with fail
    refine HI.out.mono ?_
    rintro e w' ⟨z, rfl, _, h2, hb⟩
    have hz := h2 (by simp)
    have HB := Lib.hid hb
    clear hb h2
    go_wp2_with fail
    go_ret
    exact ⟨rfl, HB.out⟩
end Go.Proofs.YtljbnnpmnoejeaaGreatDoor.nn
namespace Go.Proofs.YtljbnnpmnoejeaaGreatDoor.nn
open Go.RowKit

theorem toL_inj {s t : ByteArray} (h : s.toList = t.toList) : s = t := by
  rw [ByteArray.toList_eq, ByteArray.toList_eq] at h
  exact ByteArray.ext (Array.toList_inj.1 h)
set_option maxRecDepth 100000 in
set_option maxHeartbeats 4000000 in
theorem pvalue_any (s : ByteArray) (w : World) (hs : s.size ≤ 140737488351232) : Calls Tryz.prog 7 #[.string s] w (VaAns s w) := by
  have HB0 := Lib.hid (Bz.new w)
  have H1 := Lib.hid (fun W => pscan_any s W (by omega))
  have H3 := Lib.hid (fun W => readFloat_any s W hs)
  have HCA := Lib.hid (fun W h => containsAny_any s W hs h)
  have HRW := Lib.hid (fun W hN hw hz => readWhole_any s W hs hN hw hz)
  go_enter Tryz.func7, Tryz.ntmps7
  go_wp2_with fail
  refine (H1.out _).mono ?_
  rintro e w1 ⟨p, E, rfl, hN, hb1⟩
  have B1 := Lib.hid (HB0.out.on hb1)
  clear hb1 H1 HB0
  by_cases hE : E = 0 ∧ p = s.size
  · obtain ⟨rfl, rfl⟩ := hE
    have HN := Lib.hid hN
    have HCA1 := Lib.hid (fun W => HCA.out W HN.out)
    clear HCA
    by_cases hmz : s = ⟨#[45, 48]⟩
    · subst hmz
      clear hN HRW HCA1
      go_wp2_with fail
      refine (H3.out _).mono ?_
      rintro e w3 ⟨V, E, hS, he, hb3⟩
      obtain ⟨rfl, rfl⟩ := hS.uniq mz_sc
      obtain rfl : e = .returned (.tuple #[vv (.mk 8 false 9223372036854775808 ⟨#[]⟩ []) nilS, .int .i64 0]) := by
        rcases he with ⟨_, h⟩ | ⟨h, _⟩
        · exact h
        · exact absurd rfl h
      have B3 := Lib.hid (B1.out.on hb3)
      obtain ⟨⟨bc0, bf0⟩, ⟨bc1, bf1⟩, ⟨bc2, bf2⟩, ⟨bc3, bf3⟩, ⟨bc4, bf4⟩⟩ := B3.out.f
      have HBF : Hid (∀ nq, Below w.heap.size w (w3.drewN nq)) := Lib.hid fun nq => drewN_keep B3.out.b nq
      have HV := Lib.hid mz_va
      clear hb3 hS he H3 B1 B3 hs HN
      unfold vv nilS VT.k VT.g VT.n VT.s
      go_wp2_with fail
      exact bodyPost_ret (v := .tuple #[.agg #[.int .i64 8, .bool false, .int .u64 9223372036854775808, .string ⟨#[]⟩, .slice none 0 0], .int .i64 0]) (by simp [results, Tryz.results7, go_sem, bc0, bc1, bc2, bc3, bc4]) rfl ⟨_, 0, rfl, HV.out, below_set5 (HBF.out 0) (Nat.le_refl _) _ _ _ _ _⟩
    · have hml : (s.toList = (⟨#[45, 48]⟩ : ByteArray).toList) = False := eq_false fun h => hmz (toL_inj h)
      have hne1 : (s.toList == (⟨#[45, 48]⟩ : ByteArray).toList) = false := beq_eq_false_iff_ne.2 fun h => hmz (toL_inj h)
      have hne2 : (s.toList != (⟨#[45, 48]⟩ : ByteArray).toList) = true := bne_iff_ne.2 fun h => hmz (toL_inj h)
      have el : (⟨#[45, 48]⟩ : ByteArray).toList = [45, 48] := by rw [ByteArray.toList_eq]
      have hne3 : ¬ s.toList = [45, 48] := fun h => hmz (toL_inj (h.trans el.symm))
      have hne4 : (s.toList == [45, 48]) = false := beq_eq_false_iff_ne.2 hne3
      have hne5 : (s.toList != [45, 48]) = true := bne_iff_ne.2 hne3
      have HMZ := Lib.hid hmz
      clear hmz hN el
      cases hw : wh s with
      | true =>
        have HRW1 := Lib.hid (fun W => HRW.out W HN.out hw (mz_no HMZ.out HN.out hw))
        rw [hw] at HCA1
        clear HRW hw H3
        go_wp2_with fail
        refine (HCA1.out _).mono ?_
        rintro e w2 ⟨rfl, hb2⟩
        have B2 := Lib.hid (B1.out.on hb2)
        clear hb2 hml hne1 hne2 hne3 hne4 hne5
        go_wp2_with fail
        refine (HRW1.out _).mono ?_
        rintro e w3 ⟨t, E, rfl, hV, hb3⟩
        have B3 := Lib.hid (B2.out.on hb3)
        have HV := Lib.hid hV
        obtain ⟨⟨bc0, bf0⟩, ⟨bc1, bf1⟩, ⟨bc2, bf2⟩, ⟨bc3, bf3⟩, ⟨bc4, bf4⟩⟩ := B3.out.f
        have HBF : Hid (∀ nq, Below w.heap.size w (w3.drewN nq)) := Lib.hid fun nq => drewN_keep B3.out.b nq
        clear hb3 hV B1 B2 B3 HRW1 HCA1
        unfold vv nilS
        go_wp2_with fail
        exact bodyPost_ret (v := .tuple #[.agg #[.int .i64 t.k, .bool t.g, .int .u64 (t.n : Int), .string t.s, .slice none 0 0], .int .i64 (E : Int)]) (by simp [results, Tryz.results7, go_sem, bc0, bc1, bc2, bc3, bc4]) rfl ⟨t, E, rfl, HV.out, below_set5 (HBF.out 0) (Nat.le_refl _) _ _ _ _ _⟩
      | false =>
        have HW := Lib.hid hw
        rw [hw] at HCA1
        clear HRW hw
        go_wp2_with fail
        refine (HCA1.out _).mono ?_
        rintro e w2 ⟨rfl, hb2⟩
        have B2 := Lib.hid (B1.out.on hb2)
        clear hb2 hml hne1 hne2 hne3 hne4 hne5
        go_wp2_with fail
        refine (H3.out _).mono ?_
        rintro e w3 ⟨V, E, hS, he, hb3⟩
        obtain ⟨t, E9, rfl, hV⟩ : ∃ t E9, e = .returned (.tuple #[vv t nilS, .int .i64 ((E9 : Nat) : Int)]) ∧ VaIs s t E9 := by
          rcases he with ⟨rfl, h⟩ | ⟨hE, h⟩
          · exact ⟨_, 0, h, .flt HN.out HW.out hS⟩
          · exact ⟨_, 8, h, .far HN.out HW.out hS hE⟩
        have B3 := Lib.hid (B2.out.on hb3)
        have HV := Lib.hid hV
        obtain ⟨⟨bc0, bf0⟩, ⟨bc1, bf1⟩, ⟨bc2, bf2⟩, ⟨bc3, bf3⟩, ⟨bc4, bf4⟩⟩ := B3.out.f
        have HBF : Hid (∀ nq, Below w.heap.size w (w3.drewN nq)) := Lib.hid fun nq => drewN_keep B3.out.b nq
        clear hb3 hV B1 B2 B3 HCA1 hS he
        unfold vv nilS
        go_wp2_with fail
        exact bodyPost_ret (v := .tuple #[.agg #[.int .i64 t.k, .bool t.g, .int .u64 (t.n : Int), .string t.s, .slice none 0 0], .int .i64 (E9 : Int)]) (by simp [results, Tryz.results7, go_sem, bc0, bc1, bc2, bc3, bc4]) rfl ⟨t, E9, rfl, HV.out, below_set5 (HBF.out 0) (Nat.le_refl _) _ _ _ _ _⟩
  · have HV : Hid (VaIs s zt 4) := Lib.hid (.form fun g => hE (by obtain ⟨a, b⟩ := hN.uniq g; exact ⟨b, a⟩))
    have hps : p ≤ s.size := hN.le
    obtain ⟨⟨bc0, bf0⟩, ⟨bc1, bf1⟩, ⟨bc2, bf2⟩, ⟨bc3, bf3⟩, ⟨bc4, bf4⟩⟩ := B1.out.f
    have HBF : Hid (∀ nq, Below w.heap.size w (w1.drewN nq)) := Lib.hid fun nq => drewN_keep B1.out.b nq
    clear H3 hN B1 HCA HRW
    by_cases h0 : E = 0
    · subst h0
      have hlt : (p : Int) < (s.size : Int) := by omega
      clear hE
      go_wp2_with fail
      exact bodyPost_ret (v := .tuple #[.agg #[.int .i64 0, .bool false, .int .u64 0, .string ⟨#[]⟩, .slice none 0 0], .int .i64 4]) (by simp [results, Tryz.results7, go_sem, bc0, bc1, bc2, bc3, bc4]) rfl ⟨zt, 4, rfl, HV.out, below_set5 (HBF.out 0) (Nat.le_refl _) _ _ _ _ _⟩
    · have hE1 : ((E : Int) == 0) = false := by rw [beq_eq_false_iff_ne]; omega
      have hE2 : ((E : Int) != 0) = true := by simp; omega
      clear hE
      go_wp2_with fail
      exact bodyPost_ret (v := .tuple #[.agg #[.int .i64 0, .bool false, .int .u64 0, .string ⟨#[]⟩, .slice none 0 0], .int .i64 4]) (by simp [results, Tryz.results7, go_sem, bc0, bc1, bc2, bc3, bc4]) rfl ⟨zt, 4, rfl, HV.out, below_set5 (HBF.out 0) (Nat.le_refl _) _ _ _ _ _⟩
end Go.Proofs.YtljbnnpmnoejeaaGreatDoor.nn
namespace Go.Proofs.YtljbnnpmnoejeaaGreatDoor.nn
open Go.RowKit

theorem nvaluesL_any (s : ByteArray) (hs : s.size ≤ 140737488351232) (w : World) :
    Calls Tryz.prog 3 #[.string s] w fun e w' => e = .returned (.bool true) ∧ Below w.heap.size w w' := nvalues_any s hs w (Lib.hid fun W _ => pvalue_any s W hs)
theorem nwholesL_any (n : Nat) (hn : n < 18446744073709551616) (w : World) :
    Calls Tryz.prog 6 #[.int .u64 (n : Int)] w fun e w' => e = .returned (.bool true) ∧ Below w.heap.size w w' := nwholes_any n hn w (Lib.hid fun s W hs _ => pvalue_any s W (by omega))
end Go.Proofs.YtljbnnpmnoejeaaGreatDoor.nn
