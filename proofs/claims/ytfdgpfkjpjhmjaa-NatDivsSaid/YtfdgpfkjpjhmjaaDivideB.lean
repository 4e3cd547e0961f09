/- The walk of divide: the general way, limb by limb. -/
import Derived.Test.YtfdgpfkjpjhmjaaDivideA
import Derived.Test.YtfdgpfkjpjhmjaaTakeOut
import Derived.Test.YtfdgpfkjpjhmjaaShiftDown64
import Derived.Laws.CopyOwn
namespace Go.Proofs.Ytfdgpfkjpjhmjaa.nn
open Go.RowKit

theorem shiftDown64_at (A : Option Addr) (n c s : Nat) (f : Nat → Nat) (w : World) (hA : Rd w .u64 A n f) (lf : Lt (2 ^ 64) f n) (hs : s < 64) (hn : n ≤ c) (hc : c ≤ maxLen) (hreach : n * 8 ≤ 140737488355328) :
    Calls Try.prog 65 #[.slice A n c, .int .i64 s] w fun e w' => One64 w w' e (sm (2 ^ 64) f n / 2 ^ s) n := by
  rcases Nat.eq_zero_or_pos n with h0 | h0
  · exact shiftDown64_none A n c s 0 s f w lf (by omega) hs (by omega) (by omega)
  · exact shiftDown64_some A n c s 0 s f w hA lf (by omega) hs h0 hn hc hreach

/-- a slice as the cells that copy reads -/
theorem Rd.cells {w : World} {K : IntKind} {A : Option Addr} {n : Nat} {f : Nat → Nat} (h : Rd w K A n f) (h0 : 0 < n) : ∃ ad, A = some ad ∧ ∀ j u, (vl K f n)[j]? = some u → w.cell? (ad.add j) = some u := by
  obtain ⟨b, off, e, _, hc⟩ := h h0
  refine ⟨_, e, fun j u hu => ?_⟩
  have hj : j < n := by
    have := (List.getElem?_eq_some_iff.1 hu).1
    rwa [vl_length] at this
  rw [vl_at K f hj] at hu
  injection hu with hu
  subst hu
  have hadd : (⟨b, off, none⟩ : Addr).add j = ⟨b, off + j, none⟩ := by unfold Addr.add; split <;> simp_all
  rw [hadd]
  exact hc j hj

theorem splice_ints {cur : Array Value} {K : IntKind} {N m : Nat} {f : Nat → Nat} (h : Ints cur K 0 N (fun _ => 0)) (_hm : m ≤ N) : Ints (splice cur.toList 0 (vl K f m)).toArray K 0 N (pad f m) := fun i hi => by
  have e : splice cur.toList 0 (vl K f m) = vl K f m ++ cur.toList.drop m := by simp [splice, vl_length]
  rw [e, Nat.zero_add, List.getElem?_toArray]
  by_cases c : i < m
  · rw [List.getElem?_append_left (by rw [vl_length]; exact c), vl_at K f c]
    simp [pad, c]
  · rw [List.getElem?_append_right (by rw [vl_length]; omega), vl_length, List.getElem?_drop, show m + (i - m) = i by omega]
    have := h i hi
    rw [Nat.zero_add] at this
    simp only [pad, if_neg c]
    rw [Array.getElem?_toList]
    exact this

/-- no longer than its value asks -/
theorem len_le {B : Nat} (hB : 0 < B) {f : Nat → Nat} {n m : Nat} (tf : Trm f n) (h : sm B f n < B ^ m) : n ≤ m := by
  rcases Nat.lt_or_ge m n with c | c
  · obtain ⟨k, rfl⟩ : ∃ k, n = k + 1 := ⟨n - 1, by omega⟩
    rcases tf with tf | tf
    · omega
    · have a := sm_ge (B := B) (f := f) (n := k) (by simpa using tf)
      have b : B ^ m ≤ B ^ k := Nat.pow_le_pow_right hB (by omega)
      omega
  · exact c

/-- a slice in a block below g, behind what kept all blocks below g -/
theorem Rd.belowAt {w w' : World} {K : IntKind} {A : Option Addr} {n g : Nat} {f : Nat → Nat} (h : Rd w K A n f) (hb : Below g w w') (hlt : ∀ b o, A = some ⟨b, o, none⟩ → 0 < n → b < g) : Rd w' K A n f := fun h0 => by
  obtain ⟨b, off, e, h1, hc⟩ := h h0
  have := hlt b off e h0
  exact ⟨b, off, e, Nat.lt_of_lt_of_le h1 hb.size, fun i hi => (hb.cell (p := ⟨b, off + i, none⟩) this).trans (hc i hi)⟩

theorem size_u64 : (Try.prog.info? 63).map (·.size) = some 1 := by kernel_rfl

/-- what holds at the loop's head, with t limbs of the quotient still to come -/
def DivLoop (w7 wr : World) (g1 g2 : Nat) (e : TypeId) (Q S D m t : Nat) : Prop :=
  ∃ (fr : Nat → Nat) (cur1 : Array Value) (fq : Nat → Nat) (cur2 : Array Value), Bk wr g1 e cur1 ∧ Ints cur1 .u64 0 (Q + m) fr ∧ Bk wr g2 e cur2 ∧ Ints cur2 .u64 0 Q fq ∧ Long W64 S D m Q fr fq t ∧ Below g1 w7 wr

/-- behind one limb -/
theorem DivLoop.step {w7 wr w8 : World} {g1 g2 : Nat} {e : TypeId} {Q S D m i : Nat} {fr : Nat → Nat} {cur1 : Array Value} {fq : Nat → Nat} {cur2 cur1' : Array Value} {f1 : Nat → Nat}
    (hg : g1 < g2) (hg7 : g1 ≤ w7.heap.size) (hi1 : Ints cur1 .u64 0 (Q + m) fr) (hb2 : Bk wr g2 e cur2) (hi2 : Ints cur2 .u64 0 Q fq) (hL : Long W64 S D m Q fr fq (i + 1)) (hB : Below g1 w7 wr) (hi : i < Q) (hD : D < W64 ^ m) (hD0 : 0 < D)
    (hw : Wrote wr w8 g1 e cur1 cur1' i (m + 1)) (hi' : Ints cur1' .u64 i (m + 1) f1) (l1 : Lt W64 f1 (m + 1)) (hv : sm W64 f1 (m + 1) = sm W64 (fun j => fr (i + j)) (m + 1) % D) :
    DivLoop w7 (w8.setCell ⟨g2, i, none⟩ (.int .u64 ((sm W64 (fun j => fr (i + j)) (m + 1) / D : Nat) : Int))) g1 g2 e Q S D m i := by
  have hbk1 := hw.blk
  have hbk2 := hb2.grown hw.grown (by intro h; injection h with h; omega)
  have hw2 := (Wrote.refl hbk2 0 Q).set_ i hi (.int .u64 ((sm W64 (fun j => fr (i + j)) (m + 1) / D : Nat) : Int))
  have h2 := hi2.set_ i (sm W64 (fun j => fr (i + j)) (m + 1) / D) hi
  simp only [Nat.zero_add] at hw2 h2
  have hB1 := (hB.grown hw.grown (Nat.le_trans hg7 hB.size) (fun k hk => by injection hk with hk; omega))
  refine ⟨put fr i (m + 1) f1, cur1', _, _, hbk1.grown hw2.grown (by intro h; injection h with h; omega), fun j hj => ?_, hw2.blk, h2, hL.step hi l1 hD hD0 hv, hB1.grown hw2.grown (Nat.le_trans hg7 hB1.size) (fun k hk => by injection hk with hk; omega)⟩
  rw [Nat.zero_add]
  by_cases c : i ≤ j ∧ j < i + (m + 1)
  · obtain ⟨k, rfl⟩ : ∃ k, j = i + k := ⟨j - i, by omega⟩
    rw [put_in fr f1 (by omega)]
    exact hi' k (by omega)
  · rw [put_out fr f1 (by omega), hw.out j (by omega)]
    have := hi1 j hj
    rwa [Nat.zero_add] at this

set_option maxRecDepth 100000 in
set_option maxHeartbeats 4000000 in
theorem divide_many (A B : Option Addr) (n m c d : Nat) (f h : Nat → Nat) (w : World) (hA : Rd w .u64 A n f) (hB : Rd w .u64 B m h)
    (lf : Lt W64 f n) (lh : Lt W64 h m) (tf : Trm f n) (th : Trm h m) (hn : n ≤ 400000) (hm : m ≤ 400000) (hm2 : 2 ≤ m) (hge : sm W64 h m ≤ sm W64 f n) :
    Calls Try.prog 49 #[.slice A n c, .slice B m d] w fun e w' => Two w w' e (sm W64 f n / sm W64 h m) (sm W64 f n % sm W64 h m) := by
  obtain ⟨i0, hi, hz0, hz1, hz2⟩ := info_parts info_u64
  have hc := compare64_w A B n m c d f h w hA hB lf lh tf th (by unfold maxLen; omega) (by unfold maxLen; omega)
  have hz : 0 ≤ cm (sm W64 f n) (sm W64 h m) := by
    unfold cm; rw [if_neg (by omega)]; split <;> omega
  obtain ⟨z, ez⟩ : ∃ z, cm (sm W64 f n) (sm W64 h m) = z := ⟨_, rfl⟩
  rw [ez] at hc hz
  have HC := Lib.hid hc
  have hnm : m ≤ n := len_le w64_pos th (Nat.lt_of_le_of_lt hge (sm_lt lf))
  have htop : h (m - 1) ≠ 0 := by
    rcases th with th | th
    · omega
    · exact th
  have hyl := lh (m - 1) (by omega)
  obtain ⟨s, hs⟩ : ∃ s, 64 - bl (h (m - 1)) = s := ⟨_, rfl⟩
  have hble : bl (h (m - 1)) ≤ 64 := bl_le (k := 64) hyl
  have hbl0 := (bl_ge htop).2
  have hfull := up_full (wd := 64) (s := s) (h := h) (m := m - 1) (by rw [Nat.sub_add_cancel (by omega)]; exact lh) htop (by omega)
  rw [Nat.sub_add_cancel (by omega)] at hfull
  have hL : ∀ W, Calls Try.prog 62 #[.int .u64 (h (m - 1) : Nat)] W fun e w' => e = .returned (.int .i64 (s : Int)) ∧ W = w' := fun W =>
    (Go.Proofs.Try.bits_LeadingZeros64 (h (m - 1) : Int) W (by omega) (by unfold W64 at hyl; omega)).mono (R' := fun e w' => e = .returned (.int .i64 (s : Int)) ∧ W = w') (by
      rintro e w' ⟨rfl, rfl⟩
      refine ⟨?_, rfl⟩
      rw [Int.toNat_natCast, bitLen_bl 64 _ hyl (by omega)]
      exact ret_int (by omega))
  obtain ⟨b, off, rfl, hbl, hcell⟩ := hB (by omega)
  have hx := hcell (m - 1) (by omega)
  obtain ⟨y, hy⟩ : ∃ y, h (m - 1) = y := ⟨_, rfl⟩
  rw [hy] at hx hL
  obtain ⟨Q, hQ⟩ : ∃ Q, n + 1 = Q + m := ⟨n + 1 - m, by omega⟩
  have hfull2 : 2 ^ 63 * W64 ^ (m - 1) ≤ sm W64 h m * 2 ^ s ∧ sm W64 h m * 2 ^ s < W64 ^ m := hfull
  have hs63 : s ≤ 63 := by omega
  have HL := Lib.hid hL
  have LF := Lib.hid lf
  have LH := Lib.hid lh
  have HF := Lib.hid hfull2
  have HQ := Lib.hid hQ
  have HNM := Lib.hid hnm
  have Qle : Q ≤ 400001 := by omega
  have HAV := Lib.hid (sm_lt lf)
  clear hc lf lh tf th hge hcell ez hy hyl hs hble hbl0 hfull hfull2 hL htop hQ hnm
  go_enter Try.func49, Try.ntmps49
  go_wp2_with fail
  refine HC.out.mono ?_
  rintro e w' ⟨rfl, j, rfl⟩
  go_wp2_with fail
  refine (HL.out _).mono ?_
  rintro e w' ⟨rfl, rfl⟩
  go_wp2_with fail
  refine (shiftUp64_any _ m d s 0 s h _ (hB.drewN j) LH.out (by omega) (by omega) (by omega)).mono ?_
  rintro e w3 ⟨AD, nD, cD, fD, rfl, hnD, _, hb3⟩
  have hb3' : Below w.heap.size w w3 := (drew_below (Below.refl w.heap.size w) j).trans hb3
  obtain rfl : nD = m := by
    have h1 := hnD.val
    have h2 := HF.out
    have := len_of (B := 2 ^ 64) (m := m - 1) (Nat.two_pow_pos 64) hnD.lt hnD.trm (by
      rw [h1]
      refine Nat.le_trans ?_ h2.1
      exact Nat.le_mul_of_pos_left _ (Nat.two_pow_pos 63)) (by rw [h1, Nat.sub_add_cancel (by omega)]; exact h2.2)
    omega
  have hAw3 := hA.below hb3'
  have HND := Lib.hid hnD
  have HB3 := Lib.hid hb3'
  clear hnD hb3 hb3' hx hA HC HL
  go_wp2_with (refine wpList_make_full _ rfl _ _ 59 rfl w3.heap.size 63 i0 _ 1 Try.underlying59 hi hz0 hz1 .i64 .i64 _ _ (n + 1) rfl rfl ?c1 ?c2 ?c3 ?c4 ?c5 ?_; rotate_left 5; intro w4 hown4 hg4)
  case c1 => omega
  case c2 => omega
  case c3 => rw [hz2]; omega
  case c4 => unfold maxLen; omega
  case c5 => omega
  rw [made_vl64] at hown4
  obtain ⟨cur4, hbk4, hint4, _, _, _, _, _⟩ := own_wrote hown4
  have hbw4 : Below w3.heap.size w3 w4 := (Below.refl _ _).grown (row := none) hg4 (Nat.le_refl _) (fun k hk => by cases hk)
  have hg4s := hbk4.lt
  have hAw4 := hAw3.below hbw4
  have HB4 := Lib.hid hbw4
  have HBK4 := Lib.hid hbk4
  clear hown4 hg4 hbk4 hAw3 hbw4
  go_wp2_with fail
  refine (shiftUp64_any A n c s 0 s f w4 hAw4 LF.out (by omega) (by omega) (by omega)).mono ?_
  rintro e w5 ⟨AS, nS, cS, fS, rfl, hnS, _, hb5⟩
  have hnSle : nS ≤ n + 1 := len_le (Nat.two_pow_pos 64) hnS.trm (by
    rw [hnS.val, Nat.pow_succ]
    have h1 : sm (2 ^ 64) f n * 2 ^ s < (2 ^ 64) ^ n * 2 ^ s := Nat.mul_lt_mul_of_pos_right HAV.out (Nat.two_pow_pos s)
    have h2 : (2 ^ 64) ^ n * 2 ^ s ≤ (2 ^ 64) ^ n * 2 ^ 64 := Nat.mul_le_mul_left _ (Nat.pow_le_pow_right (by decide) (by omega))
    exact Nat.lt_of_lt_of_le h1 h2)
  have HNS := Lib.hid hnS
  have HB5 := Lib.hid hb5
  clear hnS hb5 hAw4
  have hQ2 : Hid ((n : Int) + 1 - (nD : Int) = (Q : Int)) := Lib.hid (by have := HQ.out; omega)
  have hcell4 : Hid (w5.heap[w3.heap.size]? = some (.cells cur4.toList.toArray 63 (0, 0))) := Lib.hid (by have := HBK4.out.below HB5.out hg4s; simpa [Bk] using this)
  have hlen4 : Hid (0 + (vl .u64 fS nS).length ≤ cur4.toList.length) := Lib.hid (by rw [vl_length, Nat.zero_add]; have := hint4.lt (i := n) (by omega); simp; omega)
  have hcells4 : Hid (0 < (vl .u64 fS nS).length → ∃ ad, AS = some ad ∧ ∀ j v, (vl .u64 fS nS)[j]? = some v → w5.cell? (ad.add j) = some v) := Lib.hid (by rw [vl_length]; intro h0; exact HNS.out.rd.cells h0)
  have hmin4 : Hid ((vl .u64 fS nS).length = Nat.min nS (n + 1)) := Lib.hid (by rw [vl_length]; exact (Nat.min_eq_left hnSle).symm)
  go_wp2_with (first
    | (with_reducible refine wpList_copy_splice rfl (.tmp 46) (.tmp 49) 59 59 rfl 63 Try.underlying59 size_u64 _ _ _ _ _ _ rfl rfl w3.heap.size 0 cur4.toList 63 hcell4.out (vl .u64 fS nS) hmin4.out (fun h0 => ⟨rfl, hcells4.out h0⟩) hlen4.out (vl_one _ _ _) w3.heap.size w5 (Below.refl _ _) (Nat.le_refl _) ?_; intro w6 hblk6 hb6)
    | (refine wpList_make_full _ rfl _ _ 59 rfl w6.heap.size 63 i0 _ 1 Try.underlying59 hi hz0 hz1 .i64 .i64 _ _ Q rfl rfl hQ2.out hQ2.out (by rw [hz2]; omega) (by unfold maxLen; omega) (by omega) ?_; intro w7 hown7 hg7))
  have hbk6 : Bk w6 w3.heap.size 63 (splice cur4.toList 0 (vl .u64 fS nS)).toArray := hblk6.out
  have hint6 := splice_ints (f := fS) hint4 hnSle
  have hb46 : Below w3.heap.size w3 w6 := (HB4.out.trans (HB5.out.mono (Nat.le_of_lt hg4s))).trans hb6
  have HB6 := Lib.hid hb46
  have HBK6 := Lib.hid hbk6
  have HINT6 := Lib.hid hint6
  obtain ⟨cur6, hcur6⟩ : ∃ cur6, (splice cur4.toList 0 (vl .u64 fS nS)).toArray = cur6 := ⟨_, rfl⟩
  rw [hcur6] at HBK6 HINT6
  clear hbk6 hint6 hb46 hcur6 hblk6 hb6 HBK4 HB5 hint4 hg4s HB4 hcell4 hlen4 hcells4 hmin4
  rw [made_vl64] at hown7
  obtain ⟨cur7, hbk7, hint7, _, _, _, _, _⟩ := own_wrote hown7
  have hbw7 : Below w6.heap.size w6 w7 := (Below.refl _ _).grown (row := none) hg7 (Nat.le_refl _) (fun k hk => by cases hk)
  have hg12 : w3.heap.size < w6.heap.size := HBK6.out.lt
  have hb17 := HBK6.out.below hbw7 hg12
  have hw37 : Below w3.heap.size w3 w7 := HB6.out.trans (hbw7.mono (Nat.le_of_lt hg12))
  have hDw : Hid (Rd w7 .u64 AD nD fD) := Lib.hid (HND.out.rd.below hw37)
  have HBW7 := Lib.hid (HB3.out.trans (hw37.mono HB3.out.size))
  have hs37 : w3.heap.size ≤ w7.heap.size := hw37.size
  have hwsz : w.heap.size ≤ w3.heap.size := HB3.out.size
  have hD0 : Hid (0 < sm W64 h nD * 2 ^ s) := Lib.hid (Nat.lt_of_lt_of_le (Nat.mul_pos (Nat.two_pow_pos 63) (Nat.pow_pos w64_pos)) HF.out.1)
  have htopD : Hid (W64 ≤ 2 * fD (nD - 1)) := Lib.hid (by
    have h1 := top_of (B := W64) (f := fD) (m := nD - 1) (k := 2 ^ 63) (by rw [Nat.sub_add_cancel (by omega)]; exact HND.out.lt) (by
      rw [Nat.sub_add_cancel (by omega)]
      exact Nat.le_trans HF.out.1 (Nat.le_of_eq HND.out.val.symm))
    have h2 : W64 = 2 * 2 ^ 63 := rfl
    omega)
  have hltD : Hid (∀ b o, AD = some ⟨b, o, none⟩ → 0 < nD → b < w3.heap.size) := Lib.hid fun b o e h0 => HND.out.rd.lt e h0
  have hL0 : Hid (DivLoop w7 w7 w3.heap.size w6.heap.size 63 Q (sm W64 f n * 2 ^ s) (sm W64 h nD * 2 ^ s) nD Q) := Lib.hid (by
    have hq := HQ.out
    refine ⟨pad fS nS, cur6, fun _ => 0, cur7, hb17, by rw [← hq]; exact HINT6.out, hbk7, hint7, ?_, Below.refl _ _⟩
    refine Long.start w64_pos (pad_lt w64_pos HNS.out.lt _) (fun _ _ => rfl) ?_ ?_ (by omega) (Nat.le_trans (Nat.mul_le_mul_right _ (Nat.pow_le_pow_right (by decide) hs63)) HF.out.1)
    · rw [← hq, pad_sm _ _ hnSle]; exact HNS.out.val
    · rw [← hq]; exact HAV.out)
  clear hown7 hg7 hbk7 hint7 hb17 hw37 HB6 HBK6 HINT6 HNS hbw7 hnSle hQ2
  go_wp2
  go_loopw [12] (fun s12 wr => ∃ t : Nat, t ≤ Q ∧ s12 = .int .i64 ((t : Int) - 1) ∧ Hid (DivLoop w7 wr w3.heap.size w6.heap.size 63 Q (sm W64 f n * 2 ^ s) (sm W64 h nD * 2 ^ s) nD t)) (fun s12 _ => (intOf s12 + 1).toNat)
  case atStart => exact ⟨Q, Nat.le_refl _, rfl, hL0⟩
  case round =>
    clear hL0
    obtain ⟨t, ht, rfl, HL⟩ := hrel
    by_cases h1 : 0 < t
    · obtain ⟨i, rfl⟩ : ∃ i, t = i + 1 := ⟨t - 1, by omega⟩
      obtain ⟨fr, cur1, fq, cur2, hb1, hi1, hb2, hi2, hlong, hbel⟩ := HL.out
      have hs0 : (((i + 1 : Nat) : Int) - 1) = (i : Int) := by omega
      have hin : i + nD ≤ n := by have := HQ.out; omega
      have hT := takeOut_any w3.heap.size i nD (n + 1 - i) 63 cur1 (fun j => fr (i + j)) AD cD fD wr hb1 (fun j hj => by have := hi1 (i + j) (by omega); rwa [Nat.zero_add] at this) (hDw.out.belowAt hbel hltD.out)
        (fun b o e h0 => by have := hltD.out b o e h0; omega) (fun j hj => hlong.hr (i + j) (by omega)) HND.out.lt hm2 (by unfold maxLen; omega) htopD.out (by rw [show sm W64 fD nD = sm W64 h nD * 2 ^ s from HND.out.val]; exact hlong.first (by omega))
      rw [show sm W64 fD nD = sm W64 h nD * 2 ^ s from HND.out.val] at hT
      have HT := Lib.hid hT
      have HB1 := Lib.hid hb1
      have HB2 := Lib.hid hb2
      have HI1 := Lib.hid hi1
      have HI2 := Lib.hid hi2
      have HLL := Lib.hid hlong
      have HBL := Lib.hid hbel
      rw [hs0]
      clear hs0 hT hb1 hb2 hi1 hi2 hlong hbel
      go_wp2_with fail
      rw [show i + nD + 1 - i = nD + 1 by omega]
      (with_reducible refine HT.out.mono ?_)
      rintro e w8 ⟨f1, cur1', rfl, hw8, hi8, l8, v8⟩
      have hbk2 := HB2.out.grown hw8.grown (by intro h; injection h with h; omega)
      have hcx := (Bk.cell hbk2 (0 + i)).trans (HI2.out i (by omega))
      have hcf := Bk.frozen hbk2 (0 + i)
      rw [Nat.zero_add] at hcx hcf
      have HS := Lib.hid (DivLoop.step hg12 hs37 HI1.out HB2.out HI2.out HLL.out HBL.out (by omega) HF.out.2 hD0.out hw8 hi8 l8 v8)
      clear hw8 hi8 l8 v8 hbk2
      go_wp2
      go_roundw
      case rel => exact ⟨i, by omega, by go_num, HS⟩
      case measure => simp [intOf]
    · obtain rfl : t = 0 := by omega
      obtain ⟨fr, cur1, fq, cur2, hb1, hi1, hb2, hi2, hlong, hbel⟩ := HL.out
      have hend := hlong.last
      have hun := unscale hend.1 hend.2
      have hrd1 := hi1.rd hb1
      have hrd2 := hi2.rd hb2
      have lrr := hlong.hr
      have lqq := hlong.hq
      have hq := HQ.out
      rw [← hq] at hrd1 lrr hend hun
      have hle := tr_le fr (n + 1)
      have HT := Lib.hid (trim64_any (some ⟨w3.heap.size, 0, none⟩) (n + 1) (n + 1) fr wr hrd1 (Nat.le_refl _) (by unfold maxLen; omega))
      have hsd := shiftDown64_at (some ⟨w3.heap.size, 0, none⟩) (tr fr (n + 1)) (n + 1) s fr wr (hrd1.mono hle) (lrr.mono hle) (by omega) hle (by unfold maxLen; omega) (by omega)
      rw [sm_tr] at hsd
      have HSD := Lib.hid hsd
      have HUN := Lib.hid hun
      have HR2 := Lib.hid hrd2
      have HLQ := Lib.hid lqq
      have hbw : Below w.heap.size w wr := HBW7.out.trans (hbel.mono (by omega))
      have HBW := Lib.hid hbw
      obtain ⟨l, hl⟩ : ∃ l, tr fr (n + 1) = l := ⟨_, rfl⟩
      rw [hl] at HT HSD hle
      have hll : l ≤ 400001 := by omega
      clear hlong hend hun hrd1 hrd2 lrr lqq hq hsd hbw hbel hi1 hb1 hi2 hb2 hl HL
      go_wp2_with fail
      refine HT.out.mono ?_
      rintro e w' ⟨rfl, rfl⟩
      go_wp2_with fail
      refine HSD.out.mono ?_
      rintro e w9 ⟨A9, n9, c9, f9, rfl, h9, hn9, hb9⟩
      have H9 := Lib.hid h9
      have HB9 := Lib.hid hb9
      clear h9 hb9
      go_wp2
      go_ret2
      rw [← HUN.out.1, ← HUN.out.2]
      exact ⟨_, Q, _, fq, A9, n9, c9, f9, rfl, HR2.out.below HB9.out, H9.out.rd, HLQ.out, H9.out.lt, rfl, H9.out.val, by omega, by omega, HBW.out.trans (HB9.out.mono HBW.out.size)⟩
end Go.Proofs.Ytfdgpfkjpjhmjaa.nn
