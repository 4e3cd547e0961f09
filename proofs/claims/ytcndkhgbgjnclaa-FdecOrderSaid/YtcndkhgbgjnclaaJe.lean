/- Joined texts: FdRound, Bytes, FdMore, FdecOrderW, OpenS, FdecWholeW. -/
import Derived.Test.YtcndkhgbgjnclaaProg
import Derived.Laws.BytesArg
import Derived.Laws.IdiomStrings
import Derived.Test.YtcndkhgbgjnclaaRows
import Derived.ProofKit
import Derived.SizedLaws
import Derived.ChangeMaps5
import Derived.Test.YtcndkhgbgjnclaaJd
/- The real fdec: Round. -/
namespace Go.Proofs.Ytcndkhgbgjnclaa.nn
open Go.RowKit

/-- the number that digits with an exponent are, over another -/
def rX (s : ByteArray) (z : Int) : Nat := dv (bt s) s.size * 10 ^ z.toNat
def rY (z : Int) : Nat := 10 ^ (-z).toNat
theorem rY_pos (z : Int) : 0 < rY z := Nat.pow_pos (by decide)
/-- b is the nearest -/
def RN (s : ByteArray) (z : Int) (b : Nat) : Prop := Near (rX s z * 2 ^ e74) (rY z) b
theorem RN_ex (s : ByteArray) (z : Int) : ∃ b, RN s z b := near_ex _ _ (rY_pos z)
def roV (neg : Bool) (b : Nat) : Nat := if b < inf then sB neg + b else 0
def roE (b : Nat) : Nat := if b < inf then 0 else 8
def RoAns (V E : Nat) (w : World) (e : Ending) (w' : World) : Prop := e = .returned (.tuple #[.int .u64 (V : Int), .int .i64 (E : Int)]) ∧ Below w.heap.size w w'
theorem rf_zero {s : ByteArray} {z : Int} (h : rfE s z = 0) : s.size ≤ 800 ∧ 0 < s.size ∧ dgs (bt s) s.size = true ∧ -2000 ≤ z ∧ z ≤ 2000 := by
  unfold rfE at h
  by_cases h1 : 800 < s.size
  · rw [if_pos h1] at h; omega
  · rw [if_neg h1] at h
    cases h2 : (dgs (bt s) s.size && decide (0 < s.size)) with
    | false => rw [h2, if_pos rfl] at h; omega
    | true =>
      rw [h2, if_neg (by decide)] at h
      rw [Bool.and_eq_true, decide_eq_true_eq] at h2
      split at h
      · omega
      · exact ⟨by omega, h2.2, h2.1, by omega, by omega⟩
theorem rf_le (s : ByteArray) (z : Int) : rfE s z < 8 := by
  unfold rfE
  split
  · decide
  · split
    · decide
    · split <;> decide
theorem rX_fits {s : ByteArray} {z : Int} (h : rfE s z = 0) : rX s z < 2 ^ b20 ∧ rY z < 2 ^ b20 := by
  obtain ⟨h1, h2, h3, h4, h5⟩ := rf_zero h
  have e : ∀ n, n ≤ 2800 → 10 ^ n < 2 ^ b20 := fun n hn => Nat.lt_of_le_of_lt (ten_two n) ((Nat.pow_lt_pow_iff_right (by decide)).2 (by rw [b20_eq]; omega))
  constructor
  · unfold rX
    have h6 := dv_lt h3
    have h7 : dv (bt s) s.size * 10 ^ z.toNat < 10 ^ s.size * 10 ^ z.toNat := Nat.mul_lt_mul_of_pos_right h6 (Nat.pow_pos (by decide))
    rw [← Nat.pow_add] at h7
    exact Nat.lt_trans h7 (e _ (by omega))
  · exact e _ (by omega)

set_option maxRecDepth 100000 in
set_option maxHeartbeats 400000 in
theorem round_no (neg : Bool) (s : ByteArray) (z : Int) (w : World) (hs : s.size ≤ maxLen) (hz1 : -9223372036854775808 ≤ z) (hz2 : z ≤ 9223372036854775807) (hr : rfE s z ≠ 0) :
    Calls Try.prog 6 #[.bool neg, .string s, .int .i64 z] w (RoAns 0 (rfE s z) w) := by
  have HR := Lib.hid (refuse_any s z w hs hz1 hz2)
  have HB := Lib.hid (Below.refl w.heap.size w)
  obtain ⟨r, hrr⟩ : ∃ r, rfE s z = r := ⟨_, rfl⟩
  rw [hrr] at hr HR
  rw [hrr]
  have k0 : ((r : Int) != 0) = true := by simp; omega
  clear hrr hr hs
  go_enter Try.func6, Try.ntmps6
  go_wp2_with fail
  refine HR.out.mono ?_
  rintro e w' ⟨rfl, rfl⟩
  go_wp2_with fail
  go_ret2
  exact ⟨rfl, HB.out⟩

set_option maxRecDepth 100000 in
set_option maxHeartbeats 400000 in
theorem round_yes (neg : Bool) (s : ByteArray) (z : Int) (b : Nat) (w : World) (hr : rfE s z = 0) (hb : RN s z b) :
    Calls Try.prog 6 #[.bool neg, .string s, .int .i64 z] w (RoAns (roV neg b) (roE b) w) := by
  obtain ⟨h1, h2, h3, h4, h5⟩ := rf_zero hr
  obtain ⟨f1, f2⟩ := rX_fits hr
  have HR := Lib.hid (refuse_any s z w (by unfold maxLen; omega) (by omega) (by omega))
  have HA := Lib.hid (ratio_any s z w h3 h2 (by omega) (by omega) (by omega))
  have HN := Lib.hid (fun W v u (hv : N W v (rX s z)) (hu : N W u (rY z)) => nearest_any v u (rX s z) (rY z) W hv hu f1 f2 (rY_pos z))
  have HS := Lib.hid (fun m W (hm : m < 9223372036854775808) => fsigned_any neg m W hm)
  rw [hr] at HR
  have HU : Hid (∀ b', Near (rX s z * 2 ^ e74) (rY z) b' → b' = b) := Lib.hid fun b' h => near_uniq (rY_pos z) h hb
  have hA : rX s z = dv (bt s) s.size * 10 ^ z.toNat := rfl
  have hY : rY z = 10 ^ (-z).toNat := rfl
  rw [← hA, ← hY] at HA
  have HB := Lib.hid (Below.refl w.heap.size w)
  clear hb hr h3 f1 f2 hA hY
  obtain ⟨P, hP⟩ : ∃ P, rX s z = P := ⟨_, rfl⟩
  obtain ⟨Q, hQ⟩ : ∃ Q, rY z = Q := ⟨_, rfl⟩
  rw [hP, hQ] at HA HN HU
  clear hP hQ
  by_cases hi : b < inf
  · have e1 : roV neg b = sB neg + b := if_pos hi
    have e2 : roE b = 0 := if_pos hi
    obtain ⟨n1, n2⟩ := ne_yes hi
    rw [e1, e2]
    have hi2 := hi
    rw [inf_eq] at hi2
    have H12 := Lib.hid (And.intro n1 n2)
    clear e1 e2 n1 n2 hi
    go_enter Try.func6, Try.ntmps6
    go_wp2_with fail
    refine HR.out.mono ?_
    rintro e w' ⟨rfl, rfl⟩
    go_wp2_with fail
    refine HA.out.mono ?_
    rintro e w1 ⟨v, u, rfl, hv, hu, hb1⟩
    have HV := Lib.hid (And.intro hv hu)
    have HB1 := Lib.hid hb1
    clear hv hu hb1
    go_wp2_with fail
    refine (HN.out _ _ _ HV.out.1 HV.out.2).mono ?_
    rintro e w2 ⟨b', hn, rfl, hb2⟩
    obtain rfl := HU.out b' hn
    have HB2 := Lib.hid (HB1.out.trans (hb2.mono HB1.out.size))
    rw [H12.out.1, H12.out.2]
    clear hn hb2
    go_wp2_with fail
    refine (HS.out _ _ (by omega)).mono ?_
    rintro e w' ⟨rfl, rfl⟩
    go_wp2_with fail
    go_ret2
    exact ⟨rfl, HB2.out⟩
  · have e1 : roV neg b = 0 := if_neg hi
    have e2 : roE b = 8 := if_neg hi
    obtain ⟨n1, n2⟩ := ne_no (Nat.le_of_not_lt hi)
    rw [e1, e2]
    have H12 := Lib.hid (And.intro n1 n2)
    clear e1 e2 n1 n2 hi
    go_enter Try.func6, Try.ntmps6
    go_wp2_with fail
    refine HR.out.mono ?_
    rintro e w' ⟨rfl, rfl⟩
    go_wp2_with fail
    refine HA.out.mono ?_
    rintro e w1 ⟨v, u, rfl, hv, hu, hb1⟩
    have HV := Lib.hid (And.intro hv hu)
    have HB1 := Lib.hid hb1
    clear hv hu hb1
    go_wp2_with fail
    refine (HN.out _ _ _ HV.out.1 HV.out.2).mono ?_
    rintro e w2 ⟨b', hn, rfl, hb2⟩
    obtain rfl := HU.out b' hn
    have HB2 := Lib.hid (HB1.out.trans (hb2.mono HB1.out.size))
    rw [H12.out.1, H12.out.2]
    clear hn hb2
    go_wp2_with fail
    go_ret2
    exact ⟨rfl, HB2.out⟩

theorem two_add {a b c : Nat} (h : c = a + b) : (2 : Nat) ^ c = 2 ^ a * 2 ^ b := by rw [h, Nat.pow_add]
/-- the text 1 with the exponent 0 -/
theorem one_near : RN ⟨#[49]⟩ 0 4607182418800017408 := by
  have e1 : rX ⟨#[49]⟩ 0 * 2 ^ e74 = vf 4607182418800017408 * rY 0 := by
    obtain ⟨j, hj⟩ : ∃ j, j = 1022 := ⟨_, rfl⟩
    have hv : vf (j * h52 + h52) = h52 * 2 ^ j := vf_at (by omega) (.inr (Nat.le_refl _))
    have hx : rX ⟨#[49]⟩ 0 = 1 := by decide
    have hy : rY 0 = 1 := by decide
    have hb : 4607182418800017408 = j * h52 + h52 := by rw [hj]; decide
    rw [hx, hy, hb, hv, Nat.one_mul, Nat.mul_one, ← h52_eq]
    exact two_add (by rw [hj]; rfl)
  unfold RN
  rw [e1]
  exact near_self _ _ (rY_pos 0)
set_option maxRecDepth 100000 in
set_option maxHeartbeats 400000 in
theorem awake_any6 (w : World) : Calls Try.prog 5 #[] w fun e w' => e = .returned (.bool true) ∧ Below w.heap.size w w' := by
  have HR := Lib.hid (round_yes false ⟨#[49]⟩ 0 _ w (by decide) one_near)
  rw [show roV false 4607182418800017408 = 4607182418800017408 by decide, show roE 4607182418800017408 = 0 by decide] at HR
  go_enter Try.func5, Try.ntmps5
  go_wp2_with fail
  refine HR.out.mono ?_
  rintro e w1 ⟨rfl, hb1⟩
  have HB1 := Lib.hid hb1
  clear hb1
  go_wp2_with fail
  go_ret
  exact ⟨rfl, HB1.out⟩
end Go.Proofs.Ytcndkhgbgjnclaa.nn
/- Words for slices of bytes: one that reads as a text, and the text that a conversion makes of it. -/
namespace Go.Proofs.Ytcndkhgbgjnclaa.nn
open Go.RowKit

/-- the text of n bytes f -/
def pc (f : Nat → Nat) (n : Nat) : ByteArray := strOfNums ((List.range n).map fun i => (f i : Int))
theorem pc_size (f : Nat → Nat) (n : Nat) : (pc f n).size = n := by unfold pc; rw [strOfNums_size]; simp
theorem bt_pc {f : Nat → Nat} {n i : Nat} (h : i < n) (hf : f i < 256) : bt (pc f n) i = f i := by
  have h2 : i < (pc f n).size := by rw [pc_size]; exact h
  rw [bt_at h2]
  show ((pc f n).data[i]).toNat = f i
  have : (pc f n).data[i]? = some (UInt8.ofNat (f i)) := by
    unfold pc strOfNums
    simp [h]
  have e : (pc f n).data[i] = UInt8.ofNat (f i) := by
    have h3 := Array.getElem?_eq_getElem (xs := (pc f n).data) (i := i) h2
    rw [this] at h3
    injection h3 with h3
    exact h3.symm
  rw [e, UInt8.toNat_ofNat']
  omega

/-- a text made of a slice of bytes, nil or not -/
theorem conv_row (A : Option Addr) (n c : Nat) (f : Nat → Nat) (w : World) (h : Rd w .u8 A n f) :
    (convert 31 9 (.slice A n c)).run Try.prog w = .ok (.string (pc f n)) w := by
  by_cases h0 : 0 < n
  · obtain ⟨b, off, rfl, _, hc⟩ := h h0
    exact run_convert_bytes_arg w 31 5 Try.underlying31 Try.underlying5 b off n c _ (by simp) (fun i hi => by
      rw [hc i hi]
      simp [hi]) 9 Try.underlying9
  · obtain rfl : n = 0 := by omega
    have e : pc f 0 = ByteArray.empty := rfl
    rw [e]
    cases A with
    | none => exact run_convert_bytes_nil w 31 5 Try.underlying31 Try.underlying5 0 c 9 Try.underlying9
    | some a =>
      rw [run_convert_bytes_string w 31 9 5 (some a) 0 c Try.underlying31 Try.underlying5 Try.underlying9]
      exact run_bytesToString w a 0 c [] (run_loadCells_list (P := Try.prog) w a [] (fun j v hv => by simp at hv))
end Go.Proofs.Ytcndkhgbgjnclaa.nn
/- The walk of the law's more: digits, and one more. -/
namespace Go.Proofs.Ytcndkhgbgjnclaa.nn
open Go.RowKit

/-! digits -/
theorem dv_same {f : Nat → Nat} {x n : Nat} (h : ∀ i, i < n → f i = x) (hx : 48 ≤ x) : dv f n * 9 + (x - 48) = (x - 48) * 10 ^ n := by
  induction n with
  | zero => simp [dv]
  | succ n ih =>
    have := ih (fun i hi => h i (by omega))
    rw [dv, h n (by omega), Nat.pow_succ]
    obtain ⟨P, hP⟩ : ∃ P, 10 ^ n = P := ⟨_, rfl⟩
    rw [hP] at this ⊢
    have e : (x - 48) * (P * 10) = (x - 48) * P * 10 := by rw [Nat.mul_assoc]
    rw [e, ← this]
    omega
/-- the text behind the place j is nines; what becomes of it -/
def mf (f : Nat → Nat) (j : Nat) : Nat → Nat := fun i => if i < j then f i else 48
theorem more_num {f : Nat → Nat} {j m : Nat} (hd : dgs f (j + 1 + m) = true) (h9 : ∀ i, i < m → f (j + 1 + i) = 57) (hj : f j ≠ 57) :
    dgs (upd (mf f (j + 1)) j (f j + 1)) (j + 1 + m) = true ∧ dv (upd (mf f (j + 1)) j (f j + 1)) (j + 1 + m) = dv f (j + 1 + m) + 1 := by
  have hlow : ∀ i, i < j → upd (mf f (j + 1)) j (f j + 1) i = f i := fun i hi => by
    rw [upd_ne _ (by omega)]
    exact if_pos (by omega)
  have hat : upd (mf f (j + 1)) j (f j + 1) j = f j + 1 := upd_at _ _ _
  have hhi : ∀ i, i < m → upd (mf f (j + 1)) j (f j + 1) (j + 1 + i) = 48 := fun i hi => by
    rw [upd_ne _ (by omega)]
    exact if_neg (by omega)
  have hdj := dgs_at hd (show j < j + 1 + m by omega)
  constructor
  · have : ∀ i, i ≤ j + 1 + m → dgs (upd (mf f (j + 1)) j (f j + 1)) i = true := by
      intro i
      induction i with
      | zero => exact fun _ => rfl
      | succ i ih =>
        intro hi
        rw [dgs, ih (by omega)]
        rcases Nat.lt_trichotomy i j with g | g | g
        · rw [hlow i g]
          have := dgs_at hd (show i < j + 1 + m by omega)
          exact decide_eq_true this
        · subst g
          rw [hat]
          exact decide_eq_true (by omega : 48 ≤ f i + 1 ∧ f i + 1 ≤ 57)
        · obtain ⟨t, rfl⟩ : ∃ t, i = j + 1 + t := ⟨i - (j + 1), by omega⟩
          rw [hhi t (by omega)]
          rfl
    exact this _ (Nat.le_refl _)
  · have a1 := dv_same hhi (by decide)
    have a2 := dv_same h9 (by decide)
    rw [dv_add, dv_add f, dv, dv, hat, dv_congr hlow]
    obtain ⟨P, hP⟩ : ∃ P, 10 ^ m = P := ⟨_, rfl⟩
    obtain ⟨D, hD⟩ : ∃ D, dv f j = D := ⟨_, rfl⟩
    obtain ⟨c, hc⟩ : ∃ c, f j = c + 48 := ⟨f j - 48, by omega⟩
    obtain ⟨d1, hd1⟩ : ∃ d1, dv (fun i => upd (mf f (j + 1)) j (f j + 1) (j + 1 + i)) m = d1 := ⟨_, rfl⟩
    obtain ⟨d2, hd2⟩ : ∃ d2, dv (fun i => f (j + 1 + i)) m = d2 := ⟨_, rfl⟩
    rw [hP, hd1] at a1
    rw [hP, hd2] at a2
    rw [hP, hD, hd1, hd2, hc, show c + 48 + 1 - 48 = c + 1 by omega, show c + 48 - 48 = c by omega]
    rw [← Nat.add_assoc, Nat.add_mul _ 1 P, Nat.one_mul]
    omega
theorem nines_num {f : Nat → Nat} {n : Nat} (h9 : ∀ i, i < n → f i = 57) : dv f n + 1 = 10 ^ n := by
  have := dv_same h9 (by decide)
  have hp := Nat.pow_pos (n := n) (show 0 < 10 by decide)
  omega

/-! the new bytes -/
/-- the block g is the bytes f, n of them, as a text's copy lies -/
structure Mk (w0 wr : World) (g n : Nat) (f : Nat → Nat) : Prop where
  blk : ∃ (cur : Array Value) (m : Nat), wr.heap[g]? = some (.cells cur 5 (m, m + 1)) ∧ n ≤ m ∧ n ≤ cur.size ∧ Ints cur .u8 0 n f
  old : w0.heap.size ≤ g
  below : Below w0.heap.size w0 wr
theorem Mk.cell {w0 wr : World} {g n i : Nat} {f : Nat → Nat} (h : Mk w0 wr g n f) (hi : i < n) : wr.cell? ⟨g, i, none⟩ = some (.int .u8 (f i : Int)) ∧ wr.frozen? ⟨g, i, none⟩ = false := by
  obtain ⟨cur, m, hb, hn, hs, hin⟩ := h.blk
  have := hin i hi
  rw [Nat.zero_add] at this
  refine ⟨(cell_of_row wr g i cur _ _ hb).trans this, ?_⟩
  unfold World.frozen?
  rw [hb]
  simp
  omega
theorem Mk.set {w0 wr : World} {g n i x : Nat} {f : Nat → Nat} (h : Mk w0 wr g n f) (hi : i < n) : Mk w0 (wr.setCell ⟨g, i, none⟩ (.int .u8 (x : Int))) g n (upd f i x) := by
  obtain ⟨cur, m, hb, hn, hs, hin⟩ := h.blk
  refine ⟨⟨cur.setIfInBounds i (.int .u8 (x : Int)), m, ?_, hn, by rw [Array.size_setIfInBounds]; exact hs, ?_⟩, h.old, h.below.setCell h.old _⟩
  · simp [World.setCell, Array.getElem?_modify, hb]
  · have := hin.set_ i x hi
    rw [Nat.zero_add] at this
    exact this
theorem Mk.rd {w0 wr : World} {g n : Nat} {f : Nat → Nat} (h : Mk w0 wr g n f) : Rd wr .u8 (some ⟨g, 0, none⟩) n f := fun hn => by
  refine ⟨g, 0, rfl, ?_, fun i hi => by rw [Nat.zero_add]; exact (h.cell hi).1⟩
  obtain ⟨cur, m, hb, _⟩ := h.blk
  exact (Array.getElem?_eq_some_iff.1 hb).1
theorem Mk.new (w : World) (s : ByteArray) (C : Nat) : Mk w ((w.drew.alloc (.cells (bytesRow s C) 5 ((bytesRow s C).size, (bytesRow s C).size + 1)))) w.heap.size s.size (bt s) := by
  have hsz : s.size ≤ (bytesRow s C).size := by
    have h1 : s.data.size = s.size := rfl
    unfold bytesRow
    rw [Array.size_append, Array.size_map, h1]
    omega
  refine ⟨⟨bytesRow s C, (bytesRow s C).size, ?_, hsz, hsz, fun i hi => ?_⟩, Nat.le_refl _, (Below.refl _ _).drew.alloc (Nat.le_refl _) _⟩
  · show (w.heap.push _)[w.heap.size]? = _
    simp
  · rw [Nat.zero_add, bt_at hi]
    unfold bytesRow
    rw [Array.getElem?_append_left (by simp; exact hi)]
    simp
    exact ⟨_, Array.getElem?_eq_getElem hi, rfl⟩

def MoAns (s : ByteArray) (w : World) (e : Ending) (w' : World) : Prop :=
  ∃ t : ByteArray, e = .returned (.string t) ∧ 0 < t.size ∧ t.size ≤ s.size + 1 ∧ dgs (bt t) t.size = true ∧ dv (bt t) t.size = dv (bt s) s.size + 1 ∧ Below w.heap.size w w'

theorem pc_num {f : Nat → Nat} {n : Nat} (hd : dgs f n = true) : (pc f n).size = n ∧ dgs (bt (pc f n)) n = true ∧ dv (bt (pc f n)) n = dv f n := by
  have hf : ∀ i, i < n → bt (pc f n) i = f i := fun i hi => bt_pc hi (by have := dgs_at hd hi; omega)
  exact ⟨pc_size f n, by rw [dgs_congr hf]; exact hd, dv_congr hf⟩

set_option maxRecDepth 100000 in
set_option maxHeartbeats 2000000 in
theorem more_any (s : ByteArray) (w : World) (hs0 : 0 < s.size) (hs : s.size ≤ 1000) (hd : dgs (bt s) s.size = true) :
    Calls Try.prog 7 #[.string s] w (MoAns s w) := by
  have hcv := run_bytes_of_string (P := Try.prog) w 9 31 5 s Try.underlying9 Try.underlying31 Try.underlying5
  obtain ⟨C, hC⟩ : ∃ C, grownCap w s.size 0 5 = C := ⟨_, rfl⟩
  rw [hC] at hcv
  have HM := Lib.hid (Mk.new w s C)
  obtain ⟨W1, hW1⟩ : ∃ W1, (w.drew.alloc (.cells (bytesRow s C) 5 ((bytesRow s C).size, (bytesRow s C).size + 1))) = W1 := ⟨_, rfl⟩
  rw [hW1] at hcv HM
  have HD := Lib.hid hd
  have HCV := Lib.hid (fun W n c f (h : Rd W .u8 (some ⟨w.heap.size, 0, none⟩) n f) => conv_row (some ⟨w.heap.size, 0, none⟩) n c f W h)
  obtain ⟨g, hg⟩ : ∃ g, w.heap.size = g := ⟨_, rfl⟩
  rw [hg] at hcv HM HCV
  clear hC hW1 hd hg
  go_enter Try.func7, Try.ntmps7
  go_wp2_with fail
  go_loopw [4] (fun s4 wr => ∃ j : Nat, j ≤ s.size ∧ s4 = .int .i64 ((j : Int) - 1) ∧ Hid (∀ i, j ≤ i → i < s.size → bt s i = 57) ∧ Hid (Mk w wr g s.size (mf (bt s) j))) (fun s4 _ => (intOf s4 + 1).toNat)
  case atStart => exact ⟨s.size, Nat.le_refl _, rfl, Lib.hid (fun i h1 h2 => by omega), Lib.hid (by
    obtain ⟨⟨cur, m, h1, h2, h3, h4⟩, h5, h6⟩ := HM.out
    exact ⟨⟨cur, m, h1, h2, h3, h4.congr fun i hi => (if_pos hi).symm⟩, h5, h6⟩)⟩
  case round =>
    obtain ⟨j, hj, rfl, h9, hM⟩ := hrel
    by_cases hj0 : j = 0
    · subst hj0
      have kc := HCV.out wr s.size C _ hM.out.rd
      obtain ⟨p, hp⟩ : ∃ p, pc (mf (bt s) 0) s.size = p := ⟨_, rfl⟩
      have h48 : ∀ i, i < s.size → mf (bt s) 0 i = 48 := fun i _ => if_neg (by omega)
      have hdz : dgs (mf (bt s) 0) s.size = true := by
        rw [dgs_congr (g := fun _ => 48) h48]
        have : ∀ n, dgs (fun _ => 48) n = true := fun n => by
          induction n with
          | zero => rfl
          | succ n ih => rw [dgs, ih]; rfl
        exact this _
      obtain ⟨p1, p2, p3⟩ := pc_num hdz
      have hz := dv_same h48 (by decide)
      have h9' := nines_num (f := bt s) (n := s.size) (fun i hi => h9.out i (Nat.zero_le i) hi)
      rw [hp] at kc p1 p2 p3
      obtain ⟨a1, a2⟩ := app_num (a := ⟨#[49]⟩) (b := p) (by decide) (by rw [p1]; exact p2)
      have hp1 : ((⟨#[49]⟩ : ByteArray) ++ p).size = 1 + s.size := by rw [ByteArray.size_append, p1]; rfl
      have HA : Hid (MoAns s w (.returned (.string (⟨#[49]⟩ ++ p))) wr) := Lib.hid ⟨_, rfl, by omega, by omega, a1, by
        rw [a2, p1, p3, show dv (bt ⟨#[49]⟩) (ByteArray.size ⟨#[49]⟩) = 1 by decide]
        omega, hM.out.below⟩
      have e0 : (((0 : Nat) : Int) - 1) = -1 := by decide
      have hps : p.size ≤ 1000 := by omega
      rw [e0]
      clear e0 hp hdz p1 p2 p3 hz h9' a1 a2 hp1 h48 hcv
      go_wp2_with fail
      go_ret
      exact HA.out
    · obtain ⟨i, rfl⟩ : ∃ i, j = i + 1 := ⟨j - 1, by omega⟩
      have hi : i < s.size := by omega
      obtain ⟨hc, hf⟩ := hM.out.cell hi
      have hx : mf (bt s) (i + 1) i = bt s i := if_pos (by omega)
      have hdi := dgs_at HD.out hi
      obtain ⟨x, hxx⟩ : ∃ x, bt s i = x := ⟨_, rfl⟩
      have HX := Lib.hid hxx
      rw [hx, hxx] at hc
      rw [hxx] at hdi
      have e0 : (((i + 1 : Nat) : Int) - 1) = (i : Int) := by omega
      rw [e0]
      clear e0 hx hcv
      by_cases h57 : x = 57
      · subst h57
        have hM2 : Hid (Mk w (wr.setCell ⟨g, i, none⟩ (.int .u8 48)) g s.size (mf (bt s) i)) := Lib.hid (by
          have h := hM.out.set (x := 48) hi
          have e : upd (mf (bt s) (i + 1)) i 48 = mf (bt s) i := by
            funext k
            unfold upd mf
            by_cases c1 : k = i
            · rw [if_pos c1, if_neg (by omega)]
            · rw [if_neg c1]
              by_cases c2 : k < i
              · rw [if_pos (by omega), if_pos c2]
              · rw [if_neg (by omega), if_neg c2]
          rw [e] at h
          exact h)
        have h92 : Hid (∀ k, i ≤ k → k < s.size → bt s k = 57) := Lib.hid (fun k h1 h2 => by
          by_cases c : k = i
          · rw [c]; exact HX.out
          · exact h9.out k (by omega) h2)
        clear hxx
        go_wp2_with fail
        go_roundw
        case rel => exact ⟨i, by omega, by go_num, h92, hM2⟩
        case measure => simp [intOf]
      · have hm := hM.out.set (x := x + 1) hi
        have kc := HCV.out _ s.size C _ hm.rd
        have hbel := hm.below
        obtain ⟨n1, n2⟩ := more_num (f := bt s) (j := i) (m := s.size - (i + 1)) (by rw [show i + 1 + (s.size - (i + 1)) = s.size by omega]; exact HD.out) (fun k hk => h9.out _ (by omega) (by omega)) (by rw [hxx]; exact h57)
        rw [show i + 1 + (s.size - (i + 1)) = s.size by omega, hxx] at n1 n2
        obtain ⟨p1, p2, p3⟩ := pc_num n1
        obtain ⟨p, hp⟩ : ∃ p, pc (upd (mf (bt s) (i + 1)) i (x + 1)) s.size = p := ⟨_, rfl⟩
        rw [hp] at kc p1 p2 p3
        rw [show ((x + 1 : Nat) : Int) = (x : Int) + 1 from rfl] at kc hbel
        have HA : Hid (MoAns s w (.returned (.string p)) (wr.setCell ⟨g, i, none⟩ (.int .u8 ((x : Int) + 1)))) := Lib.hid ⟨_, rfl, by omega, by omega, by rw [p1]; exact p2, by rw [p1, p3, n2], hbel⟩
        have hx57 : x < 57 := by omega
        clear hxx hp p1 p2 p3 n1 n2 hm hbel h57
        go_wp2_with fail
        go_ret
        exact HA.out
end Go.Proofs.Ytcndkhgbgjnclaa.nn
/- The walk of the law FdecOrder: it returns true. -/
namespace Go.Proofs.Ytcndkhgbgjnclaa.nn
open Go.RowKit

def TrueAns (w : World) (e : Ending) (w' : World) : Prop := e = .returned (.bool true) ∧ Below w.heap.size w w'
theorem awake6 (w : World) : Calls Try.prog 5 #[] w (TrueAns w) := awake_any6 w

set_option maxRecDepth 100000 in
set_option maxHeartbeats 1000000 in
theorem order_out (s : ByteArray) (z : Int) (w : World) (hs : s.size ≤ 140737488351232) (hz1 : -9223372036854775808 ≤ z) (hz2 : z ≤ 9223372036854775807) (h : s.size = 0 ∨ 700 < s.size ∨ z < -1000 ∨ 1000 < z) :
    Calls Try.prog 3 #[.string s, .int .i64 z] w (TrueAns w) := by
  have HA := Lib.hid (fun W => awake6 W)
  by_cases h0 : s.size = 0
  · obtain rfl := nil_text h0
    clear h h0 hs
    go_enter Try.func3, Try.ntmps3
    go_wp2_with fail
    refine (HA.out _).mono ?_
    rintro e w1 ⟨rfl, hb⟩
    go_wp2_with fail
    go_ret
    exact ⟨rfl, hb⟩
  · have hne := not_nil_text (show 0 < s.size by omega)
    by_cases h1 : 700 < s.size
    · clear h h0
      go_enter Try.func3, Try.ntmps3
      go_wp2_with fail
      refine (HA.out _).mono ?_
      rintro e w1 ⟨rfl, hb⟩
      go_wp2_with fail
      go_ret
      exact ⟨rfl, hb⟩
    · by_cases h2 : z < -1000
      · clear h h0
        go_enter Try.func3, Try.ntmps3
        go_wp2_with fail
        refine (HA.out _).mono ?_
        rintro e w1 ⟨rfl, hb⟩
        go_wp2_with fail
        go_ret
        exact ⟨rfl, hb⟩
      · have h3 : 1000 < z := by omega
        clear h h0
        go_enter Try.func3, Try.ntmps3
        go_wp2_with fail
        refine (HA.out _).mono ?_
        rintro e w1 ⟨rfl, hb⟩
        go_wp2_with fail
        go_ret
        exact ⟨rfl, hb⟩

/-- nothing is right, or too great: the same refusal, thrice -/
theorem order_no (s : ByteArray) (z : Int) (w : World) (E : Nat) (h0 : 0 < s.size) (hs : s.size ≤ 700) (hz1 : -1000 ≤ z) (hz2 : z ≤ 1000) (hE : E = 4 ∨ E = 8)
    (HR : Hid (∀ neg W, Calls Try.prog 6 #[.bool neg, .string s, .int .i64 z] W (RoAns 0 E W)))
    (HR2 : Hid (∀ W, Calls Try.prog 6 #[.bool false, .string (s ++ ⟨#[48]⟩), .int .i64 (z - 1)] W (RoAns 0 E W))) :
    Calls Try.prog 3 #[.string s, .int .i64 z] w (TrueAns w) := by
  have HA := Lib.hid (fun W => awake6 W)
  have hne := not_nil_text h0
  rcases hE with rfl | rfl
  all_goals
    go_enter Try.func3, Try.ntmps3
    go_wp2_with fail
    refine (HR.out _ _).mono ?_
    rintro e w1 ⟨rfl, hb⟩
    have B1 := Lib.hid hb
    clear hb
    go_wp2_with fail
    refine (HR.out _ _).mono ?_
    rintro e w2 ⟨rfl, hb⟩
    have B2 := Lib.hid (B1.out.trans (hb.mono B1.out.size))
    clear hb
    go_wp2_with fail
    refine (HR2.out _).mono ?_
    rintro e w3 ⟨rfl, hb⟩
    have B3 := Lib.hid (B2.out.trans (hb.mono B2.out.size))
    clear hb
    go_wp2_with fail
    refine (HA.out _).mono ?_
    rintro e w4 ⟨rfl, hb⟩
    have B4 := Lib.hid (B3.out.trans (hb.mono B3.out.size))
    clear hb
    go_wp2_with fail
    go_ret
    exact ⟨rfl, B4.out⟩

set_option maxRecDepth 100000 in
set_option maxHeartbeats 1000000 in
theorem order_yes (s : ByteArray) (z : Int) (w : World) (b V E : Nat) (h0 : 0 < s.size) (hs : s.size ≤ 700) (hz1 : -1000 ≤ z) (hz2 : z ≤ 1000) (hb : b < 9223372036854775808)
    (hV : (V = 0 ∧ E = 8) ∨ (b ≤ V ∧ V < 9223372036854775808 ∧ E = 0))
    (HR : Hid (∀ neg W, Calls Try.prog 6 #[.bool neg, .string s, .int .i64 z] W (RoAns (sB neg + b) 0 W)))
    (HR2 : Hid (∀ W, Calls Try.prog 6 #[.bool false, .string (s ++ ⟨#[48]⟩), .int .i64 (z - 1)] W (RoAns b 0 W)))
    (HM : Hid (∀ W, Calls Try.prog 7 #[.string s] W (MoAns s W)))
    (HR3 : Hid (∀ t W, dgs (bt t) t.size = true → dv (bt t) t.size = dv (bt s) s.size + 1 → 0 < t.size → t.size ≤ s.size + 1 → Calls Try.prog 6 #[.bool false, .string t, .int .i64 z] W (RoAns V E W))) :
    Calls Try.prog 3 #[.string s, .int .i64 z] w (TrueAns w) := by
  have HA := Lib.hid (fun W => awake6 W)
  have hne := not_nil_text h0
  have R0 := Lib.hid (fun W => HR.out false W)
  have R1 := Lib.hid (fun W => HR.out true W)
  rw [show sB false + b = b by simp [sB]] at R0
  rw [show sB true + b = 9223372036854775808 + b from rfl] at R1
  have HO := or_sign hb
  have keq : bits .or .u64 (b : Int) 9223372036854775808 = 9223372036854775808 + (b : Int) := by rw [HO]; omega
  clear HO
  rcases hV with ⟨rfl, rfl⟩ | ⟨hV1, hV2, rfl⟩
  all_goals
    go_enter Try.func3, Try.ntmps3
    go_wp2_with fail
    refine (R0.out _).mono ?_
    rintro e w1 ⟨rfl, hb⟩
    have B1 := Lib.hid hb
    clear hb
    go_wp2_with fail
    refine (R1.out _).mono ?_
    rintro e w2 ⟨rfl, hb⟩
    have B2 := Lib.hid (B1.out.trans (hb.mono B1.out.size))
    clear hb
    go_wp2_with fail
    refine (HR2.out _).mono ?_
    rintro e w3 ⟨rfl, hb⟩
    have B3 := Lib.hid (B2.out.trans (hb.mono B2.out.size))
    clear hb
    go_wp2_with fail
    refine (HM.out _).mono ?_
    rintro e w4 ⟨t, rfl, t1, t2, t3, t4, hb⟩
    have B4 := Lib.hid (B3.out.trans (hb.mono B3.out.size))
    have R3 := Lib.hid (HR3.out t w4 t3 t4 t1 t2)
    clear hb t3 t4
    go_wp2_with fail
    refine R3.out.mono ?_
    rintro e w5 ⟨rfl, hb⟩
    have B5 := Lib.hid (B4.out.trans (hb.mono B4.out.size))
    clear hb
    go_wp2_with fail
    refine (HA.out _).mono ?_
    rintro e w6 ⟨rfl, hb⟩
    have B6 := Lib.hid (B5.out.trans (hb.mono B5.out.size))
    clear hb
    go_wp2_with fail
    go_ret
    exact ⟨rfl, B6.out⟩

theorem rf_form {s : ByteArray} (z : Int) (h8 : s.size ≤ 800) (hd : dgs (bt s) s.size = false) : rfE s z = 4 := by
  unfold rfE
  rw [if_neg (by omega), hd, if_pos (show (false && decide (0 < s.size)) = false from rfl)]
theorem rf_ok {s : ByteArray} {z : Int} (h8 : s.size ≤ 800) (h0 : 0 < s.size) (hd : dgs (bt s) s.size = true) (h1 : -2000 ≤ z) (h2 : z ≤ 2000) : rfE s z = 0 := by
  unfold rfE
  rw [if_neg (by omega), hd, decide_eq_true h0, if_neg (by decide), if_neg (by omega)]
theorem zk_one : zk 1 = ⟨#[48]⟩ := rfl
theorem app_zero {s : ByteArray} {z : Int} {b : Nat} (hd : dgs (bt s) s.size = true) (h : RN s z b) : RN (s ++ ⟨#[48]⟩) (z - 1) b := by
  obtain ⟨_, d2⟩ := dv_zk hd 1
  rw [zk_one] at d2
  refine near_same (rY_pos z) (rY_pos (z - 1)) ?_ h
  unfold rX rY
  rw [d2]
  obtain ⟨D, hD⟩ : ∃ D, dv (bt s) s.size = D := ⟨_, rfl⟩
  obtain ⟨T, hT⟩ : ∃ T, 2 ^ e74 = T := ⟨_, rfl⟩
  rw [hD, hT, Nat.pow_one]
  by_cases c : 1 ≤ z
  · rw [show (-(z - 1)).toNat = 0 by omega, show (-z).toNat = 0 by omega, show z.toNat = (z - 1).toNat + 1 by omega, Nat.pow_succ, Nat.mul_comm (10 ^ (z - 1).toNat) 10, ← Nat.mul_assoc]
  · rw [show (-(z - 1)).toNat = (-z).toNat + 1 by omega, show (z - 1).toNat = 0 by omega, show z.toNat = 0 by omega, Nat.pow_succ, Nat.pow_zero, Nat.mul_one, Nat.mul_one, Nat.mul_comm (10 ^ (-z).toNat) 10, ← Nat.mul_assoc, Nat.mul_right_comm D 10 T]
theorem order_any (s : ByteArray) (hs : s.size ≤ 140737488351232) (z : Int) (hz1 : -9223372036854775808 ≤ z) (hz2 : z ≤ 9223372036854775807) (w : World) :
    Calls Try.prog 3 #[.string s, .int .i64 z] w fun e w' => e = .returned (.bool true) ∧ Below w.heap.size w w' := by
  by_cases h : s.size = 0 ∨ 700 < s.size ∨ z < -1000 ∨ 1000 < z
  · exact order_out s z w hs hz1 hz2 h
  · have h0 : 0 < s.size := by omega
    have h7 : s.size ≤ 700 := by omega
    have h3 : -1000 ≤ z := by omega
    have h4 : z ≤ 1000 := by omega
    have hsz1 : (s ++ ⟨#[48]⟩).size = s.size + 1 := by rw [ByteArray.size_append]; rfl
    cases hd : dgs (bt s) s.size with
    | false =>
      have hd2 : dgs (bt (s ++ ⟨#[48]⟩)) (s ++ ⟨#[48]⟩).size = false := by
        cases hh : dgs (bt (s ++ ⟨#[48]⟩)) (s ++ ⟨#[48]⟩).size with
        | false => rfl
        | true =>
          have := dgs_mono hh (show s.size ≤ _ by omega)
          rw [dgs_congr (g := bt s) (fun i hi => fbt_app_left hi), hd] at this
          cases this
      have r1 := rf_form z (by omega) hd
      have r2 := rf_form (z - 1) (by omega) hd2
      refine order_no s z w 4 h0 h7 h3 h4 (.inl rfl) (Lib.hid fun neg W => ?_) (Lib.hid fun W => ?_)
      · have := round_no neg s z W (by unfold maxLen; omega) (by omega) (by omega) (by omega)
        rw [r1] at this
        exact this
      · have := round_no false (s ++ ⟨#[48]⟩) (z - 1) W (by unfold maxLen; omega) (by omega) (by omega) (by omega)
        rw [r2] at this
        exact this
    | true =>
      obtain ⟨b, hb⟩ := RN_ex s z
      have r1 := rf_ok (z := z) (by omega) h0 hd (by omega) (by omega)
      have hd2 : dgs (bt (s ++ ⟨#[48]⟩)) (s ++ ⟨#[48]⟩).size = true := by
        have := (dv_zk hd 1).1
        rw [zk_one] at this
        exact this
      have r2 := rf_ok (s := s ++ ⟨#[48]⟩) (z := z - 1) (by omega) (by omega) hd2 (by omega) (by omega)
      have hb2 := app_zero hd hb
      by_cases hi : b < inf
      · obtain ⟨c, hc⟩ := near_ex ((dv (bt s) s.size + 1) * 10 ^ z.toNat * 2 ^ e74) (rY z) (rY_pos z)
        have hle : b ≤ c := by
          refine near_mono (rY_pos z) (rY_pos z) ?_ hb hc
          refine Nat.mul_le_mul_right _ (Nat.mul_le_mul_right _ ?_)
          unfold rX
          exact Nat.mul_le_mul_right _ (Nat.le_succ _)
        have hi2 := hi
        rw [inf_eq] at hi2
        refine order_yes s z w b (roV false c) (roE c) h0 h7 h3 h4 (by omega) ?_ (Lib.hid fun neg W => ?_) (Lib.hid fun W => ?_) (Lib.hid fun W => more_any s W h0 (by omega) hd) (Lib.hid fun t W t1 t2 t3 t4 => ?_)
        · unfold roV roE
          by_cases hc2 : c < inf
          · rw [if_pos hc2, if_pos hc2]
            rw [inf_eq] at hc2
            have : sB false = 0 := rfl
            exact .inr ⟨by omega, by omega, rfl⟩
          · rw [if_neg hc2, if_neg hc2]
            exact .inl ⟨rfl, rfl⟩
        · have := round_yes neg s z b W r1 hb
          unfold roV roE at this
          rw [if_pos hi, if_pos hi] at this
          exact this
        · have := round_yes false _ (z - 1) b W r2 hb2
          unfold roV roE at this
          rw [if_pos hi, if_pos hi, show sB false + b = b by simp [sB]] at this
          exact this
        · refine round_yes false t z c W (rf_ok (by omega) t3 t1 (by omega) (by omega)) ?_
          unfold RN rX
          rw [t2]
          exact hc
      · refine order_no s z w 8 h0 h7 h3 h4 (.inr rfl) (Lib.hid fun neg W => ?_) (Lib.hid fun W => ?_)
        · have := round_yes neg s z b W r1 hb
          unfold roV roE at this
          rw [if_neg hi, if_neg hi] at this
          exact this
        · have := round_yes false _ (z - 1) b W r2 hb2
          unfold roV roE at this
          rw [if_neg hi, if_neg hi] at this
          exact this
end Go.Proofs.Ytcndkhgbgjnclaa.nn
/- How the arguments of the laws read: strings and numbers. -/
namespace Go.Proofs.Ytcndkhgbgjnclaa.nn
open Go.ChangeShapes Go.WideShapes Go.ChangeAt Go.RowKit

theorem Try.own : ownKnob Try.prog.godebug = none := by kernel_rfl
theorem Try.laidOut : laidOutB Try.prog = true := by kernel_rfl
theorem wf_i64 {n : Int} (h : (Lit.int .i64 n).wf = true) : -9223372036854775808 ≤ n ∧ n ≤ 9223372036854775807 := by
  have h1 : IntKind.i64.min = -9223372036854775808 := rfl
  have h2 : IntKind.i64.max = 9223372036854775807 := rfl
  simp only [Lit.wf, Bool.and_eq_true, decide_eq_true_eq] at h
  omega
theorem wf_u8 {n : Int} (h : (Lit.int .u8 n).wf = true) : 0 ≤ n ∧ n < ((256 : Nat) : Int) := by
  have h1 : IntKind.u8.min = 0 := rfl
  have h2 : IntKind.u8.max = 255 := rfl
  simp only [Lit.wf, Bool.and_eq_true, decide_eq_true_eq] at h
  omega
theorem wf_u16 {n : Int} (h : (Lit.int .u16 n).wf = true) : 0 ≤ n ∧ n < ((65536 : Nat) : Int) := by
  have h1 : IntKind.u16.min = 0 := rfl
  have h2 : IntKind.u16.max = 65535 := rfl
  simp only [Lit.wf, Bool.and_eq_true, decide_eq_true_eq] at h
  omega
theorem wf_u64 {n : Int} (h : (Lit.int .u64 n).wf = true) : 0 ≤ n ∧ n < ((18446744073709551616 : Nat) : Int) := by
  have h1 : IntKind.u64.min = 0 := rfl
  have h2 : IntKind.u64.max = 18446744073709551615 := rfl
  simp only [Lit.wf, Bool.and_eq_true, decide_eq_true_eq] at h
  omega
theorem size_reach {s : ByteArray} (h : s.data.toList.length ≤ reachBytes) : s.size ≤ 140737488351232 := h
end Go.Proofs.Ytcndkhgbgjnclaa.nn
/- The walk of the law FdecWhole: it returns true. -/
namespace Go.Proofs.Ytcndkhgbgjnclaa.nn
open Go.RowKit

/-- a whole number that has bits is just what they say -/
theorem fi_vf {n : Nat} (hn : n < 18446744073709551616) (ho : fiO n = true) : vf (fiV false n) = n * 2 ^ e74 ∧ fiV false n < inf := by
  by_cases h0 : n = 0
  · subst h0
    rw [fi_zero.2 false, vf_zero, Nat.zero_mul]
    exact ⟨rfl, by decide⟩
  · rw [fi_some h0 ho]
    have hL1 := Nat.log2_self_le h0
    have hL2 := Nat.lt_log2_self (n := n)
    have hL3 : n.log2 < 64 := (Nat.log2_lt h0).2 (by omega)
    unfold fiO at ho
    have ho := of_decide_eq_true ho
    obtain ⟨L, hL⟩ : ∃ L, n.log2 = L := ⟨_, rfl⟩
    rw [hL] at hL1 hL2 hL3 ho ⊢
    have hdv := Nat.div_mul_cancel (Nat.dvd_of_mod_eq_zero ho)
    obtain ⟨c, hc⟩ : ∃ c, n * 2 ^ 52 / 2 ^ L = c := ⟨_, rfl⟩
    rw [hc] at hdv ⊢
    rw [h52_eq] at hdv ⊢
    have hp := Nat.two_pow_pos L
    have c1 : h52 ≤ c := by
      have h1 : 2 ^ L * h52 ≤ n * h52 := Nat.mul_le_mul_right _ hL1
      rw [← hdv, Nat.mul_comm] at h1
      exact Nat.le_of_mul_le_mul_right h1 hp
    have c2 : c < 2 * h52 := by
      have h1 : n * h52 < 2 ^ (L + 1) * h52 := Nat.mul_lt_mul_of_pos_right hL2 (by decide)
      rw [← hdv, Nat.pow_succ, Nat.mul_assoc, Nat.mul_comm (2 ^ L)] at h1
      exact Nat.lt_of_mul_lt_mul_right h1
    obtain ⟨J, hJ⟩ : ∃ J, J = 1022 := ⟨_, rfl⟩
    have e1 : jv false (1023 + L) (c - h52) = (J + L) * h52 + c := by
      unfold jv
      have h : h52 = 4503599627370496 := rfl
      rw [if_neg (by decide), Nat.zero_add, hJ]
      rw [h] at c1 ⊢
      omega
    rw [e1]
    constructor
    · rw [vf_at (by omega) (.inr c1), Nat.pow_add, Nat.mul_comm (2 ^ J), ← Nat.mul_assoc, hdv, Nat.mul_assoc, ← h52_eq]
      rw [two_add (a := 52) (b := J) (c := e74) (by rw [hJ]; rfl)]
    · rw [inf_eq, hJ]
      have h : h52 = 4503599627370496 := rfl
      rw [h] at c2 ⊢
      omega

set_option maxRecDepth 100000 in
set_option maxHeartbeats 2000000 in
theorem whole_any (n : Nat) (hn : n < 18446744073709551616) (w : World) :
    Calls Try.prog 4 #[.int .u64 (n : Int)] w fun e w' => e = .returned (.bool true) ∧ Below w.heap.size w w' := by
  have HA := Lib.hid (fun W => awake6 W)
  have hF := ffromInt_any false n w hn
  rw [show fiN false n = n from rfl] at hF
  cases ho : fiO n with
  | false =>
    rw [ho] at hF
    have HF := Lib.hid hF
    clear hF ho
    obtain ⟨V, hV⟩ : ∃ V, fiV false n = V := ⟨_, rfl⟩
    rw [hV] at HF
    clear hV
    go_enter Try.func4, Try.ntmps4
    go_wp2_with fail
    refine HF.out.mono ?_
    rintro e w1 ⟨rfl, hb⟩
    have B1 := Lib.hid hb
    clear hb
    go_wp2_with fail
    refine (HA.out _).mono ?_
    rintro e w2 ⟨rfl, hb⟩
    have B2 := Lib.hid (B1.out.trans (hb.mono B1.out.size))
    clear hb
    go_wp2_with fail
    go_ret
    exact ⟨rfl, B2.out⟩
  | true =>
    rw [ho] at hF
    obtain ⟨hv, hvi⟩ := fi_vf hn ho
    obtain ⟨V, hV⟩ : ∃ V, fiV false n = V := ⟨_, rfl⟩
    rw [hV] at hF hv hvi
    have HF := Lib.hid hF
    have HR : Hid (∀ S W, S.size ≤ 20 → 0 < S.size → dgs (bt S) S.size = true → dv (bt S) S.size = n → Calls Try.prog 6 #[.bool false, .string S, .int .i64 0] W (RoAns V 0 W)) := Lib.hid (fun S W h1 h2 h3 h4 => by
      have hy : rY 0 = 1 := rfl
      have hb : RN S 0 V := by
        unfold RN rX
        rw [h4, hy, show (10 : Nat) ^ (0 : Int).toNat = 1 from rfl, Nat.mul_one, ← hv]
        have := near_self 1 V (by decide)
        rw [Nat.mul_one] at this
        exact this
      have := round_yes false S 0 V W (rf_ok (by omega) h2 h3 (by decide) (by decide)) hb
      unfold roV roE at this
      rw [if_pos hvi, if_pos hvi, show sB false + V = V by simp [sB]] at this
      exact this)
    clear hF hv hV ho hvi
    go_enter Try.func4, Try.ntmps4
    go_wp2_with fail
    refine HF.out.mono ?_
    rintro e w1 ⟨rfl, hb⟩
    have B1 := Lib.hid hb
    clear hb
    go_wp2_with fail
    go_loopw [0, 5] (fun s0 s5 wr => ∃ (m : Nat) (S : ByteArray), m < 18446744073709551616 ∧ s0 = .int .u64 (m : Int) ∧ s5 = .string S ∧ S.size ≤ 20 ∧ Hid (m * 10 ^ S.size + dv (bt S) S.size = n ∧ dgs (bt S) S.size = true ∧ Below w.heap.size w wr)) (fun s0 _ _ => (intOf s0).toNat)
    case atStart => exact ⟨n, ⟨#[]⟩, hn, rfl, rfl, by decide, Lib.hid ⟨by simp [dv, ByteArray.size], rfl, B1.out⟩⟩
    case round =>
      obtain ⟨m, S, hm, rfl, rfl, hS, hH⟩ := hrel
      by_cases hgo : 0 < m
      · have h10 : S.size < 20 := by
          rcases Nat.lt_or_ge S.size 20 with h | h
          · exact h
          · have h1 : 10 ^ 20 ≤ 10 ^ S.size := Nat.pow_le_pow_right (by decide) h
            have h2 : 1 * 10 ^ S.size ≤ m * 10 ^ S.size := Nat.mul_le_mul_right _ hgo
            have h3 := hH.out.1
            have h4 : (10 : Nat) ^ 20 = 100000000000000000000 := by decide
            omega
        have hm10 : m % 10 < 10 := Nat.mod_lt _ (by decide)
        obtain ⟨d, hd⟩ : ∃ d, 48 + m % 10 = d := ⟨_, rfl⟩
        have hd256 : d < 256 := by omega
        have u1 : (48 : Int) + (m : Int) % 10 = (d : Int) := by omega
        have kc := conv_row (some ⟨wr.heap.size, 0, none⟩) 1 1 (fun _ => d) (wr.alloc (.cells #[.int .u8 (d : Int)] 5)) (rd_one wr .u8 d 5)
        have hdd : dgs (fun _ => d) 1 = true := by
          rw [dgs, dgs, Bool.true_and]
          exact decide_eq_true (by omega : 48 ≤ d ∧ d ≤ 57)
        obtain ⟨p1, p2, p3⟩ := pc_num hdd
        obtain ⟨P, hP⟩ : ∃ P, pc (fun _ => d) 1 = P := ⟨_, rfl⟩
        rw [hP] at kc p1 p2 p3
        obtain ⟨a1, a2⟩ := app_num (a := P) (b := S) (by rw [p1]; exact p2) hH.out.2.1
        rw [p1, p3, show dv (fun _ => d) 1 = d - 48 by simp [dv]] at a2
        have hPs : (P ++ S).size = S.size + 1 := by rw [ByteArray.size_append, p1]; omega
        have HG : Hid (m / 10 * 10 ^ (P ++ S).size + dv (bt (P ++ S)) (P ++ S).size = n ∧ dgs (bt (P ++ S)) (P ++ S).size = true ∧ Below w.heap.size w (wr.alloc (.cells #[.int .u8 (d : Int)] 5))) := Lib.hid ⟨by
          rw [a2, hPs, Nat.pow_succ, ← hH.out.1]
          obtain ⟨T, hT⟩ : ∃ T, 10 ^ S.size = T := ⟨_, rfl⟩
          rw [hT, show d - 48 = m % 10 by omega]
          have h1 : m / 10 * (T * 10) = m / 10 * 10 * T := by rw [Nat.mul_assoc, Nat.mul_comm T 10]
          rw [h1, ← Nat.add_assoc, ← Nat.add_mul]
          congr 2
          omega, a1, hH.out.2.2.alloc hH.out.2.2.size _⟩
        have hPS : P.size ≤ 1 := by omega
        clear hd hdd p1 p2 p3 hP a1 a2 hm10
        go_wp2_with fail
        go_roundw
        case rel => exact ⟨m / 10, P ++ S, by omega, by go_num, rfl, by omega, HG⟩
        case measure => simp [intOf]; omega
      · obtain rfl : m = 0 := by omega
        have hdv : dv (bt S) S.size = n := by have := hH.out.1; rw [Nat.zero_mul, Nat.zero_add] at this; exact this
        by_cases hs0 : S.size = 0
        · obtain rfl := nil_text hs0
          have hn0 : n = 0 := by rw [← hdv]; rfl
          have R := Lib.hid (fun W => HR.out ⟨#[48]⟩ W (by decide) (by decide) (by decide) (by rw [hn0]; decide))
          clear hdv hs0 hn0
          go_wp2_with fail
          refine (R.out _).mono ?_
          rintro e w2 ⟨rfl, hb⟩
          have B2 := Lib.hid (hH.out.2.2.trans (hb.mono hH.out.2.2.size))
          clear hb
          go_wp2_with fail
          refine (HA.out _).mono ?_
          rintro e w3 ⟨rfl, hb⟩
          have B3 := Lib.hid (B2.out.trans (hb.mono B2.out.size))
          clear hb
          go_wp2_with fail
          go_ret
          exact ⟨rfl, B3.out⟩
        · have R := Lib.hid (fun W => HR.out S W hS (by omega) hH.out.2.1 hdv)
          have hne := not_nil_text (show 0 < S.size by omega)
          clear hdv hs0
          go_wp2_with fail
          refine (R.out _).mono ?_
          rintro e w2 ⟨rfl, hb⟩
          have B2 := Lib.hid (hH.out.2.2.trans (hb.mono hH.out.2.2.size))
          clear hb
          go_wp2_with fail
          refine (HA.out _).mono ?_
          rintro e w3 ⟨rfl, hb⟩
          have B3 := Lib.hid (B2.out.trans (hb.mono B2.out.size))
          clear hb
          go_wp2_with fail
          go_ret
          exact ⟨rfl, B3.out⟩
end Go.Proofs.Ytcndkhgbgjnclaa.nn
