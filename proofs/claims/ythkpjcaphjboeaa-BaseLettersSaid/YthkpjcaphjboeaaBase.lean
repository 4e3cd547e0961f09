/- Plain words for bytes as letters: bits, groups of bits, letters, what fills up. No program is named here. -/
import Derived.Test.YthkpjcaphjboeaaList
namespace Go.Proofs.Ythkpjcaphjboeaa.nn

/-- bit i of n bytes; 0 beyond -/
def bt8 (f : Nat → Nat) (n i : Nat) : Nat := if 8 * n ≤ i then 0 else f (i / 8) / 2 ^ (7 - i % 8) % 2
/-- k bits from i on -/
def gv (f : Nat → Nat) (n i : Nat) : Nat → Nat
  | 0 => 0
  | k + 1 => 2 * gv f n i k + bt8 f n (i + k)
def wid (k : Nat) : Nat := if k = 0 then 4 else if k = 3 then 5 else 6
def mlt (k : Nat) : Nat := if k = 1 then 4 else if k = 3 then 8 else 1
/-- how many letters n bytes have, without what fills up -/
def nl (k n : Nat) : Nat := (8 * n + wid k - 1) / wid k
def up (m l : Nat) : Nat := (l + m - 1) / m * m
def ltr (L : ByteArray) (w : Nat) (f : Nat → Nat) (n j : Nat) : UInt8 := UInt8.ofNat (bt L (gv f n (j * w) w))
def ltrs (L : ByteArray) (w : Nat) (f : Nat → Nat) (n m : Nat) : List UInt8 := (List.range m).map (ltr L w f n)
/-- the letters of n bytes in an alphabet of letters of w bits, filled up -/
def encB (L : ByteArray) (w m : Nat) (f : Nat → Nat) (n l : Nat) : List UInt8 := ltrs L w f n l ++ List.replicate (up m l - l) 61

section
variable {f g : Nat → Nat} {n i j k w m : Nat} {L : ByteArray}
theorem bt8_lt : bt8 f n i < 2 := by unfold bt8; split <;> omega
theorem gv_lt : gv f n i k < 2 ^ k := by
  induction k with
  | zero => simp [gv]
  | succ k ih =>
    have := bt8_lt (f := f) (n := n) (i := i + k)
    rw [gv, Nat.pow_succ]
    omega
theorem ltrs_len : (ltrs L w f n m).length = m := by simp [ltrs]
theorem ltrs_succ : ltrs L w f n (m + 1) = ltrs L w f n m ++ [ltr L w f n m] := by simp [ltrs, List.range_succ]
theorem bt8_congr (h : ∀ j, j < n → f j = g j) : bt8 f n i = bt8 g n i := by
  unfold bt8
  by_cases h0 : 8 * n ≤ i
  · rw [if_pos h0, if_pos h0]
  · rw [if_neg h0, if_neg h0, h (i / 8) (by omega)]
theorem gv_congr (h : ∀ j, j < n → f j = g j) : gv f n i k = gv g n i k := by
  induction k with
  | zero => rfl
  | succ k ih => rw [gv, gv, ih, bt8_congr h]
theorem ltrs_congr (h : ∀ j, j < n → f j = g j) : ltrs L w f n m = ltrs L w g n m :=
  List.map_congr_left fun j _ => by unfold ltr; rw [gv_congr h]
/-- bits of the first of two, of the second -/
theorem bt8_left {n' : Nat} (hn : n ≤ n') (h : ∀ j, j < n → f j = g j) (hi : i < 8 * n) : bt8 g n' i = bt8 f n i := by
  unfold bt8
  rw [if_neg (by omega), if_neg (by omega), h (i / 8) (by omega)]
theorem bt8_right (h : ∀ j, j < m → g (n + j) = f j) : bt8 g (n + m) (8 * n + i) = bt8 f m i := by
  unfold bt8
  by_cases h0 : 8 * m ≤ i
  · rw [if_pos (by omega), if_pos h0]
  · rw [if_neg (by omega), if_neg h0, ← h (i / 8) (by omega), show (8 * n + i) / 8 = n + i / 8 by omega, show (8 * n + i) % 8 = i % 8 by omega]
theorem gv_left {n' : Nat} (hn : n ≤ n') (h : ∀ j, j < n → f j = g j) (hi : i + k ≤ 8 * n) : gv g n' i k = gv f n i k := by
  induction k with
  | zero => rfl
  | succ k ih => rw [gv, gv, ih (by omega), bt8_left hn h (by omega)]
theorem gv_right (h : ∀ j, j < m → g (n + j) = f j) : gv g (n + m) (8 * n + i) k = gv f m i k := by
  induction k with
  | zero => rfl
  | succ k ih => rw [gv, gv, ih, Nat.add_assoc, bt8_right h]
/-- ONE BEHIND THE OTHER: whole groups, then any -/
theorem ltrs_join {h : Nat → Nat} {c l : Nat} (hc : c * w = 8 * n) (hf : ∀ j, j < n → h j = f j) (hg : ∀ j, j < m → h (n + j) = g j) : ltrs L w h (n + m) (c + l) = ltrs L w f n c ++ ltrs L w g m l := by
  unfold ltrs
  rw [List.range_add, List.map_append, List.map_map]
  congr 1
  · refine List.map_congr_left fun j hj => ?_
    have hj := List.mem_range.1 hj
    unfold ltr
    rw [gv_left (Nat.le_add_right n m) (fun j hj => (hf j hj).symm) (by rw [← hc, ← Nat.succ_mul]; exact Nat.mul_le_mul_right _ hj)]
  · refine List.map_congr_left fun j _ => ?_
    show ltr L w h (n + m) (c + j) = _
    unfold ltr
    rw [Nat.add_mul, hc, gv_right hg]
theorem up_ge (hm : 0 < m) : i ≤ up m i := by
  unfold up
  have := Nat.div_add_mod (i + m - 1) m
  have h2 := Nat.mod_lt (i + m - 1) hm
  rw [Nat.mul_comm] at this
  omega
end
end Go.Proofs.Ythkpjcaphjboeaa.nn
