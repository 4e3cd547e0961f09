/- Joined texts: FdShort, FdParse, FdText, FdCut, FdCut2, FdCut3, FdCut4, FdCut5, FdScan, FdBackA, Bytes, FdMore, FdecOrderW, FdBackB, FdBackC, FdSpanM, FdFewA, FdFewB, FdBackD, FdScan2. -/
import Derived.Lib.AppendIntMem
import Derived.Test.YtcndkhgbgjnclaaGreatDoorShelf
import Derived.Deep.QuietTactic
import Derived.BigQuiet
import Derived.Deep.RegionHeld3
import Derived.Test.YtcndkhgbgjnclaaGreatDoorProg
import Derived.Laws.BytesArg
import Derived.Laws.IdiomStrings
import Derived.Test.YtcndkhgbgjnclaaGreatDoorJd
/- The walk of the real fdec's Shortest. -/
namespace Go.Proofs.YtcndkhgbgjnclaaGreatDoor.nn
open Go.RowKit

/-- the decimals with the fewest digits, in units of 10^spP -/
def shN (m : Nat) (e : Int) : Nat := fws (spA m e) (spM m e) (spF m e) (spL m e) (j0 (spA m e))
/-- its digits without the zeros behind -/
def shL (m : Nat) (e : Int) : List UInt8 := Lib.trimRightB (Lib.decDigits (shN m e)) 48
def shD (m : Nat) (e : Int) : ByteArray := ⟨(shL m e).toArray⟩
def shE (m : Nat) (e : Int) : Int := spP m e + ((Lib.decDigits (shN m e)).length : Int) - ((shL m e).length : Int)
def ShAns (D : ByteArray) (E : Int) (R : Nat) (w : World) (r : Ending) (w' : World) : Prop := r = .returned (.tuple #[.string D, .int .i64 E, .int .i64 (R : Int)]) ∧ Below w.heap.size w w'
theorem fws_lt (A : Nat) (mo : Bool) (F L j : Nat) (h : A < 4000000000000000000) (hL : L < 4000000000000000000) : fws A mo F L j < 4000000000000000000 := by
  induction j with
  | zero => rw [fws]; decide
  | succ j ih =>
    rw [fws]
    split
    · rename_i x hx
      unfold cd at hx
      split at hx
      · injection hx with hx; omega
      · split at hx
        · injection hx with hx
          have := Nat.div_mul_le_self A (10 ^ (j + 1))
          omega
        · cases hx
    · exact ih
theorem trimR_len (l : List UInt8) (c : UInt8) : (Lib.trimRightB l c).length ≤ l.length := by
  unfold Lib.trimRightB
  rw [List.length_reverse]
  exact Nat.le_trans (List.dropWhile_sublist _).length_le (by rw [List.length_reverse]; exact Nat.le_refl _)
set_option maxRecDepth 100000 in
set_option maxHeartbeats 1000000 in
theorem shortest_no (x : Nat) (w : World) (hx : x < 18446744073709551616) (h : xaO x = false) : Calls Tryz.prog 7 #[.int .u64 (x : Int)] w (ShAns ⟨#[]⟩ 0 1 w) := by
  have H := Lib.hid (fun W => fexact_any x W hx)
  unfold XaAns at H
  rw [h] at H
  generalize xaS x = S at H
  generalize xaM x = M at H
  generalize xaE x = E at H
  go_enter Tryz.func7, Tryz.ntmps7
  go_wp2_with fail
  refine (H.out _).mono ?_
  rintro r w1 ⟨rfl, hb⟩
  go_wp2_with fail
  exact bodyPost_ret (by simp [results, Tryz.results7, go_sem]) rfl ⟨rfl, hb⟩
set_option maxRecDepth 100000 in
set_option maxHeartbeats 1000000 in
theorem shortest_zero (x : Nat) (w : World) (hx : x < 18446744073709551616) (h : xaO x = true) (hm : xaM x = 0) : Calls Tryz.prog 7 #[.int .u64 (x : Int)] w (ShAns ⟨#[48]⟩ 0 0 w) := by
  have H := Lib.hid (fun W => fexact_any x W hx)
  unfold XaAns at H
  rw [h, hm] at H
  generalize xaS x = S at H
  generalize xaE x = E at H
  go_enter Tryz.func7, Tryz.ntmps7
  go_wp2_with fail
  refine (H.out _).mono ?_
  rintro r w1 ⟨rfl, hb⟩
  go_wp2_with fail
  exact bodyPost_ret (by simp [results, Tryz.results7, go_sem]) rfl ⟨rfl, hb⟩
set_option maxRecDepth 100000 in
set_option maxHeartbeats 4000000 in
theorem shortest_yes (x : Nat) (w : World) (hx : x < 18446744073709551616) (h : xaO x = true) (hF : Fe (xaM x) (xaE x)) (hP : Pow10 w) : Calls Tryz.prog 7 #[.int .u64 (x : Int)] w (ShAns (shD (xaM x) (xaE x)) (shE (xaM x) (xaE x)) 0 w) := by
  have H := Lib.hid (fun W => fexact_any x W hx)
  unfold XaAns at H
  rw [h] at H
  generalize xaS x = S at H
  generalize xaM x = m at H hF ⊢
  generalize xaE x = e at H hF ⊢
  obtain ⟨s1, s2, s3, s4, s5⟩ := hF.span
  obtain ⟨q1, q2, q3, q4, q5⟩ := hF
  rw [h52] at q2
  have hN0 : shN m e < 4000000000000000000 := fws_lt _ _ _ _ _ (by omega) s5
  have HS := Lib.hid (fun W => newSpan_any m e W q1 (by omega) q3 q4 (by omega) (by omega))
  have HW := Lib.hid (fun W => fewest_any (spA m e) (spM m e) (spF m e) (spL m e) (spP m e) W s1 (by omega) (by omega) (by omega))
  have hPat := hP.at_
  have HFm := Lib.hid (fun W (hb : Below w.heap.size w W) => fmtUint_any (shN m e) W (by omega) (hP.below hb hPat))
  have hl1 : (Lib.decDigits (shN m e)).length ≤ 20 := by rw [Lib.decDigits_length]; by_cases h0 : 1 ≤ shN m e; (have := Lib.numDigits_eq (shN m e) h0 (by omega); split at this <;> omega); (rw [show shN m e = 0 by omega, show Lib.nDigits 0 = 1 by unfold Lib.nDigits; rfl]; decide)
  have hl2 : (Lib.trimRightB (Lib.decDigits (shN m e)) 48).length ≤ 20 := Nat.le_trans (trimR_len _ _) hl1
  have HT := Lib.hid (fun W => Tryz.strings_TrimRight_one ⟨(Lib.decDigits (shN m e)).toArray⟩ 48 (by decide) W (by show (Lib.decDigits (shN m e)).toArray.size ≤ _; rw [List.size_toArray]; omega))
  unfold SpAns at HS
  rw [show fws (spA m e) (spM m e) (spF m e) (spL m e) (j0 (spA m e)) = shN m e from rfl] at HW
  have HV : Hid (ShAns (shD m e) (shE m e) 0 w = ShAns ⟨(Lib.trimRightB (Lib.decDigits (shN m e)) 48).toArray⟩ (spP m e + ((Lib.decDigits (shN m e)).length : Int) - ((Lib.trimRightB (Lib.decDigits (shN m e)) 48).length : Int)) 0 w) := Lib.hid rfl
  have hpb : -500 ≤ spP m e ∧ spP m e ≤ 500 := by
    have b1 := (bl_ge (N := m) (by omega)).2
    have b2 : bl m ≤ 53 := bl_le (k := 53) (by omega)
    unfold spP dcm; omega
  generalize spA m e = A at *
  generalize spM m e = mo at *
  generalize spF m e = F at *
  generalize spL m e = L at *
  generalize spP m e = p at *
  generalize shN m e = N at *
  generalize Lib.decDigits N = ds at *
  generalize Lib.trimRightB ds 48 = ts at *
  rw [HV.out]
  unfold spV at HS HW
  have hz1 : ByteArray.size ⟨ds.toArray⟩ = ds.length := List.size_toArray
  have hz2 : ByteArray.size ⟨ts.toArray⟩ = ts.length := List.size_toArray
  generalize (⟨ds.toArray⟩ : ByteArray) = S1 at *
  generalize (⟨ts.toArray⟩ : ByteArray) = S2 at *
  generalize ds.length = n1 at *
  generalize ts.length = n2 at *
  go_enter Tryz.func7, Tryz.ntmps7
  go_wp2_with fail
  refine (H.out _).mono ?_
  rintro r w1 ⟨rfl, hb⟩
  have HB := Lib.hid hb
  clear hb
  go_wp2_with fail
  refine (HS.out _).mono ?_
  rintro r w2 ⟨rfl, hb⟩
  have HB2 := Lib.hid hb
  clear hb
  go_wp2_with fail
  have HX := Lib.hid (Bsp.new (A := A) (mo := mo) (F := F) (L := L) (p := p) w2 47)
  have HB3 := Lib.hid ((Below.refl w2.heap.size w2).alloc (Nat.le_refl _) (.cells #[.int .u64 (A : Int), .bool mo, .int .u64 (F : Int), .int .u64 (L : Int), .int .i64 p] 47))
  generalize w2.alloc (.cells #[.int .u64 (A : Int), .bool mo, .int .u64 (F : Int), .int .u64 (L : Int), .int .i64 p] 47) = W2 at HX HB3 ⊢
  have HB4 : Hid (Below w.heap.size w W2) := Lib.hid (HB.out.trans ((HB2.out.trans (HB3.out.mono HB2.out.size)).mono HB.out.size))
  clear HB HB2 HB3
  refine (HW.out _).mono ?_
  rintro r w3 ⟨rfl, hb⟩
  have HX3 := Lib.hid (HX.out.on hb)
  have HB5 : Hid (Below w.heap.size w w3) := Lib.hid (HB4.out.trans (hb.mono HB4.out.size))
  clear hb HX HB4
  go_wp2_with fail
  refine (HFm.out _ HB5.out).mono ?_
  rintro r w4 ⟨rfl, hb⟩
  have HX4 := Lib.hid (HX3.out.on hb)
  have HB6 : Hid (Below w.heap.size w w4) := Lib.hid (HB5.out.trans (hb.mono HB5.out.size))
  clear hb HX3 HB5
  go_wp2_with fail
  refine (HT.out _).mono ?_
  rintro r w5 ⟨rfl, rfl⟩
  obtain ⟨x0, x1, x2, x3, x4⟩ := HX4.out.all
  go_wp2_with fail
  go_quiet (fail)
  go_wp2_with fail
  exact bodyPost_ret (by simp [results, Tryz.results7, go_sem]) rfl ⟨rfl, drew_below HB6.out _⟩
end Go.Proofs.YtcndkhgbgjnclaaGreatDoor.nn
/- Plain facts on the places of a written number in a text. No program is named here. -/
namespace Go.Proofs.YtcndkhgbgjnclaaGreatDoor.nn

/-- how many digits stand in s from place a on -/
def rn (s : ByteArray) (a : Nat) : Nat := dc (fun i => bt s (a + i)) (s.size - a)
theorem rn_le (s : ByteArray) (a : Nat) : rn s a ≤ s.size - a := (dc_facts _ _).1
/-- from place a on -/
def sfx (s : ByteArray) (a : Nat) : ByteArray := s.extract a s.size
/-- from place a to place b -/
def cutT (s : ByteArray) (a b : Nat) : ByteArray := s.extract a b
theorem fba_ext {a b : ByteArray} (h : a.size = b.size) (e : ∀ i, i < a.size → bt a i = bt b i) : a = b := by
  apply ByteArray.ext_getElem h
  intro i h1 h2
  have := e i h1
  rw [bt_at h1, bt_at h2] at this
  exact UInt8.toNat_inj.1 this
theorem cutT_size {s : ByteArray} {a b : Nat} (h : b ≤ s.size) : (cutT s a b).size = b - a := by
  unfold cutT
  rw [ByteArray.size_extract]
  omega
theorem sfx_size (s : ByteArray) (a : Nat) : (sfx s a).size = s.size - a := by
  unfold sfx
  rw [ByteArray.size_extract]
  omega
theorem bt_cutT {s : ByteArray} {a b i : Nat} (h : b ≤ s.size) (hi : i < b - a) : bt (cutT s a b) i = bt s (a + i) := by
  have h1 : i < (s.extract a b).size := by
    have := cutT_size (a := a) h
    unfold cutT at this
    omega
  have h2 : a + i < s.size := by omega
  show bt (s.extract a b) i = _
  rw [bt_at h1, bt_at h2, ByteArray.getElem_extract]
theorem bt_sfx {s : ByteArray} {a i : Nat} (hi : i < s.size - a) : bt (sfx s a) i = bt s (a + i) := bt_cutT (Nat.le_refl _) hi
theorem sfx_zero (s : ByteArray) : sfx s 0 = s := by
  refine fba_ext (by rw [sfx_size]; omega) fun i hi => ?_
  rw [sfx_size] at hi
  rw [bt_sfx hi, Nat.zero_add]
theorem sfx_cut {s : ByteArray} {a k : Nat} (h : a + k ≤ s.size) : (sfx s a).extract 0 k = cutT s a (a + k) := by
  have e1 : ((sfx s a).extract 0 k).size = k := by rw [ByteArray.size_extract, sfx_size]; omega
  refine fba_ext (by rw [e1, cutT_size h]; omega) fun i hi => ?_
  rw [e1] at hi
  rw [bt_cutT h (by omega), ← bt_sfx (by omega)]
  have := bt_cutT (s := sfx s a) (a := 0) (b := k) (i := i) (by rw [sfx_size]; omega) (by omega)
  rw [Nat.zero_add] at this
  exact this
theorem sfx_sfx {s : ByteArray} {a k : Nat} (h : a + k ≤ s.size) : (sfx s a).extract k (sfx s a).size = sfx s (a + k) := by
  have e1 : ((sfx s a).extract k (sfx s a).size).size = s.size - (a + k) := by rw [ByteArray.size_extract, sfx_size]; omega
  refine fba_ext (by rw [e1, sfx_size]) fun i hi => ?_
  rw [e1] at hi
  rw [bt_sfx hi]
  have := bt_sfx (s := sfx s a) (a := k) (i := i) (by rw [sfx_size]; omega)
  unfold sfx at this ⊢
  rw [this]
  have h2 := bt_sfx (s := s) (a := a) (i := k + i) (by omega)
  unfold sfx at h2
  rw [h2, Nat.add_assoc]
theorem dc_sfx {s : ByteArray} (a : Nat) : dc (bt (sfx s a)) (sfx s a).size = rn s a := by
  have : ∀ n, n ≤ s.size - a → dc (bt (sfx s a)) n = dc (fun i => bt s (a + i)) n := by
    intro n
    induction n with
    | zero => exact fun _ => rfl
    | succ n ih =>
      intro hn
      rw [dc, dc, ih (by omega), bt_sfx (by omega)]
  rw [sfx_size]
  exact this _ (Nat.le_refl _)
/-- the digits that are run through are digits -/
theorem rn_dgs {s : ByteArray} {a : Nat} (ha : a ≤ s.size) : dgs (bt (cutT s a (a + rn s a))) (rn s a) = true := by
  have h1 := rn_le s a
  obtain ⟨_, h2, _⟩ := dc_facts (fun i => bt s (a + i)) (s.size - a)
  rw [dgs_congr (g := fun i => bt s (a + i)) (fun i hi => bt_cutT (by omega) (by omega))]
  exact h2
end Go.Proofs.YtcndkhgbgjnclaaGreatDoor.nn
/- The walks of the real fdec's withExponent, layOut and Text. -/
namespace Go.Proofs.YtcndkhgbgjnclaaGreatDoor.nn
open Go.RowKit

/-- the builder behind some writes, and the rest as it was -/
def Bw (w : World) (l : List UInt8) (W : World) : Prop := Bld w.heap.size w.heap.size l W ∧ Below w.heap.size w W
theorem Bw.below {w W W' : World} {l : List UInt8} (h : Bw w l W) (hb : Below W.heap.size W W') : Bw w l W' := ⟨h.1.below hb (Nat.le_refl _), h.2.trans (hb.mono h.2.size)⟩
theorem Bw.new (w : World) : Bw w [] (w.alloc (.cells #[.pointer none, .slice none 0 0] 142)) := ⟨Bld.new w, (Below.refl _ _).alloc (Nat.le_refl _) _⟩
theorem bw_write {w W : World} {l : List UInt8} (s : ByteArray) (h : Bw w l W) (hlen : l.length ≤ 1000) (hs : s.size ≤ 1000) :
    Calls Tryz.prog 105 #[.pointer (some ⟨w.heap.size, 0, none⟩), .string s] W fun e w' => e = .returned (.tuple #[.int .i64 s.size, .nilIface]) ∧ Bw w (l ++ s.data.toList) w' :=
  (writeString_any _ _ l s W h.1 (by omega) h.2.size).mono fun _ _ ⟨he, hb, hb2⟩ => ⟨he, hb, h.2.trans hb2⟩
/-- the text with an exponent -/
def wxL (D : ByteArray) (e : Int) : List UInt8 := (cutT D 0 1).data.toList ++ (if 1 < D.size then [46] ++ (cutT D 1 D.size).data.toList else []) ++ [101] ++ Lib.itoa e
theorem nd_small {u : Nat} (h : u < 10000000000) : (Lib.decDigits u).length ≤ 20 := by
  rw [Lib.decDigits_length]
  by_cases h0 : 1 ≤ u
  · have := Lib.numDigits_eq u h0 (by omega)
    split at this <;> omega
  · rw [show u = 0 by omega, show Lib.nDigits 0 = 1 by unfold Lib.nDigits; rfl]
    decide
theorem itoa_small {e : Int} (he : -100000 ≤ e ∧ e ≤ 100000) : (Lib.itoa e).length ≤ 25 := by
  unfold Lib.itoa
  split
  · have := nd_small (u := e.natAbs) (by omega)
    simp only [List.length_cons]
    omega
  · have := nd_small (u := e.toNat) (by omega)
    omega
theorem blen (s : ByteArray) : s.data.toList.length = s.size := by rw [Array.length_toList]; rfl
set_option maxRecDepth 100000 in
set_option maxHeartbeats 4000000 in
theorem withExp_any (D : ByteArray) (e : Int) (w : World) (h0 : 0 < D.size) (hs : D.size ≤ 500) (he : -100000 ≤ e ∧ e ≤ 100000) (hP : Pow10 w) :
    Calls Tryz.prog 67 #[.string D, .int .i64 e] w fun r w' => r = .returned (.string ⟨(wxL D e).toArray⟩) ∧ Below w.heap.size w w' := by
  have HW := Lib.hid (fun l s W (h : Bw w l W) (h1 : l.length ≤ 1000) (h2 : s.size ≤ 1000) => bw_write s h h1 h2)
  have hPat := hP.at_
  have hi6 : (Lib.itoa e).length ≤ 25 := itoa_small he
  have HI := Lib.hid (fun l W (h : Bw w l W) => (Tryz.strconv_Itoa e (by omega) (by omega) W (hP.below h.2 hPat)).mono (R' := fun r w' => r = .returned (.string ⟨(Lib.itoa e).toArray⟩) ∧ Bw w l w') fun r w' ⟨hr, k, os, hw⟩ => ⟨hr, by rw [hw]; exact h.below (Lib.below_grow _ _ (Nat.le_refl _) k os)⟩)
  have HS := Lib.hid (fun l W (h : Bw w l W) => (Tryz.Builder_String_any _ _ l W h.1 h.2.size).mono (R' := fun r w' => r = .returned (.string ⟨l.toArray⟩) ∧ Below w.heap.size w w') fun r w' ⟨hr, hb⟩ => ⟨hr, h.2.trans hb⟩)
  have HN := Lib.hid (Bw.new w)
  obtain ⟨T, hT⟩ : ∃ T : ByteArray, ⟨(Lib.itoa e).toArray⟩ = T := ⟨_, rfl⟩
  have hTl : T.data.toList = Lib.itoa e := by rw [← hT]
  have hTs : T.size ≤ 25 := by rw [← blen, hTl]; exact hi6
  obtain ⟨D1, hD1⟩ : ∃ t, cutT D 0 1 = t := ⟨_, rfl⟩
  obtain ⟨D2, hD2⟩ : ∃ t, cutT D 1 D.size = t := ⟨_, rfl⟩
  have hs1 : D1.size = 1 := by rw [← hD1, cutT_size (by omega)]
  have hs2 : D2.size = D.size - 1 := by rw [← hD2, cutT_size (by omega)]
  have sl1 : ∀ W, (Instr.slice 9 (.string D) none (some (.int .i64 1)) none).run Tryz.prog W = .ok (.string D1) W := fun W => by
    rw [run_slice_string_h (w := W) (s := D) (ht := Tryz.underlying9) (h0 := by omega) (h2 := by omega), ← hD1]
    rfl
  have sl2 : ∀ W, (Instr.slice 9 (.string D) (some (.int .i64 1)) none none).run Tryz.prog W = .ok (.string D2) W := fun W => by
    rw [run_slice_string_l (w := W) (s := D) (ht := Tryz.underlying9) (h0 := by omega) (h1 := by omega), ← hD2]
    rfl
  have HX : Hid (wxL D e = D1.data.toList ++ (if 1 < D.size then [46] ++ D2.data.toList else []) ++ [101] ++ T.data.toList) := Lib.hid (by unfold wxL; rw [hD1, hD2, hTl])
  rw [hT] at HI
  clear hT hTl hi6 hP hPat hD1 hD2
  by_cases c : 1 < D.size
  · rw [if_pos c] at HX
    go_enter Tryz.func67, Tryz.ntmps67
    go_wp2_with fail
    refine (HW.out _ _ _ HN.out (by simp) (by omega)).mono ?_
    rintro r w1 ⟨rfl, hb⟩
    have B1 := Lib.hid hb
    clear hb
    go_wp2_with fail
    refine (HW.out _ _ _ B1.out (by simp; omega) (by decide)).mono ?_
    rintro r w2 ⟨rfl, hb⟩
    have B2 := Lib.hid hb
    clear hb
    go_wp2_with fail
    refine (HW.out _ _ _ B2.out (by simp; omega) (by omega)).mono ?_
    rintro r w3 ⟨rfl, hb⟩
    have B3 := Lib.hid hb
    clear hb
    go_wp2_with fail
    refine (HW.out _ _ _ B3.out (by simp; omega) (by decide)).mono ?_
    rintro r w4 ⟨rfl, hb⟩
    have B4 := Lib.hid hb
    clear hb
    go_wp2_with fail
    refine (HI.out _ _ B4.out).mono ?_
    rintro r w5 ⟨rfl, hb⟩
    have B5 := Lib.hid hb
    clear hb
    go_wp2_with fail
    refine (HW.out _ _ _ B5.out (by simp; omega) (by omega)).mono ?_
    rintro r w6 ⟨rfl, hb⟩
    have B6 := Lib.hid hb
    clear hb
    go_wp2_with fail
    refine (HS.out _ _ B6.out).mono ?_
    rintro r w7 ⟨rfl, hb⟩
    go_wp2_with fail
    go_ret
    refine ⟨?_, hb⟩
    rw [HX.out]
    simp
  · rw [if_neg c] at HX
    go_enter Tryz.func67, Tryz.ntmps67
    go_wp2_with fail
    refine (HW.out _ _ _ HN.out (by simp) (by omega)).mono ?_
    rintro r w1 ⟨rfl, hb⟩
    have B1 := Lib.hid hb
    clear hb
    go_wp2_with fail
    refine (HW.out _ _ _ B1.out (by simp; omega) (by decide)).mono ?_
    rintro r w4 ⟨rfl, hb⟩
    have B4 := Lib.hid hb
    clear hb
    go_wp2_with fail
    refine (HI.out _ _ B4.out).mono ?_
    rintro r w5 ⟨rfl, hb⟩
    have B5 := Lib.hid hb
    clear hb
    go_wp2_with fail
    refine (HW.out _ _ _ B5.out (by simp; omega) (by omega)).mono ?_
    rintro r w6 ⟨rfl, hb⟩
    have B6 := Lib.hid hb
    clear hb
    go_wp2_with fail
    refine (HS.out _ _ B6.out).mono ?_
    rintro r w7 ⟨rfl, hb⟩
    go_wp2_with fail
    go_ret
    refine ⟨?_, hb⟩
    rw [HX.out]
    simp

/-- the text of a number -/
def loT (D : ByteArray) (p : Int) : ByteArray :=
  if p < -5 ∨ 21 < p then ⟨(wxL D (p - 1)).toArray⟩ else if p ≤ 0 then ⟨#[48, 46]⟩ ++ zk (-p).toNat ++ D else if (D.size : Int) ≤ p then D ++ zk (p - D.size).toNat ++ ⟨#[46, 48]⟩ else cutT D 0 p.toNat ++ ⟨#[46]⟩ ++ cutT D p.toNat D.size
set_option maxRecDepth 100000 in
set_option maxHeartbeats 4000000 in
theorem layOut_any (D : ByteArray) (p : Int) (w : World) (h0 : 0 < D.size) (hs : D.size ≤ 500) (he : -90000 ≤ p ∧ p ≤ 90000) (hP : Pow10 w) :
    Calls Tryz.prog 26 #[.string D, .int .i64 p] w fun r w' => r = .returned (.string (loT D p)) ∧ Below w.heap.size w w' := by
  have HW := Lib.hid (fun W (hb : Below w.heap.size w W) => (withExp_any D (p - 1) W h0 hs (by omega) (hP.below hb hP.at_)).mono (R' := fun r w' => r = .returned (.string ⟨(wxL D (p - 1)).toArray⟩) ∧ Below w.heap.size w w') fun r w' ⟨hr, h⟩ => ⟨hr, hb.trans (h.mono hb.size)⟩)
  have HZ := Lib.hid (fun z W (h1 : -100000 ≤ z) (h2 : z ≤ 100000) (hb : Below w.heap.size w W) => (zeros_any z W h1 h2).mono (R' := fun r w' => r = .returned (.string (zk z.toNat)) ∧ Below w.heap.size w w') fun r w' ⟨hr, h⟩ => ⟨hr, hb.trans (h.mono hb.size)⟩)
  have HB := Lib.hid (Below.refl w.heap.size w)
  clear hP
  have hz1 := zk_size (-p).toNat
  have hz2 := zk_size (p - D.size).toNat
  by_cases c1 : p < -5 ∨ 21 < p
  · have HL : Hid (loT D p = ⟨(wxL D (p - 1)).toArray⟩) := Lib.hid (by unfold loT; rw [if_pos c1])
    rcases c1 with c | c
    · go_enter Tryz.func26, Tryz.ntmps26
      go_wp2_with fail
      refine (HW.out _ (by first | exact HB.out | exact drew_below HB.out _)).mono ?_
      rintro r w1 ⟨rfl, hb⟩
      go_wp2_with fail
      go_ret
      exact ⟨by rw [HL.out]; rfl, hb⟩
    · go_enter Tryz.func26, Tryz.ntmps26
      go_wp2_with fail
      refine (HW.out _ (by first | exact HB.out | exact drew_below HB.out _)).mono ?_
      rintro r w1 ⟨rfl, hb⟩
      go_wp2_with fail
      go_ret
      exact ⟨by rw [HL.out]; rfl, hb⟩
  · by_cases c2 : p ≤ 0
    · have HL : Hid (loT D p = ⟨#[48, 46]⟩ ++ zk (-p).toNat ++ D) := Lib.hid (by unfold loT; rw [if_neg c1, if_pos c2])
      go_enter Tryz.func26, Tryz.ntmps26
      go_wp2_with fail
      refine (HZ.out _ _ (by omega) (by omega) (by first | exact HB.out | exact drew_below HB.out _)).mono ?_
      rintro r w1 ⟨rfl, hb⟩
      go_wp2_with fail
      go_ret
      exact ⟨by rw [HL.out]; rfl, hb⟩
    · by_cases c3 : (D.size : Int) ≤ p
      · have HL : Hid (loT D p = D ++ zk (p - D.size).toNat ++ ⟨#[46, 48]⟩) := Lib.hid (by unfold loT; rw [if_neg c1, if_neg c2, if_pos c3])
        have HZ2 := Lib.hid (fun W (hb : Below w.heap.size w W) => HZ.out (p - D.size) W (by omega) (by omega) hb)
        obtain ⟨Z, hZ⟩ : ∃ Z, zk (p - D.size).toNat = Z := ⟨_, rfl⟩
        have hZs : Z.size ≤ 100000 := by rw [← hZ, hz2]; omega
        rw [hZ] at HZ2 HL
        clear hZ hz1 hz2
        go_enter Tryz.func26, Tryz.ntmps26
        go_wp2_with fail
        refine (HZ2.out _ (by first | exact HB.out | exact drew_below HB.out _)).mono ?_
        rintro r w1 ⟨rfl, hb⟩
        go_wp2_with fail
        go_ret
        exact ⟨by rw [HL.out]; rfl, hb⟩
      · have HL : Hid (loT D p = cutT D 0 p.toNat ++ ⟨#[46]⟩ ++ cutT D p.toNat D.size) := Lib.hid (by unfold loT; rw [if_neg c1, if_neg c2, if_neg c3])
        obtain ⟨D1, hD1⟩ : ∃ t, cutT D 0 p.toNat = t := ⟨_, rfl⟩
        obtain ⟨D2, hD2⟩ : ∃ t, cutT D p.toNat D.size = t := ⟨_, rfl⟩
        have hs1 : D1.size = p.toNat := by rw [← hD1, cutT_size (by omega)]; omega
        have hs2 : D2.size = D.size - p.toNat := by rw [← hD2, cutT_size (by omega)]
        have sl1 : ∀ W, (Instr.slice 9 (.string D) none (some (.int .i64 p)) none).run Tryz.prog W = .ok (.string D1) W := fun W => by
          rw [run_slice_string_h (w := W) (s := D) (ht := Tryz.underlying9) (h0 := by omega) (h2 := by omega), ← hD1]
          rfl
        have sl2 : ∀ W, (Instr.slice 9 (.string D) (some (.int .i64 p)) none none).run Tryz.prog W = .ok (.string D2) W := fun W => by
          rw [run_slice_string_l (w := W) (s := D) (ht := Tryz.underlying9) (h0 := by omega) (h1 := by omega), ← hD2]
          rfl
        rw [hD1, hD2] at HL
        clear hD1 hD2
        go_enter Tryz.func26, Tryz.ntmps26
        go_wp2_with fail
        go_quiet (fail)
        go_wp2_with fail
        go_ret
        exact ⟨by rw [HL.out]; rfl, by first | exact HB.out | exact drew_below HB.out _⟩

def TxAns (T : ByteArray) (R : Nat) (w : World) (r : Ending) (w' : World) : Prop := r = .returned (.tuple #[.string T, .int .i64 (R : Int)]) ∧ Below w.heap.size w w'
theorem loT_size (D : ByteArray) (p : Int) (h0 : 0 < D.size) (hs : D.size ≤ 500) (he : -90000 ≤ p ∧ p ≤ 90000) : (loT D p).size ≤ 200000 := by
  unfold loT
  split
  · show (wxL D (p - 1)).toArray.size ≤ _
    have h1 := itoa_small (e := p - 1) (by omega)
    have h2 : (cutT D 0 1).size = 1 := by rw [cutT_size (by omega)]
    have h3 : (cutT D 1 D.size).size = D.size - 1 := by rw [cutT_size (by omega)]
    unfold wxL
    rw [List.size_toArray]
    split
    · simp only [List.length_append, blen, List.length_cons, List.length_nil]
      omega
    · simp only [List.length_append, blen, List.length_cons, List.length_nil]
      omega
  · split
    · rw [ByteArray.size_append, ByteArray.size_append, zk_size]
      have : ByteArray.size ⟨#[48, 46]⟩ = 2 := rfl
      omega
    · split
      · rw [ByteArray.size_append, ByteArray.size_append, zk_size]
        have : ByteArray.size ⟨#[46, 48]⟩ = 2 := rfl
        omega
      · rw [ByteArray.size_append, ByteArray.size_append, cutT_size (by omega), cutT_size (by omega)]
        have : ByteArray.size ⟨#[46]⟩ = 1 := rfl
        omega
set_option maxRecDepth 100000 in
set_option maxHeartbeats 2000000 in
theorem text_no (x : Nat) (w : World) (D : ByteArray) (E : Int) (HS : Hid (∀ W, Below w.heap.size w W → Calls Tryz.prog 7 #[.int .u64 (x : Int)] W (ShAns D E 1 W))) :
    Calls Tryz.prog 9 #[.int .u64 (x : Int)] w (TxAns ⟨#[]⟩ 1 w) := by
  have HB := Lib.hid (Below.refl w.heap.size w)
  go_enter Tryz.func9, Tryz.ntmps9
  go_wp2_with fail
  refine (HS.out _ (by first | exact HB.out | exact drew_below HB.out _)).mono ?_
  rintro r w1 ⟨rfl, hb⟩
  go_wp2_with fail
  exact bodyPost_ret (by simp [results, Tryz.results9, go_sem]) rfl ⟨rfl, hb⟩
set_option maxRecDepth 100000 in
set_option maxHeartbeats 4000000 in
theorem text_yes (x : Nat) (w : World) (hx : x < 18446744073709551616) (D : ByteArray) (E : Int) (h0 : 0 < D.size) (hs : D.size ≤ 500) (he : -80000 ≤ E ∧ E ≤ 80000) (hP : Pow10 w)
    (HS : Hid (∀ W, Below w.heap.size w W → Calls Tryz.prog 7 #[.int .u64 (x : Int)] W (ShAns D E 0 W))) :
    Calls Tryz.prog 9 #[.int .u64 (x : Int)] w (TxAns ((if xaS x = true then ⟨#[45]⟩ else ⟨#[]⟩) ++ loT D (D.size + E)) 0 w) := by
  have HB := Lib.hid (Below.refl w.heap.size w)
  have HX := Lib.hid (fun W => fexact_any x W hx)
  unfold XaAns at HX
  have HL := Lib.hid (fun W (hb : Below w.heap.size w W) => (layOut_any D (D.size + E) W h0 hs (by omega) (hP.below hb hP.at_)).mono (R' := fun r w' => r = .returned (.string (loT D (D.size + E))) ∧ Below w.heap.size w w') fun r w' ⟨hr, h⟩ => ⟨hr, hb.trans (h.mono hb.size)⟩)
  have hsz := loT_size D (D.size + E) h0 hs (by omega)
  obtain ⟨T, hT⟩ : ∃ T, loT D (D.size + E) = T := ⟨_, rfl⟩
  rw [hT] at HL hsz ⊢
  generalize xaM x = m at HX
  generalize xaE x = e at HX
  generalize xaO x = o at HX
  generalize xaS x = S at HX ⊢
  clear hT hP hx
  cases S
  all_goals
    go_enter Tryz.func9, Tryz.ntmps9
    go_wp2_with fail
    refine (HS.out _ (by first | exact HB.out | exact drew_below HB.out _)).mono ?_
    rintro r w1 ⟨rfl, hb⟩
    have B1 := Lib.hid hb
    clear hb
    go_wp2_with fail
    refine (HX.out _).mono ?_
    rintro r w2 ⟨rfl, hb⟩
    have B2 := Lib.hid (B1.out.trans (hb.mono B1.out.size))
    clear hb
    go_wp2_with fail
    refine (HL.out _ B2.out).mono ?_
    rintro r w3 ⟨rfl, hb⟩
    have B3 := Lib.hid hb
    clear hb
    go_wp2_with fail
    exact bodyPost_ret (by simp [results, Tryz.results9, go_sem]) rfl ⟨rfl, B3.out⟩
end Go.Proofs.YtcndkhgbgjnclaaGreatDoor.nn
/- The real fdec: CutPrefix of one byte, cutDigits, cutSign, place. -/
namespace Go.Proofs.YtcndkhgbgjnclaaGreatDoor.nn
open Go.RowKit

theorem hp_one (S : ByteArray) (c : UInt8) : Lib.hasPrefix S.data.toList (⟨#[c]⟩ : ByteArray).data.toList = decide (0 < S.size ∧ bt S 0 = c.toNat) := by
  obtain ⟨⟨l⟩⟩ := S
  cases l with
  | nil => rfl
  | cons x l =>
    have h1 : bt ⟨⟨x :: l⟩⟩ 0 = x.toNat := by
      rw [bt_at (show 0 < (ByteArray.mk ⟨x :: l⟩).size by simp [ByteArray.size])]
      rfl
    rw [h1]
    have h2 : 0 < (ByteArray.mk ⟨x :: l⟩).size := by simp [ByteArray.size]
    show [c].isPrefixOf (x :: l) = _
    simp only [List.isPrefixOf, Bool.and_true]
    by_cases h : c = x
    · subst h
      rw [decide_eq_true ⟨h2, rfl⟩]
      exact beq_self_eq_true c
    · have h3 : x.toNat ≠ c.toNat := fun g => h (UInt8.toNat_inj.1 g).symm
      rw [decide_eq_false (fun g => h3 g.2)]
      exact beq_eq_false_iff_ne.2 h
def CpAns (S T : ByteArray) (B : Bool) (w : World) (e : Ending) (w' : World) : Prop := e = .returned (.tuple #[.string T, .bool B]) ∧ w = w'
set_option maxRecDepth 100000 in
set_option maxHeartbeats 400000 in
theorem cutPrefix_no (S : ByteArray) (c : UInt8) (w : World) (h : ¬ (0 < S.size ∧ bt S 0 = c.toNat)) :
    Calls Tryz.prog 70 #[.string S, .string ⟨#[c]⟩] w fun e w' => e = .returned (.tuple #[.string S, .bool false]) ∧ w = w' := by
  have HP := Lib.hid (fun W => Tryz.stringslite_HasPrefix S ⟨#[c]⟩ W)
  rw [hp_one, decide_eq_false h] at HP
  clear h
  have key : Hid (∀ W, Calls Tryz.prog 111 #[.string S, .string ⟨#[c]⟩] W fun e w' => e = .returned (.tuple #[.string S, .bool false]) ∧ W = w') := Lib.hid fun W => by
    go_enter Tryz.func111, Tryz.ntmps111
    go_wp2_with fail
    refine (HP.out _).mono ?_
    rintro e w' ⟨rfl, rfl⟩
    go_wp2_with fail
    go_ret2
    exact ⟨rfl, rfl⟩
  go_enter Tryz.func70, Tryz.ntmps70
  go_wp2_with fail
  refine (key.out _).mono ?_
  rintro e w' ⟨rfl, rfl⟩
  go_wp2_with fail
  go_ret2
  exact ⟨rfl, rfl⟩
set_option maxRecDepth 100000 in
set_option maxHeartbeats 400000 in
theorem cutPrefix_yes (S : ByteArray) (c : UInt8) (w : World) (hs : S.size ≤ maxLen) (h : 0 < S.size ∧ bt S 0 = c.toNat) :
    Calls Tryz.prog 70 #[.string S, .string ⟨#[c]⟩] w fun e w' => e = .returned (.tuple #[.string (S.extract 1 S.size), .bool true]) ∧ w = w' := by
  have HP := Lib.hid (fun W => Tryz.stringslite_HasPrefix S ⟨#[c]⟩ W)
  rw [hp_one, decide_eq_true h] at HP
  have h1 := h.1
  clear h
  unfold maxLen at hs
  have key : Hid (∀ W, Calls Tryz.prog 111 #[.string S, .string ⟨#[c]⟩] W fun e w' => e = .returned (.tuple #[.string (S.extract 1 S.size), .bool true]) ∧ W = w') := Lib.hid fun W => by
    go_enter Tryz.func111, Tryz.ntmps111
    go_wp2_with fail
    refine (HP.out _).mono ?_
    rintro e w' ⟨rfl, rfl⟩
    go_wp2_with fail
    go_ret2
    exact ⟨rfl, rfl⟩
  go_enter Tryz.func70, Tryz.ntmps70
  go_wp2_with fail
  refine (key.out _).mono ?_
  rintro e w' ⟨rfl, rfl⟩
  go_wp2_with fail
  go_ret2
  exact ⟨rfl, rfl⟩
/-- in s, at place a -/
def at_ (s : ByteArray) (a c : Nat) : Bool := decide (a < s.size ∧ bt s a = c)
def CpIs (s : ByteArray) (a : Nat) (B : Bool) (w : World) (e : Ending) (w' : World) : Prop := e = .returned (.tuple #[.string (sfx s (if B then a + 1 else a)), .bool B]) ∧ w = w'
theorem cutPrefix_at (s : ByteArray) (a : Nat) (c : UInt8) (w : World) (hs : s.size ≤ maxLen) (ha : a ≤ s.size) :
    Calls Tryz.prog 70 #[.string (sfx s a), .string ⟨#[c]⟩] w (CpIs s a (at_ s a c.toNat) w) := by
  have hz := sfx_size s a
  by_cases h : a < s.size ∧ bt s a = c.toNat
  · have e1 : at_ s a c.toNat = true := decide_eq_true h
    rw [e1]
    refine (cutPrefix_yes (sfx s a) c w (by unfold maxLen at *; omega) ⟨by omega, by rw [bt_sfx (by omega)]; exact h.2⟩).mono ?_
    rintro e w' ⟨rfl, rfl⟩
    rw [sfx_sfx (by omega)]
    exact ⟨rfl, rfl⟩
  · have e1 : at_ s a c.toNat = false := decide_eq_false h
    rw [e1]
    refine (cutPrefix_no (sfx s a) c w (fun g => h ⟨by omega, by have := g.2; rw [bt_sfx (by omega)] at this; exact this⟩)).mono ?_
    rintro e w' ⟨rfl, rfl⟩
    exact ⟨rfl, rfl⟩

set_option maxRecDepth 100000 in
set_option maxHeartbeats 1000000 in
theorem cutDigits_any (S A B : ByteArray) (k : Nat) (w : World) (hs : S.size ≤ maxLen) (hk : dc (bt S) S.size = k) (hA : S.extract 0 k = A) (hB : S.extract k S.size = B) :
    Calls Tryz.prog 71 #[.string S] w fun e w' => e = .returned (.tuple #[.string A, .string B]) ∧ ∃ j, w' = w.drewN j := by
  have HC := Lib.hid (fun W => countDigits_any S W hs)
  have hle := (dc_facts (bt S) S.size).1
  rw [hk] at HC hle
  unfold maxLen at hs
  have s1 : ∀ W, (Instr.slice 9 (.string S) none (some (.int .i64 (k : Int))) none).run Tryz.prog W = .ok (.string A) W := fun W => by
    rw [run_slice_string_h (w := W) (s := S) (ht := Tryz.underlying9) (h0 := by omega) (h2 := by omega), Int.toNat_natCast, hA]
  have s2 : ∀ W, (Instr.slice 9 (.string S) (some (.int .i64 (k : Int))) none none).run Tryz.prog W = .ok (.string B) W := fun W => by
    rw [run_slice_string_l (w := W) (s := S) (ht := Tryz.underlying9) (h0 := by omega) (h1 := by omega), Int.toNat_natCast, hB]
  clear hk hA hB
  go_enter Tryz.func71, Tryz.ntmps71
  go_wp2_with fail
  refine (HC.out _).mono ?_
  rintro e w' ⟨rfl, rfl⟩
  go_wp2_with fail
  go_quiet (fail)
  go_wp2
  go_ret2
  exact ⟨rfl, _, rfl⟩
/-- cutDigits, in s at place a -/
def CdIs (s : ByteArray) (a : Nat) (w : World) (e : Ending) (w' : World) : Prop := e = .returned (.tuple #[.string (cutT s a (a + rn s a)), .string (sfx s (a + rn s a))]) ∧ ∃ j, w' = w.drewN j
theorem cutDigits_at (s : ByteArray) (a : Nat) (w : World) (hs : s.size ≤ maxLen) (ha : a ≤ s.size) :
    Calls Tryz.prog 71 #[.string (sfx s a)] w (CdIs s a w) := by
  have h1 := rn_le s a
  refine (cutDigits_any (sfx s a) _ _ (rn s a) w (by have := sfx_size s a; unfold maxLen at *; omega) (dc_sfx a) rfl rfl).mono ?_
  rintro e w' ⟨rfl, j, rfl⟩
  rw [sfx_cut (by omega), sfx_sfx (by omega)]
  exact ⟨rfl, j, rfl⟩
/-- cutSign, in s at place a -/
def sgB (s : ByteArray) (a : Nat) : Bool := if at_ s a 43 then false else at_ s a 45
def sgA (s : ByteArray) (a : Nat) : Nat := if at_ s a 43 then a + 1 else if at_ s a 45 then a + 1 else a
def CsIs (s : ByteArray) (a : Nat) (w : World) (e : Ending) (w' : World) : Prop := e = .returned (.tuple #[.bool (sgB s a), .string (sfx s (sgA s a))]) ∧ w = w'
set_option maxRecDepth 100000 in
set_option maxHeartbeats 400000 in
theorem cutSign_at (s : ByteArray) (a : Nat) (w : World) (hs : s.size ≤ maxLen) (ha : a ≤ s.size) :
    Calls Tryz.prog 72 #[.string (sfx s a)] w (CsIs s a w) := by
  have H1 := Lib.hid (fun W => cutPrefix_at s a 43 W hs ha)
  have H2 := Lib.hid (fun W => cutPrefix_at s a 45 W hs ha)
  rw [show (43 : UInt8).toNat = 43 from rfl] at H1
  rw [show (45 : UInt8).toNat = 45 from rfl] at H2
  unfold CpIs at H1 H2
  unfold CsIs sgB sgA
  cases h1 : at_ s a 43 with
  | true =>
    rw [h1, if_pos rfl] at H1
    clear H2 h1
    rw [if_pos rfl, if_pos rfl]
    obtain ⟨T, hT⟩ : ∃ T, sfx s (a + 1) = T := ⟨_, rfl⟩
    rw [hT] at H1
    rw [hT]
    clear hT
    go_enter Tryz.func72, Tryz.ntmps72
    go_wp2_with fail
    refine (H1.out _).mono ?_
    rintro e w' ⟨rfl, rfl⟩
    go_wp2_with fail
    go_ret2
    exact ⟨rfl, rfl⟩
  | false =>
    rw [h1, if_neg (by decide)] at H1
    rw [if_neg (by decide), if_neg (by decide)]
    obtain ⟨B, hB⟩ : ∃ B, at_ s a 45 = B := ⟨_, rfl⟩
    rw [hB] at H2
    rw [hB]
    obtain ⟨T, hT⟩ : ∃ T, sfx s (if B = true then a + 1 else a) = T := ⟨_, rfl⟩
    rw [hT] at H2
    rw [hT]
    clear hT h1 hB
    go_enter Tryz.func72, Tryz.ntmps72
    go_wp2_with fail
    refine (H1.out _).mono ?_
    rintro e w' ⟨rfl, rfl⟩
    go_wp2_with fail
    refine (H2.out _).mono ?_
    rintro e w' ⟨rfl, rfl⟩
    go_wp2_with fail
    go_ret2
    exact ⟨rfl, rfl⟩
end Go.Proofs.YtcndkhgbgjnclaaGreatDoor.nn
/- The real fdec: place, cut. -/
namespace Go.Proofs.YtcndkhgbgjnclaaGreatDoor.nn
open Go.RowKit

/-- the parts of a number as a value -/
def pV (neg : Bool) (W F : ByteArray) (ng : Bool) (X : ByteArray) : Value := .agg #[.bool neg, .string W, .string F, .bool ng, .string X]
def plZ (ng : Bool) (X F : ByteArray) : Int := (if ng then -(dv (bt X) X.size : Int) else (dv (bt X) X.size : Int)) - (F.size : Int)
/-- the boxed parts -/
structure Bp (w : World) (neg : Bool) (F : ByteArray) (ng : Bool) (X : ByteArray) (W : World) : Prop where
  c2 : W.cell? ⟨w.heap.size, 2, none⟩ = some (.string F)
  c3 : W.cell? ⟨w.heap.size, 3, none⟩ = some (.bool ng)
  c4 : W.cell? ⟨w.heap.size, 4, none⟩ = some (.string X)
  b : Below w.heap.size w W
set_option maxRecDepth 100000 in
set_option maxHeartbeats 1000000 in
theorem place_any (neg : Bool) (Wt F : ByteArray) (ng : Bool) (X : ByteArray) (w : World) (hX : X.size ≤ 4) (hF : F.size ≤ 1000) (hd : dgs (bt X) X.size = true) :
    Calls Tryz.prog 30 #[pV neg Wt F ng X] w fun e w' => e = .returned (.int .i64 (plZ ng X F)) ∧ Below w.heap.size w w' := by
  unfold pV
  have HB := Lib.hid (fun T => (⟨by simp, by simp, by simp, (Below.refl _ _).alloc (Nat.le_refl _) _⟩ : Bp w neg F ng X (w.alloc (.cells #[.bool neg, .string Wt, .string F, .bool ng, .string X] T))))
  have HD := Lib.hid hd
  clear hd
  go_enter Tryz.func30, Tryz.ntmps30
  go_wp2_with fail
  have H1 := Lib.hid (HB.out 61)
  obtain ⟨W1, hW1⟩ : ∃ W1, w.alloc (.cells #[.bool neg, .string Wt, .string F, .bool ng, .string X] 61) = W1 := ⟨_, rfl⟩
  rw [hW1] at H1 ⊢
  clear hW1 HB
  have c2 := H1.out.c2
  have c3 := H1.out.c3
  have c4 := H1.out.c4
  go_wp2_with fail
  go_loop [3, 8] (fun s3 s8 => ∃ i : Nat, i ≤ X.size ∧ s8 = .int .i64 (i : Int) ∧ s3 = .int .i64 (dv (bt X) i : Int)) (fun _ s8 => X.size - (intOf s8).toNat)
  case atStart => exact ⟨0, Nat.zero_le _, rfl, rfl⟩
  case round =>
    obtain ⟨i, hi, rfl, rfl⟩ := hrel
    have hv : dv (bt X) i < 10000 := by
      have h1 := dv_lt (dgs_mono HD.out hi)
      have h2 : 10 ^ i ≤ 10 ^ 4 := Nat.pow_le_pow_right (by decide) (by omega)
      omega
    by_cases hlt : i < X.size
    · have hx := bt_at hlt
      have hdx := dgs_at HD.out hlt
      have HV : Hid (dv (bt X) (i + 1) = dv (bt X) i * 10 + (bt X i - 48)) := Lib.hid rfl
      obtain ⟨x, hxx⟩ : ∃ x, X[i].toNat = x := ⟨_, rfl⟩
      rw [hxx] at hx
      rw [hx] at hdx HV
      obtain ⟨D, hDD⟩ : ∃ D, dv (bt X) i = D := ⟨_, rfl⟩
      rw [hDD] at hv HV
      rw [hDD]
      clear hx hDD
      go_wp2_with fail
      go_round
      case rel => exact ⟨i + 1, by omega, by go_num, congrArg (Value.int .i64) (by rw [HV.out]; omega)⟩
      case measure => simp [intOf]; omega
    · obtain rfl : i = X.size := by omega
      have HP : Hid (plZ ng X F = (if ng then -(dv (bt X) X.size : Int) else (dv (bt X) X.size : Int)) - (F.size : Int)) := Lib.hid rfl
      obtain ⟨D, hDD⟩ : ∃ D, dv (bt X) X.size = D := ⟨_, rfl⟩
      rw [hDD] at hv HP
      rw [hDD]
      clear hDD
      cases ng
      · go_wp2_with fail
        go_ret
        exact ⟨ret_int (by rw [HP.out]; simp), H1.out.b⟩
      · go_wp2_with fail
        go_ret
        exact ⟨ret_int (by rw [HP.out]; simp), H1.out.b⟩
end Go.Proofs.YtcndkhgbgjnclaaGreatDoor.nn
/- The real fdec: cut. -/
namespace Go.Proofs.YtcndkhgbgjnclaaGreatDoor.nn
open Go.RowKit

/-! the places of a written number -/
def cA (s : ByteArray) : Nat := if at_ s 0 45 then 1 else 0
def cB (s : ByteArray) : Nat := cA s + rn s (cA s)
def cDot (s : ByteArray) : Bool := at_ s (cB s) 46
def cC (s : ByteArray) : Nat := if cDot s then cB s + 1 + rn s (cB s + 1) else cB s
def cE (s : ByteArray) : Bool := at_ s (cC s) 101 || at_ s (cC s) 69
def cS (s : ByteArray) : Nat := sgA s (cC s + 1)
def cD (s : ByteArray) : Nat := if cE s then cS s + rn s (cS s) else cC s
/-- the form is right -/
def cOk (s : ByteArray) : Bool := decide (0 < rn s (cA s)) && (!cDot s || decide (0 < rn s (cB s + 1))) && (!cE s || decide (0 < rn s (cS s))) && decide (cD s = s.size)
def cW (s : ByteArray) : ByteArray := cutT s (cA s) (cB s)
def cF (s : ByteArray) : ByteArray := if cDot s then cutT s (cB s + 1) (cC s) else ⟨#[]⟩
def cX (s : ByteArray) : ByteArray := if cE s then cutT s (cS s) (cD s) else ⟨#[]⟩
def cN (s : ByteArray) : Bool := if cE s then sgB s (cC s + 1) else false
theorem at_le {s : ByteArray} {a c : Nat} (h : at_ s a c = true) : a < s.size ∧ bt s a = c := of_decide_eq_true h
theorem cA_le (s : ByteArray) : cA s ≤ s.size := by
  unfold cA
  split
  · have := (at_le ‹_›).1; omega
  · omega
theorem cB_le (s : ByteArray) : cB s ≤ s.size := by
  have h1 := cA_le s
  have h2 := rn_le s (cA s)
  unfold cB
  omega
theorem cC_le (s : ByteArray) : cC s ≤ s.size ∧ (cDot s = true → cB s + 1 ≤ s.size) := by
  have h1 := cB_le s
  have h2 := rn_le s (cB s + 1)
  unfold cC
  cases h : cDot s with
  | true =>
    have := (at_le h).1
    rw [if_pos rfl]
    exact ⟨by omega, fun _ => by omega⟩
  | false => rw [if_neg (by decide)]; exact ⟨h1, fun h => by cases h⟩
theorem sgA_le {s : ByteArray} {a : Nat} (h : a ≤ s.size) : a ≤ sgA s a ∧ sgA s a ≤ s.size := by
  unfold sgA
  split
  · have := (at_le ‹_›).1; omega
  · split
    · have := (at_le ‹_›).1; omega
    · omega
theorem cE_lt {s : ByteArray} (h : cE s = true) : cC s + 1 ≤ s.size := by
  unfold cE at h
  rw [Bool.or_eq_true] at h
  rcases h with h | h
  · have := (at_le h).1; omega
  · have := (at_le h).1; omega
theorem cD_le (s : ByteArray) : cD s ≤ s.size := by
  unfold cD
  cases h : cE s with
  | true =>
    have h1 := cE_lt h
    have h2 := sgA_le h1
    have h3 := rn_le s (cS s)
    unfold cS at *
    rw [if_pos rfl]
    omega
  | false => rw [if_neg (by decide)]; exact (cC_le s).1
/-- is a text empty -/
theorem empty_of (S : ByteArray) : S.toList.isEmpty = decide (S.size = 0) := by
  by_cases h : S.size = 0
  · rw [nil_text h, ByteArray.toList_eq]; rfl
  · rw [not_nil_text (by omega), decide_eq_false h]

/-! the two boxes of cut: the answer's, at the call's first block, and the parts' behind it -/
def row5 (a b c d e : Value) : Array Value := #[a, b, c, d, e]
def e0 : ByteArray := ⟨#[]⟩
structure Cx (w : World) (a b c d e : Value) (W : World) : Prop where
  r : W.heap[w.heap.size]? = some (.cells (row5 (.bool false) (.string e0) (.string e0) (.bool false) (.string e0)) 61 (0, 0))
  p : W.heap[w.heap.size + 1]? = some (.cells (row5 a b c d e) 61 (0, 0))
  b : Below w.heap.size w W
  z : w.heap.size + 1 < W.heap.size
theorem Cx.new (w : World) : Cx w (.bool false) (.string e0) (.string e0) (.bool false) (.string e0) ((w.alloc (.cells #[.bool false, .string ⟨#[]⟩, .string ⟨#[]⟩, .bool false, .string ⟨#[]⟩] 61)).alloc (.cells #[.bool false, .string ⟨#[]⟩, .string ⟨#[]⟩, .bool false, .string ⟨#[]⟩] 61)) := by
  refine ⟨?_, ?_, ((Below.refl _ _).alloc (Nat.le_refl _) _).alloc (by rw [hsz]; omega) _, by rw [hsz, hsz]; omega⟩
  · show ((w.heap.push _).push _)[w.heap.size]? = _
    rw [Array.getElem?_push, if_neg (by simp), Array.getElem?_push, if_pos rfl]
    rfl
  · show ((w.heap.push _).push _)[w.heap.size + 1]? = _
    rw [Array.getElem?_push, if_pos (by simp)]
    rfl
section
variable {w W W' : World} {a b c d e : Value}
theorem Cx.on (h : Cx w a b c d e W) (hb : Below W.heap.size W W') : Cx w a b c d e W' :=
  ⟨(hb.block _ (by have := h.z; omega)).trans h.r, (hb.block _ h.z).trans h.p, h.b.trans (hb.mono (by have := h.z; omega)), Nat.lt_of_lt_of_le h.z hb.size⟩
theorem Cx.put (h : Cx w a b c d e W) (i : Nat) (v : Value) (a' b' c' d' e' : Value) (hr : (row5 a b c d e).setIfInBounds i v = row5 a' b' c' d' e') : Cx w a' b' c' d' e' (W.setCell ⟨w.heap.size + 1, i, none⟩ v) := by
  refine ⟨?_, ?_, h.b.setCell (by show w.heap.size ≤ w.heap.size + 1; omega) _, by have := h.z; simpa [World.setCell] using this⟩
  · have := h.r
    simp [World.setCell, Array.getElem?_modify, this]
  · have := h.p
    rw [← hr]
    simp [World.setCell, Array.getElem?_modify, this]
theorem Cx.put0 (h : Cx w a b c d e W) (v : Value) : Cx w v b c d e (W.setCell ⟨w.heap.size + 1, 0, none⟩ v) := h.put 0 v _ _ _ _ _ rfl
theorem Cx.put1 (h : Cx w a b c d e W) (v : Value) : Cx w a v c d e (W.setCell ⟨w.heap.size + 1, 1, none⟩ v) := h.put 1 v _ _ _ _ _ rfl
theorem Cx.put2 (h : Cx w a b c d e W) (v : Value) : Cx w a b v d e (W.setCell ⟨w.heap.size + 1, 2, none⟩ v) := h.put 2 v _ _ _ _ _ rfl
theorem Cx.put3 (h : Cx w a b c d e W) (v : Value) : Cx w a b c v e (W.setCell ⟨w.heap.size + 1, 3, none⟩ v) := h.put 3 v _ _ _ _ _ rfl
theorem Cx.put4 (h : Cx w a b c d e W) (v : Value) : Cx w a b c d v (W.setCell ⟨w.heap.size + 1, 4, none⟩ v) := h.put 4 v _ _ _ _ _ rfl
theorem Cx.at (h : Cx w a b c d e W) (i : Nat) : W.cell? ⟨w.heap.size + 1, i, none⟩ = (row5 a b c d e)[i]? ∧ W.frozen? ⟨w.heap.size + 1, i, none⟩ = false := by
  refine ⟨cell_of_row W _ i _ _ _ h.p, ?_⟩
  have := h.p
  simp [World.frozen?, this]
theorem Cx.rat (h : Cx w a b c d e W) (i : Nat) : W.cell? ⟨w.heap.size, i, none⟩ = (row5 (.bool false) (.string e0) (.string e0) (.bool false) (.string e0))[i]? ∧ W.frozen? ⟨w.heap.size, i, none⟩ = false := by
  refine ⟨cell_of_row W _ i _ _ _ h.r, ?_⟩
  have := h.r
  simp [World.frozen?, this]
theorem Cx.cells (h : Cx w a b c d e W) : W.cell? ⟨w.heap.size + 1, 0, none⟩ = some a ∧ W.cell? ⟨w.heap.size + 1, 1, none⟩ = some b ∧ W.cell? ⟨w.heap.size + 1, 2, none⟩ = some c ∧ W.cell? ⟨w.heap.size + 1, 3, none⟩ = some d ∧ W.cell? ⟨w.heap.size + 1, 4, none⟩ = some e :=
  ⟨(h.at 0).1, (h.at 1).1, (h.at 2).1, (h.at 3).1, (h.at 4).1⟩
theorem Cx.marks (h : Cx w a b c d e W) : W.frozen? ⟨w.heap.size + 1, 0, none⟩ = false ∧ W.frozen? ⟨w.heap.size + 1, 1, none⟩ = false ∧ W.frozen? ⟨w.heap.size + 1, 2, none⟩ = false ∧ W.frozen? ⟨w.heap.size + 1, 3, none⟩ = false ∧ W.frozen? ⟨w.heap.size + 1, 4, none⟩ = false :=
  ⟨(h.at 0).2, (h.at 1).2, (h.at 2).2, (h.at 3).2, (h.at 4).2⟩
theorem Cx.rcells (h : Cx w a b c d e W) : W.cell? ⟨w.heap.size, 0, none⟩ = some (.bool false) ∧ W.cell? ⟨w.heap.size, 1, none⟩ = some (.string e0) ∧ W.cell? ⟨w.heap.size, 2, none⟩ = some (.string e0) ∧ W.cell? ⟨w.heap.size, 3, none⟩ = some (.bool false) ∧ W.cell? ⟨w.heap.size, 4, none⟩ = some (.string e0) :=
  ⟨(h.rat 0).1, (h.rat 1).1, (h.rat 2).1, (h.rat 3).1, (h.rat 4).1⟩
theorem Cx.rmarks (h : Cx w a b c d e W) : W.frozen? ⟨w.heap.size, 0, none⟩ = false ∧ W.frozen? ⟨w.heap.size, 1, none⟩ = false ∧ W.frozen? ⟨w.heap.size, 2, none⟩ = false ∧ W.frozen? ⟨w.heap.size, 3, none⟩ = false ∧ W.frozen? ⟨w.heap.size, 4, none⟩ = false :=
  ⟨(h.rat 0).2, (h.rat 1).2, (h.rat 2).2, (h.rat 3).2, (h.rat 4).2⟩
end
def CuAns (neg : Bool) (Wt F : ByteArray) (ng : Bool) (X : ByteArray) (ok : Bool) (w : World) (e : Ending) (w' : World) : Prop :=
  e = .returned (.tuple #[.agg #[.bool neg, .string Wt, .string F, .bool ng, .string X], .bool ok]) ∧ Below w.heap.size w w'
def Cp (w : World) (S T : ByteArray) (c : UInt8) (B : Bool) : Prop := ∀ a1 a2 a3 a4 a5 W, Cx w a1 a2 a3 a4 a5 W → Calls Tryz.prog 70 #[.string S, .string ⟨#[c]⟩] W fun e w' => e = .returned (.tuple #[.string T, .bool B]) ∧ Cx w a1 a2 a3 a4 a5 w'
def Cd (w : World) (S A B : ByteArray) : Prop := ∀ a1 a2 a3 a4 a5 W, Cx w a1 a2 a3 a4 a5 W → Calls Tryz.prog 71 #[.string S] W fun e w' => e = .returned (.tuple #[.string A, .string B]) ∧ Cx w a1 a2 a3 a4 a5 w'
def Cs (w : World) (S T : ByteArray) (ng : Bool) : Prop := ∀ a1 a2 a3 a4 a5 W, Cx w a1 a2 a3 a4 a5 W → Calls Tryz.prog 72 #[.string S] W fun e w' => e = .returned (.tuple #[.bool ng, .string T]) ∧ Cx w a1 a2 a3 a4 a5 w'
end Go.Proofs.YtcndkhgbgjnclaaGreatDoor.nn
/- The real fdec: the walks of cut, one for each way. -/
namespace Go.Proofs.YtcndkhgbgjnclaaGreatDoor.nn
open Go.RowKit

set_option maxRecDepth 100000 in
set_option maxHeartbeats 4000000 in
theorem cut_0z (s T1 T2 Wt : ByteArray) (neg bW : Bool) (w : World) (H1 : Hid (Cp w s T1 45 neg)) (H2 : Hid (Cd w T1 Wt T2)) (zW : Wt.toList.isEmpty = !bW) (H3 : Hid (Cp w T2 T2 46 false)) (zT : T2.toList.isEmpty = true) :
    Calls Tryz.prog 29 #[.string s] w (CuAns neg Wt e0 false e0 (bW) w) := by
  have HX := Lib.hid (Cx.new w)
  cases bW
  all_goals
    go_enter Tryz.func29, Tryz.ntmps29
    go_wp2_with fail
    refine (H1.out _ _ _ _ _ _ HX.out).mono ?_
    rintro e w1 ⟨rfl, hx⟩
    have X1 := Lib.hid (hx.put0 (.bool neg))
    have f0 := hx.marks.1
    have c0 := hx.cells.1
    clear hx
    go_wp2_with fail
    refine (H2.out _ _ _ _ _ _ X1.out).mono ?_
    rintro e w2 ⟨rfl, hx⟩
    have X2 := Lib.hid (hx.put1 (.string Wt))
    have f1 := hx.marks.2.1
    have c1 := hx.cells.2.1
    clear hx f0 c0
    go_wp2_with fail
    refine (H3.out _ _ _ _ _ _ X2.out).mono ?_
    rintro e w3 ⟨rfl, hx⟩
    clear f1 c1
    have X3 := Lib.hid hx
    clear hx
    obtain ⟨c0, c1, c2, c3, c4⟩ := X3.out.cells
    obtain ⟨r0, r1, r2, r3, r4⟩ := X3.out.rcells
    obtain ⟨m0, m1, m2, m3, m4⟩ := X3.out.rmarks
    go_wp2_with fail
    first
      | refine bodyPost_ret (v := .tuple #[.agg #[.bool neg, .string Wt, .string e0, .bool false, .string e0], .bool false]) (by simp [results, Tryz.results29, go_sem, r0, r1, r2, r3, r4]) rfl ⟨rfl, ?_⟩
      | refine bodyPost_ret (v := .tuple #[.agg #[.bool neg, .string Wt, .string e0, .bool false, .string e0], .bool true]) (by simp [results, Tryz.results29, go_sem, r0, r1, r2, r3, r4]) rfl ⟨rfl, ?_⟩
    exact ((((X3.out.b.setCell (Nat.le_refl _) _).setCell (Nat.le_refl _) _).setCell (Nat.le_refl _) _).setCell (Nat.le_refl _) _).setCell (Nat.le_refl _) _

set_option maxRecDepth 100000 in
set_option maxHeartbeats 4000000 in
theorem cut_0o (s T1 T2 Wt : ByteArray) (neg bW : Bool) (w : World) (H1 : Hid (Cp w s T1 45 neg)) (H2 : Hid (Cd w T1 Wt T2)) (zW : Wt.toList.isEmpty = !bW) (H3 : Hid (Cp w T2 T2 46 false)) (zT : T2.toList.isEmpty = false) (y : Nat) (h0 : 0 < T2.size) (hxx : T2[0].toNat = y) (n1 : ((y : Int) == 101) = false) (n2 : ((y : Int) == 69) = false) :
    Calls Tryz.prog 29 #[.string s] w (CuAns neg Wt e0 false e0 (false) w) := by
  have HX := Lib.hid (Cx.new w)
  cases bW
  all_goals
    go_enter Tryz.func29, Tryz.ntmps29
    go_wp2_with fail
    refine (H1.out _ _ _ _ _ _ HX.out).mono ?_
    rintro e w1 ⟨rfl, hx⟩
    have X1 := Lib.hid (hx.put0 (.bool neg))
    have f0 := hx.marks.1
    have c0 := hx.cells.1
    clear hx
    go_wp2_with fail
    refine (H2.out _ _ _ _ _ _ X1.out).mono ?_
    rintro e w2 ⟨rfl, hx⟩
    have X2 := Lib.hid (hx.put1 (.string Wt))
    have f1 := hx.marks.2.1
    have c1 := hx.cells.2.1
    clear hx f0 c0
    go_wp2_with fail
    refine (H3.out _ _ _ _ _ _ X2.out).mono ?_
    rintro e w3 ⟨rfl, hx⟩
    clear f1 c1
    have X3 := Lib.hid hx
    clear hx
    obtain ⟨c0, c1, c2, c3, c4⟩ := X3.out.cells
    obtain ⟨r0, r1, r2, r3, r4⟩ := X3.out.rcells
    obtain ⟨m0, m1, m2, m3, m4⟩ := X3.out.rmarks
    go_wp2_with fail
    first
      | refine bodyPost_ret (v := .tuple #[.agg #[.bool neg, .string Wt, .string e0, .bool false, .string e0], .bool false]) (by simp [results, Tryz.results29, go_sem, r0, r1, r2, r3, r4]) rfl ⟨rfl, ?_⟩
      | refine bodyPost_ret (v := .tuple #[.agg #[.bool neg, .string Wt, .string e0, .bool false, .string e0], .bool true]) (by simp [results, Tryz.results29, go_sem, r0, r1, r2, r3, r4]) rfl ⟨rfl, ?_⟩
    exact ((((X3.out.b.setCell (Nat.le_refl _) _).setCell (Nat.le_refl _) _).setCell (Nat.le_refl _) _).setCell (Nat.le_refl _) _).setCell (Nat.le_refl _) _

set_option maxRecDepth 100000 in
set_option maxHeartbeats 4000000 in
theorem cut_0e (s T1 T2 Wt : ByteArray) (neg bW : Bool) (w : World) (H1 : Hid (Cp w s T1 45 neg)) (H2 : Hid (Cd w T1 Wt T2)) (zW : Wt.toList.isEmpty = !bW) (H3 : Hid (Cp w T2 T2 46 false)) (zT : T2.toList.isEmpty = false) (y : Nat) (h0 : 0 < T2.size) (hxx : T2[0].toNat = y) (hy : y = 101) (R5 R6 X R7 : ByteArray) (ng bX bZ : Bool) (s1 : ∀ W, (Instr.slice 9 (.string T2) (some (.int .i64 1)) none none).run Tryz.prog W = .ok (.string R5) W) (H5 : Hid (Cs w R5 R6 ng)) (H6 : Hid (Cd w R6 X R7)) (zX : X.toList.isEmpty = !bX) (zZ : R7.toList.isEmpty = bZ) :
    Calls Tryz.prog 29 #[.string s] w (CuAns neg Wt e0 ng X (bW && bX && bZ) w) := by
  have HX := Lib.hid (Cx.new w)
  subst hy
  cases bW <;> cases bX <;> cases bZ
  all_goals
    go_enter Tryz.func29, Tryz.ntmps29
    go_wp2_with fail
    refine (H1.out _ _ _ _ _ _ HX.out).mono ?_
    rintro e w1 ⟨rfl, hx⟩
    have X1 := Lib.hid (hx.put0 (.bool neg))
    have f0 := hx.marks.1
    have c0 := hx.cells.1
    clear hx
    go_wp2_with fail
    refine (H2.out _ _ _ _ _ _ X1.out).mono ?_
    rintro e w2 ⟨rfl, hx⟩
    have X2 := Lib.hid (hx.put1 (.string Wt))
    have f1 := hx.marks.2.1
    have c1 := hx.cells.2.1
    clear hx f0 c0
    go_wp2_with fail
    refine (H3.out _ _ _ _ _ _ X2.out).mono ?_
    rintro e w3 ⟨rfl, hx⟩
    clear f1 c1
    have X3 := Lib.hid hx
    clear hx
    go_wp2_with fail
    refine (H5.out _ _ _ _ _ _ X3.out).mono ?_
    rintro e w5 ⟨rfl, hx⟩
    skip
    have X5 := Lib.hid (hx.put3 (.bool ng))
    have f3 := hx.marks.2.2.2.1
    have c3 := hx.cells.2.2.2.1
    clear hx
    go_wp2_with fail
    refine (H6.out _ _ _ _ _ _ X5.out).mono ?_
    rintro e w6 ⟨rfl, hx⟩
    clear f3 c3
    have X6 := Lib.hid (hx.put4 (.string X))
    have f4 := hx.marks.2.2.2.2
    obtain ⟨c0, c1, c2, c3, c4⟩ := hx.cells
    obtain ⟨r0, r1, r2, r3, r4⟩ := hx.rcells
    obtain ⟨m0, m1, m2, m3, m4⟩ := hx.rmarks
    clear hx
    go_wp2_with fail
    first
      | refine bodyPost_ret (v := .tuple #[.agg #[.bool neg, .string Wt, .string e0, .bool ng, .string X], .bool false]) (by simp [results, Tryz.results29, go_sem, r0, r1, r2, r3, r4]) rfl ⟨rfl, ?_⟩
      | refine bodyPost_ret (v := .tuple #[.agg #[.bool neg, .string Wt, .string e0, .bool ng, .string X], .bool true]) (by simp [results, Tryz.results29, go_sem, r0, r1, r2, r3, r4]) rfl ⟨rfl, ?_⟩
    exact ((((X6.out.b.setCell (Nat.le_refl _) _).setCell (Nat.le_refl _) _).setCell (Nat.le_refl _) _).setCell (Nat.le_refl _) _).setCell (Nat.le_refl _) _

set_option maxRecDepth 100000 in
set_option maxHeartbeats 4000000 in
theorem cut_0E (s T1 T2 Wt : ByteArray) (neg bW : Bool) (w : World) (H1 : Hid (Cp w s T1 45 neg)) (H2 : Hid (Cd w T1 Wt T2)) (zW : Wt.toList.isEmpty = !bW) (H3 : Hid (Cp w T2 T2 46 false)) (zT : T2.toList.isEmpty = false) (y : Nat) (h0 : 0 < T2.size) (hxx : T2[0].toNat = y) (hy : y = 69) (R5 R6 X R7 : ByteArray) (ng bX bZ : Bool) (s1 : ∀ W, (Instr.slice 9 (.string T2) (some (.int .i64 1)) none none).run Tryz.prog W = .ok (.string R5) W) (H5 : Hid (Cs w R5 R6 ng)) (H6 : Hid (Cd w R6 X R7)) (zX : X.toList.isEmpty = !bX) (zZ : R7.toList.isEmpty = bZ) :
    Calls Tryz.prog 29 #[.string s] w (CuAns neg Wt e0 ng X (bW && bX && bZ) w) := by
  have HX := Lib.hid (Cx.new w)
  subst hy
  cases bW <;> cases bX <;> cases bZ
  all_goals
    go_enter Tryz.func29, Tryz.ntmps29
    go_wp2_with fail
    refine (H1.out _ _ _ _ _ _ HX.out).mono ?_
    rintro e w1 ⟨rfl, hx⟩
    have X1 := Lib.hid (hx.put0 (.bool neg))
    have f0 := hx.marks.1
    have c0 := hx.cells.1
    clear hx
    go_wp2_with fail
    refine (H2.out _ _ _ _ _ _ X1.out).mono ?_
    rintro e w2 ⟨rfl, hx⟩
    have X2 := Lib.hid (hx.put1 (.string Wt))
    have f1 := hx.marks.2.1
    have c1 := hx.cells.2.1
    clear hx f0 c0
    go_wp2_with fail
    refine (H3.out _ _ _ _ _ _ X2.out).mono ?_
    rintro e w3 ⟨rfl, hx⟩
    clear f1 c1
    have X3 := Lib.hid hx
    clear hx
    go_wp2_with fail
    refine (H5.out _ _ _ _ _ _ X3.out).mono ?_
    rintro e w5 ⟨rfl, hx⟩
    skip
    have X5 := Lib.hid (hx.put3 (.bool ng))
    have f3 := hx.marks.2.2.2.1
    have c3 := hx.cells.2.2.2.1
    clear hx
    go_wp2_with fail
    refine (H6.out _ _ _ _ _ _ X5.out).mono ?_
    rintro e w6 ⟨rfl, hx⟩
    clear f3 c3
    have X6 := Lib.hid (hx.put4 (.string X))
    have f4 := hx.marks.2.2.2.2
    obtain ⟨c0, c1, c2, c3, c4⟩ := hx.cells
    obtain ⟨r0, r1, r2, r3, r4⟩ := hx.rcells
    obtain ⟨m0, m1, m2, m3, m4⟩ := hx.rmarks
    clear hx
    go_wp2_with fail
    first
      | refine bodyPost_ret (v := .tuple #[.agg #[.bool neg, .string Wt, .string e0, .bool ng, .string X], .bool false]) (by simp [results, Tryz.results29, go_sem, r0, r1, r2, r3, r4]) rfl ⟨rfl, ?_⟩
      | refine bodyPost_ret (v := .tuple #[.agg #[.bool neg, .string Wt, .string e0, .bool ng, .string X], .bool true]) (by simp [results, Tryz.results29, go_sem, r0, r1, r2, r3, r4]) rfl ⟨rfl, ?_⟩
    exact ((((X6.out.b.setCell (Nat.le_refl _) _).setCell (Nat.le_refl _) _).setCell (Nat.le_refl _) _).setCell (Nat.le_refl _) _).setCell (Nat.le_refl _) _

set_option maxRecDepth 100000 in
set_option maxHeartbeats 4000000 in
theorem cut_1z (s T1 T2 Wt : ByteArray) (neg bW : Bool) (w : World) (H1 : Hid (Cp w s T1 45 neg)) (H2 : Hid (Cd w T1 Wt T2)) (zW : Wt.toList.isEmpty = !bW) (T3 F T4 : ByteArray) (bF : Bool) (H3 : Hid (Cp w T2 T3 46 true)) (H4 : Hid (Cd w T3 F T4)) (zF : F.toList.isEmpty = !bF) (zT : T4.toList.isEmpty = true) :
    Calls Tryz.prog 29 #[.string s] w (CuAns neg Wt F false e0 (bW && bF) w) := by
  have HX := Lib.hid (Cx.new w)
  cases bW <;> cases bF
  all_goals
    go_enter Tryz.func29, Tryz.ntmps29
    go_wp2_with fail
    refine (H1.out _ _ _ _ _ _ HX.out).mono ?_
    rintro e w1 ⟨rfl, hx⟩
    have X1 := Lib.hid (hx.put0 (.bool neg))
    have f0 := hx.marks.1
    have c0 := hx.cells.1
    clear hx
    go_wp2_with fail
    refine (H2.out _ _ _ _ _ _ X1.out).mono ?_
    rintro e w2 ⟨rfl, hx⟩
    have X2 := Lib.hid (hx.put1 (.string Wt))
    have f1 := hx.marks.2.1
    have c1 := hx.cells.2.1
    clear hx f0 c0
    go_wp2_with fail
    refine (H3.out _ _ _ _ _ _ X2.out).mono ?_
    rintro e w3 ⟨rfl, hx⟩
    clear f1 c1
    have X3 := Lib.hid hx
    clear hx
    go_wp2_with fail
    refine (H4.out _ _ _ _ _ _ X3.out).mono ?_
    rintro e w4 ⟨rfl, hx⟩
    have X4 := Lib.hid (hx.put2 (.string F))
    have f2 := hx.marks.2.2.1
    have c2 := hx.cells.2.2.1
    obtain ⟨c0, c1, _, c3, c4⟩ := hx.cells
    obtain ⟨r0, r1, r2, r3, r4⟩ := hx.rcells
    obtain ⟨m0, m1, m2, m3, m4⟩ := hx.rmarks
    clear hx
    go_wp2_with fail
    first
      | refine bodyPost_ret (v := .tuple #[.agg #[.bool neg, .string Wt, .string F, .bool false, .string e0], .bool false]) (by simp [results, Tryz.results29, go_sem, r0, r1, r2, r3, r4]) rfl ⟨rfl, ?_⟩
      | refine bodyPost_ret (v := .tuple #[.agg #[.bool neg, .string Wt, .string F, .bool false, .string e0], .bool true]) (by simp [results, Tryz.results29, go_sem, r0, r1, r2, r3, r4]) rfl ⟨rfl, ?_⟩
    exact ((((X4.out.b.setCell (Nat.le_refl _) _).setCell (Nat.le_refl _) _).setCell (Nat.le_refl _) _).setCell (Nat.le_refl _) _).setCell (Nat.le_refl _) _

set_option maxRecDepth 100000 in
set_option maxHeartbeats 4000000 in
theorem cut_1o (s T1 T2 Wt : ByteArray) (neg bW : Bool) (w : World) (H1 : Hid (Cp w s T1 45 neg)) (H2 : Hid (Cd w T1 Wt T2)) (zW : Wt.toList.isEmpty = !bW) (T3 F T4 : ByteArray) (bF : Bool) (H3 : Hid (Cp w T2 T3 46 true)) (H4 : Hid (Cd w T3 F T4)) (zF : F.toList.isEmpty = !bF) (zT : T4.toList.isEmpty = false) (y : Nat) (h0 : 0 < T4.size) (hxx : T4[0].toNat = y) (n1 : ((y : Int) == 101) = false) (n2 : ((y : Int) == 69) = false) :
    Calls Tryz.prog 29 #[.string s] w (CuAns neg Wt F false e0 (false) w) := by
  have HX := Lib.hid (Cx.new w)
  cases bW <;> cases bF
  all_goals
    go_enter Tryz.func29, Tryz.ntmps29
    go_wp2_with fail
    refine (H1.out _ _ _ _ _ _ HX.out).mono ?_
    rintro e w1 ⟨rfl, hx⟩
    have X1 := Lib.hid (hx.put0 (.bool neg))
    have f0 := hx.marks.1
    have c0 := hx.cells.1
    clear hx
    go_wp2_with fail
    refine (H2.out _ _ _ _ _ _ X1.out).mono ?_
    rintro e w2 ⟨rfl, hx⟩
    have X2 := Lib.hid (hx.put1 (.string Wt))
    have f1 := hx.marks.2.1
    have c1 := hx.cells.2.1
    clear hx f0 c0
    go_wp2_with fail
    refine (H3.out _ _ _ _ _ _ X2.out).mono ?_
    rintro e w3 ⟨rfl, hx⟩
    clear f1 c1
    have X3 := Lib.hid hx
    clear hx
    go_wp2_with fail
    refine (H4.out _ _ _ _ _ _ X3.out).mono ?_
    rintro e w4 ⟨rfl, hx⟩
    have X4 := Lib.hid (hx.put2 (.string F))
    have f2 := hx.marks.2.2.1
    have c2 := hx.cells.2.2.1
    obtain ⟨c0, c1, _, c3, c4⟩ := hx.cells
    obtain ⟨r0, r1, r2, r3, r4⟩ := hx.rcells
    obtain ⟨m0, m1, m2, m3, m4⟩ := hx.rmarks
    clear hx
    go_wp2_with fail
    first
      | refine bodyPost_ret (v := .tuple #[.agg #[.bool neg, .string Wt, .string F, .bool false, .string e0], .bool false]) (by simp [results, Tryz.results29, go_sem, r0, r1, r2, r3, r4]) rfl ⟨rfl, ?_⟩
      | refine bodyPost_ret (v := .tuple #[.agg #[.bool neg, .string Wt, .string F, .bool false, .string e0], .bool true]) (by simp [results, Tryz.results29, go_sem, r0, r1, r2, r3, r4]) rfl ⟨rfl, ?_⟩
    exact ((((X4.out.b.setCell (Nat.le_refl _) _).setCell (Nat.le_refl _) _).setCell (Nat.le_refl _) _).setCell (Nat.le_refl _) _).setCell (Nat.le_refl _) _

set_option maxRecDepth 100000 in
set_option maxHeartbeats 4000000 in
theorem cut_1e (s T1 T2 Wt : ByteArray) (neg bW : Bool) (w : World) (H1 : Hid (Cp w s T1 45 neg)) (H2 : Hid (Cd w T1 Wt T2)) (zW : Wt.toList.isEmpty = !bW) (T3 F T4 : ByteArray) (bF : Bool) (H3 : Hid (Cp w T2 T3 46 true)) (H4 : Hid (Cd w T3 F T4)) (zF : F.toList.isEmpty = !bF) (zT : T4.toList.isEmpty = false) (y : Nat) (h0 : 0 < T4.size) (hxx : T4[0].toNat = y) (hy : y = 101) (R5 R6 X R7 : ByteArray) (ng bX bZ : Bool) (s1 : ∀ W, (Instr.slice 9 (.string T4) (some (.int .i64 1)) none none).run Tryz.prog W = .ok (.string R5) W) (H5 : Hid (Cs w R5 R6 ng)) (H6 : Hid (Cd w R6 X R7)) (zX : X.toList.isEmpty = !bX) (zZ : R7.toList.isEmpty = bZ) :
    Calls Tryz.prog 29 #[.string s] w (CuAns neg Wt F ng X (bW && bF && bX && bZ) w) := by
  have HX := Lib.hid (Cx.new w)
  subst hy
  cases bW <;> cases bF <;> cases bX <;> cases bZ
  all_goals
    go_enter Tryz.func29, Tryz.ntmps29
    go_wp2_with fail
    refine (H1.out _ _ _ _ _ _ HX.out).mono ?_
    rintro e w1 ⟨rfl, hx⟩
    have X1 := Lib.hid (hx.put0 (.bool neg))
    have f0 := hx.marks.1
    have c0 := hx.cells.1
    clear hx
    go_wp2_with fail
    refine (H2.out _ _ _ _ _ _ X1.out).mono ?_
    rintro e w2 ⟨rfl, hx⟩
    have X2 := Lib.hid (hx.put1 (.string Wt))
    have f1 := hx.marks.2.1
    have c1 := hx.cells.2.1
    clear hx f0 c0
    go_wp2_with fail
    refine (H3.out _ _ _ _ _ _ X2.out).mono ?_
    rintro e w3 ⟨rfl, hx⟩
    clear f1 c1
    have X3 := Lib.hid hx
    clear hx
    go_wp2_with fail
    refine (H4.out _ _ _ _ _ _ X3.out).mono ?_
    rintro e w4 ⟨rfl, hx⟩
    have X4 := Lib.hid (hx.put2 (.string F))
    have f2 := hx.marks.2.2.1
    have c2 := hx.cells.2.2.1
    clear hx
    go_wp2_with fail
    refine (H5.out _ _ _ _ _ _ X4.out).mono ?_
    rintro e w5 ⟨rfl, hx⟩
    clear f2 c2
    have X5 := Lib.hid (hx.put3 (.bool ng))
    have f3 := hx.marks.2.2.2.1
    have c3 := hx.cells.2.2.2.1
    clear hx
    go_wp2_with fail
    refine (H6.out _ _ _ _ _ _ X5.out).mono ?_
    rintro e w6 ⟨rfl, hx⟩
    clear f3 c3
    have X6 := Lib.hid (hx.put4 (.string X))
    have f4 := hx.marks.2.2.2.2
    obtain ⟨c0, c1, c2, c3, c4⟩ := hx.cells
    obtain ⟨r0, r1, r2, r3, r4⟩ := hx.rcells
    obtain ⟨m0, m1, m2, m3, m4⟩ := hx.rmarks
    clear hx
    go_wp2_with fail
    first
      | refine bodyPost_ret (v := .tuple #[.agg #[.bool neg, .string Wt, .string F, .bool ng, .string X], .bool false]) (by simp [results, Tryz.results29, go_sem, r0, r1, r2, r3, r4]) rfl ⟨rfl, ?_⟩
      | refine bodyPost_ret (v := .tuple #[.agg #[.bool neg, .string Wt, .string F, .bool ng, .string X], .bool true]) (by simp [results, Tryz.results29, go_sem, r0, r1, r2, r3, r4]) rfl ⟨rfl, ?_⟩
    exact ((((X6.out.b.setCell (Nat.le_refl _) _).setCell (Nat.le_refl _) _).setCell (Nat.le_refl _) _).setCell (Nat.le_refl _) _).setCell (Nat.le_refl _) _

set_option maxRecDepth 100000 in
set_option maxHeartbeats 4000000 in
theorem cut_1E (s T1 T2 Wt : ByteArray) (neg bW : Bool) (w : World) (H1 : Hid (Cp w s T1 45 neg)) (H2 : Hid (Cd w T1 Wt T2)) (zW : Wt.toList.isEmpty = !bW) (T3 F T4 : ByteArray) (bF : Bool) (H3 : Hid (Cp w T2 T3 46 true)) (H4 : Hid (Cd w T3 F T4)) (zF : F.toList.isEmpty = !bF) (zT : T4.toList.isEmpty = false) (y : Nat) (h0 : 0 < T4.size) (hxx : T4[0].toNat = y) (hy : y = 69) (R5 R6 X R7 : ByteArray) (ng bX bZ : Bool) (s1 : ∀ W, (Instr.slice 9 (.string T4) (some (.int .i64 1)) none none).run Tryz.prog W = .ok (.string R5) W) (H5 : Hid (Cs w R5 R6 ng)) (H6 : Hid (Cd w R6 X R7)) (zX : X.toList.isEmpty = !bX) (zZ : R7.toList.isEmpty = bZ) :
    Calls Tryz.prog 29 #[.string s] w (CuAns neg Wt F ng X (bW && bF && bX && bZ) w) := by
  have HX := Lib.hid (Cx.new w)
  subst hy
  cases bW <;> cases bF <;> cases bX <;> cases bZ
  all_goals
    go_enter Tryz.func29, Tryz.ntmps29
    go_wp2_with fail
    refine (H1.out _ _ _ _ _ _ HX.out).mono ?_
    rintro e w1 ⟨rfl, hx⟩
    have X1 := Lib.hid (hx.put0 (.bool neg))
    have f0 := hx.marks.1
    have c0 := hx.cells.1
    clear hx
    go_wp2_with fail
    refine (H2.out _ _ _ _ _ _ X1.out).mono ?_
    rintro e w2 ⟨rfl, hx⟩
    have X2 := Lib.hid (hx.put1 (.string Wt))
    have f1 := hx.marks.2.1
    have c1 := hx.cells.2.1
    clear hx f0 c0
    go_wp2_with fail
    refine (H3.out _ _ _ _ _ _ X2.out).mono ?_
    rintro e w3 ⟨rfl, hx⟩
    clear f1 c1
    have X3 := Lib.hid hx
    clear hx
    go_wp2_with fail
    refine (H4.out _ _ _ _ _ _ X3.out).mono ?_
    rintro e w4 ⟨rfl, hx⟩
    have X4 := Lib.hid (hx.put2 (.string F))
    have f2 := hx.marks.2.2.1
    have c2 := hx.cells.2.2.1
    clear hx
    go_wp2_with fail
    refine (H5.out _ _ _ _ _ _ X4.out).mono ?_
    rintro e w5 ⟨rfl, hx⟩
    clear f2 c2
    have X5 := Lib.hid (hx.put3 (.bool ng))
    have f3 := hx.marks.2.2.2.1
    have c3 := hx.cells.2.2.2.1
    clear hx
    go_wp2_with fail
    refine (H6.out _ _ _ _ _ _ X5.out).mono ?_
    rintro e w6 ⟨rfl, hx⟩
    clear f3 c3
    have X6 := Lib.hid (hx.put4 (.string X))
    have f4 := hx.marks.2.2.2.2
    obtain ⟨c0, c1, c2, c3, c4⟩ := hx.cells
    obtain ⟨r0, r1, r2, r3, r4⟩ := hx.rcells
    obtain ⟨m0, m1, m2, m3, m4⟩ := hx.rmarks
    clear hx
    go_wp2_with fail
    first
      | refine bodyPost_ret (v := .tuple #[.agg #[.bool neg, .string Wt, .string F, .bool ng, .string X], .bool false]) (by simp [results, Tryz.results29, go_sem, r0, r1, r2, r3, r4]) rfl ⟨rfl, ?_⟩
      | refine bodyPost_ret (v := .tuple #[.agg #[.bool neg, .string Wt, .string F, .bool ng, .string X], .bool true]) (by simp [results, Tryz.results29, go_sem, r0, r1, r2, r3, r4]) rfl ⟨rfl, ?_⟩
    exact ((((X6.out.b.setCell (Nat.le_refl _) _).setCell (Nat.le_refl _) _).setCell (Nat.le_refl _) _).setCell (Nat.le_refl _) _).setCell (Nat.le_refl _) _

end Go.Proofs.YtcndkhgbgjnclaaGreatDoor.nn
/- The real fdec: cut. -/
namespace Go.Proofs.YtcndkhgbgjnclaaGreatDoor.nn
open Go.RowKit

theorem sfx_empty {s : ByteArray} {a : Nat} (ha : a ≤ s.size) : (sfx s a).toList.isEmpty = decide (a = s.size) := by
  rw [empty_of, sfx_size]
  congr 1
  exact propext (by omega)
theorem cutT_empty {s : ByteArray} {a k : Nat} (h : a + k ≤ s.size) : (cutT s a (a + k)).toList.isEmpty = !decide (0 < k) := by
  rw [empty_of, cutT_size h, ← decide_not]
  congr 1
  exact propext (by omega)
theorem cp_of (w : World) (s : ByteArray) (a : Nat) (c : UInt8) (hs : s.size ≤ maxLen) (ha : a ≤ s.size) : Hid (Cp w (sfx s a) (sfx s (if at_ s a c.toNat then a + 1 else a)) c (at_ s a c.toNat)) := Lib.hid fun a1 a2 a3 a4 a5 W hx => by
  refine (cutPrefix_at s a c W hs ha).mono ?_
  rintro e w' ⟨rfl, rfl⟩
  exact ⟨rfl, hx⟩
theorem cd_of (w : World) (s : ByteArray) (a : Nat) (hs : s.size ≤ maxLen) (ha : a ≤ s.size) : Hid (Cd w (sfx s a) (cutT s a (a + rn s a)) (sfx s (a + rn s a))) := Lib.hid fun a1 a2 a3 a4 a5 W hx => by
  refine (cutDigits_at s a W hs ha).mono ?_
  rintro e w' ⟨rfl, j, rfl⟩
  exact ⟨rfl, hx.on (drew_below (Below.refl _ _) j)⟩
theorem cs_of (w : World) (s : ByteArray) (a : Nat) (hs : s.size ≤ maxLen) (ha : a ≤ s.size) : Hid (Cs w (sfx s a) (sfx s (sgA s a)) (sgB s a)) := Lib.hid fun a1 a2 a3 a4 a5 W hx => by
  refine (cutSign_at s a W hs ha).mono ?_
  rintro e w' ⟨rfl, rfl⟩
  exact ⟨rfl, hx⟩
theorem first_of {s : ByteArray} {a : Nat} (ha : a < s.size) : ∃ h : 0 < (sfx s a).size, (sfx s a)[0].toNat = bt s a := by
  have h1 : 0 < (sfx s a).size := by rw [sfx_size]; omega
  refine ⟨h1, ?_⟩
  rw [← bt_at h1, bt_sfx (by omega), Nat.add_zero]
theorem at_no {s : ByteArray} {a c : Nat} (ha : a < s.size) (h : at_ s a c = false) : ((bt s a : Int) == (c : Int)) = false := by
  have := of_decide_eq_false h
  rw [beq_eq_false_iff_ne]
  intro g
  exact this ⟨ha, by omega⟩

theorem cut_any (s : ByteArray) (w : World) (hs : s.size ≤ maxLen) :
    Calls Tryz.prog 29 #[.string s] w (CuAns (at_ s 0 45) (cW s) (cF s) (cN s) (cX s) (cOk s) w) := by
  have a1 := cA_le s
  have a2 := cB_le s
  have a3 := cC_le s
  have a4 := cD_le s
  have H1 := cp_of w s 0 45 hs (Nat.zero_le _)
  rw [sfx_zero, show (45 : UInt8).toNat = 45 from rfl] at H1
  have e1 : (if at_ s 0 45 = true then 0 + 1 else 0) = cA s := by unfold cA; split <;> rfl
  rw [e1] at H1
  have H2 := cd_of w s (cA s) hs a1
  rw [show cA s + rn s (cA s) = cB s from rfl, show cutT s (cA s) (cB s) = cW s from rfl] at H2
  have zW : (cW s).toList.isEmpty = !decide (0 < rn s (cA s)) := cutT_empty a2
  have H3 := cp_of w s (cB s) 46 hs a2
  rw [show (46 : UInt8).toNat = 46 from rfl] at H3
  have e3 : at_ s (cB s) 46 = cDot s := rfl
  rw [e3] at H3
  have s1 : cE s = true → ∀ W, (Instr.slice 9 (.string (sfx s (cC s))) (some (.int .i64 1)) none none).run Tryz.prog W = .ok (.string (sfx s (cC s + 1))) W := fun hE W => by
    have h1 := cE_lt hE
    rw [run_slice_string_l (w := W) (s := sfx s (cC s)) (ht := Tryz.underlying9) (h0 := by omega) (h1 := by rw [sfx_size]; omega), show (1 : Int).toNat = 1 from rfl, sfx_sfx h1]
  have hE5 : cE s = true → Hid (Cs w (sfx s (cC s + 1)) (sfx s (cS s)) (sgB s (cC s + 1))) := fun hE => cs_of w s _ hs (cE_lt hE)
  have hE6 : cE s = true → Hid (Cd w (sfx s (cS s)) (cX s) (sfx s (cD s))) ∧ (cX s).toList.isEmpty = (!decide (0 < rn s (cS s))) := fun hE => by
    have h1 := (sgA_le (cE_lt hE)).2
    have h2 := cd_of w s (cS s) hs h1
    have h3 : cX s = cutT s (cS s) (cD s) := if_pos hE
    have h4 : cD s = cS s + rn s (cS s) := if_pos hE
    rw [h3, h4]
    have := rn_le s (cS s)
    exact ⟨h2, cutT_empty (by unfold cS at *; omega)⟩
  have zZ : (sfx s (cD s)).toList.isEmpty = decide (cD s = s.size) := sfx_empty a4
  have cas : cE s = true → cC s < s.size ∧ (bt s (cC s) = 101 ∨ bt s (cC s) = 69) := fun hE => by
    unfold cE at hE
    rw [Bool.or_eq_true] at hE
    rcases hE with h | h
    · exact ⟨(at_le h).1, .inl (at_le h).2⟩
    · exact ⟨(at_le h).1, .inr (at_le h).2⟩
  have eE : cE s = false → cN s = false ∧ cX s = e0 ∧ cD s = cC s := fun h => ⟨if_neg (by rw [h]; decide), if_neg (by rw [h]; decide), if_neg (by rw [h]; decide)⟩
  have tE : cE s = true → cN s = sgB s (cC s + 1) := fun h => if_pos h
  cases hd : cDot s with
  | false =>
    rw [hd, if_neg (by decide)] at H3
    have eC : cC s = cB s := if_neg (by rw [hd]; decide)
    have eF : cF s = e0 := if_neg (by rw [hd]; decide)
    rw [eF]
    cases hE : cE s with
    | false =>
      obtain ⟨n1, n2, n3⟩ := eE hE
      rw [n1, n2]
      by_cases hz : cB s = s.size
      · have := cut_0z s _ _ _ _ _ w H1 H2 zW H3 (by rw [sfx_empty a2]; exact decide_eq_true hz)
        have hok : cOk s = decide (0 < rn s (cA s)) := by unfold cOk; rw [hd, hE, n3, eC, decide_eq_true hz]; simp
        rw [hok]
        exact this
      · have hlt : cB s < s.size := by omega
        obtain ⟨h0, h1⟩ := first_of hlt
        have hE' := hE
        unfold cE at hE'
        rw [Bool.or_eq_false_iff, eC] at hE'
        have := cut_0o s _ _ _ _ _ w H1 H2 zW H3 (by rw [sfx_empty a2]; exact decide_eq_false hz) _ h0 h1 (at_no hlt hE'.1) (at_no hlt hE'.2)
        have hok : cOk s = false := by unfold cOk; rw [n3, eC, decide_eq_false hz]; simp
        rw [hok]
        exact this
    | true =>
      obtain ⟨hlt, hy⟩ := cas hE
      obtain ⟨h6, zX⟩ := hE6 hE
      obtain ⟨h0, h1⟩ := first_of (show cB s < s.size by rw [← eC]; exact hlt)
      have hok : cOk s = (decide (0 < rn s (cA s)) && decide (0 < rn s (cS s)) && decide (cD s = s.size)) := by unfold cOk; rw [hd, hE]; simp
      rw [hok, tE hE]
      have hne : (sfx s (cB s)).toList.isEmpty = false := by rw [sfx_empty a2, ← eC]; exact decide_eq_false (by omega)
      have h5 := hE5 hE
      have sl := s1 hE
      rw [eC] at hy sl h5 ⊢
      rcases hy with hy | hy
      · exact cut_0e s _ _ _ _ _ w H1 H2 zW H3 hne _ h0 h1 hy _ _ _ _ _ _ _ sl h5 h6 zX zZ
      · exact cut_0E s _ _ _ _ _ w H1 H2 zW H3 hne _ h0 h1 hy _ _ _ _ _ _ _ sl h5 h6 zX zZ
  | true =>
    rw [hd, if_pos rfl] at H3
    have hb1 := a3.2 hd
    have eC : cC s = cB s + 1 + rn s (cB s + 1) := if_pos hd
    have eF : cF s = cutT s (cB s + 1) (cC s) := if_pos hd
    have H4 := cd_of w s (cB s + 1) hs hb1
    rw [← eC] at H4
    have zF : (cutT s (cB s + 1) (cC s)).toList.isEmpty = !decide (0 < rn s (cB s + 1)) := by
      have := a3.1
      rw [eC] at this ⊢
      exact cutT_empty this
    rw [← eF] at H4 zF
    cases hE : cE s with
    | false =>
      obtain ⟨n1, n2, n3⟩ := eE hE
      rw [n1, n2]
      by_cases hz : cC s = s.size
      · have := cut_1z s _ _ _ _ _ w H1 H2 zW _ _ _ _ H3 H4 zF (by rw [sfx_empty a3.1]; exact decide_eq_true hz)
        have hok : cOk s = (decide (0 < rn s (cA s)) && decide (0 < rn s (cB s + 1))) := by unfold cOk; rw [hd, hE, n3, decide_eq_true hz]; simp
        rw [hok]
        exact this
      · have hlt : cC s < s.size := by have := a3.1; omega
        obtain ⟨h0, h1⟩ := first_of hlt
        have hE' := hE
        unfold cE at hE'
        rw [Bool.or_eq_false_iff] at hE'
        have := cut_1o s _ _ _ _ _ w H1 H2 zW _ _ _ _ H3 H4 zF (by rw [sfx_empty a3.1]; exact decide_eq_false hz) _ h0 h1 (at_no hlt hE'.1) (at_no hlt hE'.2)
        have hok : cOk s = false := by unfold cOk; rw [n3, decide_eq_false hz]; simp
        rw [hok]
        exact this
    | true =>
      obtain ⟨hlt, hy⟩ := cas hE
      obtain ⟨h6, zX⟩ := hE6 hE
      obtain ⟨h0, h1⟩ := first_of hlt
      have hok : cOk s = (decide (0 < rn s (cA s)) && decide (0 < rn s (cB s + 1)) && decide (0 < rn s (cS s)) && decide (cD s = s.size)) := by unfold cOk; rw [hd, hE]; simp
      rw [hok, tE hE]
      have hne : (sfx s (cC s)).toList.isEmpty = false := by rw [sfx_empty a3.1]; exact decide_eq_false (by omega)
      have h5 := hE5 hE
      have sl := s1 hE
      rcases hy with hy | hy
      · exact cut_1e s _ _ _ _ _ w H1 H2 zW _ _ _ _ H3 H4 zF hne _ h0 h1 hy _ _ _ _ _ _ _ sl h5 h6 zX zZ
      · exact cut_1E s _ _ _ _ _ w H1 H2 zW _ _ _ _ H3 H4 zF hne _ h0 h1 hy _ _ _ _ _ _ _ sl h5 h6 zX zZ
end Go.Proofs.YtcndkhgbgjnclaaGreatDoor.nn
/- The real fdec: Scan. -/
namespace Go.Proofs.YtcndkhgbgjnclaaGreatDoor.nn
open Go.RowKit

/-! what a text says -/
def scD (s : ByteArray) : ByteArray := cW s ++ cF s
def scZ (s : ByteArray) : Int := plZ (cN s) (cX s) (cF s)
def scLong (s : ByteArray) : Prop := 800 < (cW s).size + (cF s).size ∨ 4 < (cX s).size
def scNeg (s : ByteArray) : Bool := at_ s 0 45
def scN (s : ByteArray) : Nat := dv (bt (scD s)) (scD s).size
def ScIs (s : ByteArray) (V E : Nat) : Prop :=
  (cOk s = false ∧ V = 0 ∧ E = 4) ∨ (cOk s = true ∧ scLong s ∧ V = 0 ∧ E = 2) ∨
  (cOk s = true ∧ ¬ scLong s ∧ (scN s = 0 ∨ scZ s < -2000) ∧ V = sB (scNeg s) ∧ E = 0) ∨
  (cOk s = true ∧ ¬ scLong s ∧ scN s ≠ 0 ∧ 2000 < scZ s ∧ V = 0 ∧ E = 8) ∨
  (cOk s = true ∧ ¬ scLong s ∧ scN s ≠ 0 ∧ -2000 ≤ scZ s ∧ scZ s ≤ 2000 ∧ ∃ b, RN (scD s) (scZ s) b ∧ V = roV (scNeg s) b ∧ E = roE b)
theorem ScIs.uniq {s : ByteArray} {V E V' E' : Nat} (h : ScIs s V E) (h' : ScIs s V' E') : V = V' ∧ E = E' := by
  rcases h with ⟨a1, a2, a3⟩ | ⟨a1, a2, a3, a4⟩ | ⟨a1, a2, a3, a4, a5⟩ | ⟨a1, a2, a3, a4, a5, a6⟩ | ⟨a1, a2, a3, a4, a5, b, hb, a6, a7⟩ <;>
  rcases h' with ⟨b1, b2, b3⟩ | ⟨b1, b2, b3, b4⟩ | ⟨b1, b2, b3, b4, b5⟩ | ⟨b1, b2, b3, b4, b5, b6⟩ | ⟨b1, b2, b3, b4, b5, b', hb', b6, b7⟩
  all_goals first
    | exact ⟨a2.trans b2.symm, a3.trans b3.symm⟩
    | exact ⟨a3.trans b3.symm, a4.trans b4.symm⟩
    | exact ⟨a4.trans b4.symm, a5.trans b5.symm⟩
    | exact ⟨a5.trans b5.symm, a6.trans b6.symm⟩
    | (have e := near_uniq (rY_pos _) hb hb'; subst e; exact ⟨a6.trans b6.symm, a7.trans b7.symm⟩)
    | (exfalso; rw [a1] at b1; cases b1; done)
    | (exfalso; exact a2 b2)
    | (exfalso; exact b2 a2)
    | (exfalso; omega)

/-- the digits are digits, few, and at least one -/
theorem sc_facts {s : ByteArray} (hok : cOk s = true) (hl : ¬ scLong s) : (scD s).size ≤ 800 ∧ 0 < (scD s).size ∧ dgs (bt (scD s)) (scD s).size = true ∧ (cX s).size ≤ 4 ∧ dgs (bt (cX s)) (cX s).size = true ∧ (cF s).size ≤ 800 ∧ (cW s).size ≤ 800 ∧ (scD s).size = (cW s).size + (cF s).size := by
  have a1 := cA_le s
  have a2 := cB_le s
  have a3 := cC_le s
  have a4 := cD_le s
  unfold scLong at hl
  have hw : (cW s).size = rn s (cA s) := by unfold cW; rw [cutT_size a2]; unfold cB; omega
  have hpos : 0 < rn s (cA s) := by
    unfold cOk at hok
    simp only [Bool.and_eq_true, decide_eq_true_eq] at hok
    exact hok.1.1.1
  have dW : dgs (bt (cW s)) (cW s).size = true := by rw [hw]; exact rn_dgs a1
  have dF : dgs (bt (cF s)) (cF s).size = true := by
    unfold cF
    cases h : cDot s with
    | false => rw [if_neg (by decide)]; rfl
    | true =>
      rw [if_pos rfl]
      have e : cC s = cB s + 1 + rn s (cB s + 1) := if_pos h
      have := rn_dgs (a3.2 h)
      rw [← e] at this
      rw [cutT_size a3.1, e, Nat.add_sub_cancel_left, ← e]
      exact this
  have dX : dgs (bt (cX s)) (cX s).size = true := by
    unfold cX
    cases h : cE s with
    | false => rw [if_neg (by decide)]; rfl
    | true =>
      rw [if_pos rfl]
      have e : cD s = cS s + rn s (cS s) := if_pos h
      have h1 := (sgA_le (cE_lt h)).2
      have := rn_dgs h1
      have e2 : sgA s (cC s + 1) = cS s := rfl
      rw [e2, ← e] at this
      rw [cutT_size a4, e, Nat.add_sub_cancel_left, ← e]
      exact this
  have hsz2 : (scD s).size = (cW s).size + (cF s).size := ByteArray.size_append
  have := (app_num dW dF).1
  exact ⟨by omega, by omega, this, by omega, dX, by omega, by omega, hsz2⟩
theorem dw_nil (p : UInt8 → Bool) (l : List UInt8) : l.dropWhile p = [] ↔ ∀ x ∈ l, p x = true := by
  induction l with
  | nil => simp
  | cons a l ih =>
    rw [List.dropWhile_cons]
    cases h : p a with
    | true => rw [if_pos rfl, ih]; simp [h]
    | false => rw [if_neg (by decide)]; simp [h]
theorem dw_head (p : UInt8 → Bool) (l : List UInt8) (h : ∀ x ∈ l.dropWhile p, p x = true) : l.dropWhile p = [] := by
  induction l with
  | nil => rfl
  | cons a l ih =>
    rw [List.dropWhile_cons] at h ⊢
    cases hp : p a with
    | true => rw [hp, if_pos rfl] at h; rw [if_pos rfl]; exact ih h
    | false =>
      rw [hp, if_neg (by decide)] at h
      have := h a List.mem_cons_self
      rw [hp] at this
      cases this
/-- trimmed of 0, nothing is left just of 0 -/
theorem trim_zero {d : ByteArray} (hd : dgs (bt d) d.size = true) : (⟨(Lib.trimB d.data.toList 48).toArray⟩ : ByteArray).toList.isEmpty = decide (dv (bt d) d.size = 0) := by
  have key : Lib.trimB d.data.toList 48 = [] ↔ ∀ i, i < d.size → bt d i = 48 := by
    have hmem : (∀ x ∈ d.data.toList, x = 48) ↔ ∀ i, i < d.size → bt d i = 48 := by
      constructor
      · intro h i hi
        rw [bt_at hi]
        have : d[i] ∈ d.data.toList := by
          show d.data[i] ∈ d.data.toList
          simp
        rw [h _ this]
        rfl
      · intro h x hx
        obtain ⟨i, hi, rfl⟩ := List.mem_iff_getElem.1 hx
        have h2 : i < d.size := by simpa using hi
        have := h i h2
        rw [bt_at h2] at this
        exact UInt8.toNat_inj.1 this
    rw [← hmem]
    unfold Lib.trimB Lib.trimLeftB Lib.trimRightB
    constructor
    · intro h
      have h2 := (dw_nil _ _).1 h
      have h3 : d.data.toList.reverse.dropWhile (· == 48) = [] := dw_head _ _ (fun x hx => h2 x (List.mem_reverse.2 hx))
      intro x hx
      exact beq_iff_eq.1 ((dw_nil _ _).1 h3 x (List.mem_reverse.2 hx))
    · intro h
      have h3 : d.data.toList.reverse.dropWhile (· == 48) = [] := (dw_nil _ _).2 (fun x hx => beq_iff_eq.2 (h x (List.mem_reverse.1 hx)))
      rw [h3]
      rfl
  have dvz : dv (bt d) d.size = 0 ↔ ∀ i, i < d.size → bt d i = 48 := by
    have : ∀ n, n ≤ d.size → (dv (bt d) n = 0 ↔ ∀ i, i < n → bt d i = 48) := by
      intro n
      induction n with
      | zero => exact fun _ => ⟨fun _ i hi => by omega, fun _ => rfl⟩
      | succ n ih =>
        intro hn
        have hdn := dgs_at hd (show n < d.size by omega)
        rw [dv]
        constructor
        · intro h i hi
          by_cases e : i = n
          · subst e; omega
          · exact (ih (by omega)).1 (by omega) i (by omega)
        · intro h
          have h1 := (ih (by omega)).2 (fun i hi => h i (by omega))
          have h2 := h n (by omega)
          omega
    exact this _ (Nat.le_refl _)
  rw [ByteArray.toList_eq]
  by_cases h : dv (bt d) d.size = 0
  · rw [decide_eq_true h]
    have h2 := key.2 (dvz.1 h)
    show (Lib.trimB d.data.toList 48).isEmpty = true
    rw [h2]; rfl
  · rw [decide_eq_false h]
    show (Lib.trimB d.data.toList 48).isEmpty = false
    cases hl : Lib.trimB d.data.toList 48 with
    | nil => exact absurd (dvz.2 (key.1 hl)) h
    | cons a l => rfl
end Go.Proofs.YtcndkhgbgjnclaaGreatDoor.nn
/- The real fdec: the places of a text that Text tells (plain). -/
namespace Go.Proofs.YtcndkhgbgjnclaaGreatDoor.nn
open Go.RowKit

theorem rn_is {s : ByteArray} {a k : Nat} (h1 : a + k ≤ s.size) (hd : ∀ i, i < k → 48 ≤ bt s (a + i) ∧ bt s (a + i) ≤ 57) (he : a + k = s.size ∨ bt s (a + k) < 48 ∨ 57 < bt s (a + k)) : rn s a = k := by
  obtain ⟨c1, c2, c3⟩ := dc_facts (fun i => bt s (a + i)) (s.size - a)
  unfold rn
  obtain ⟨r, hr⟩ : ∃ r, dc (fun i => bt s (a + i)) (s.size - a) = r := ⟨_, rfl⟩
  rw [hr] at c1 c2 c3 ⊢
  rcases Nat.lt_trichotomy r k with g | g | g
  · exfalso
    rcases c3 with c3 | c3
    · omega
    · have := hd r g
      rw [show dg (bt s (a + r)) = true from decide_eq_true this] at c3
      cases c3
  · exact g
  · exfalso
    have := dgs_at c2 g
    have h5 : 48 ≤ bt s (a + k) ∧ bt s (a + k) ≤ 57 := this
    omega
theorem at_here {s : ByteArray} {a c : Nat} (h1 : a < s.size) (h2 : bt s a = c) : at_ s a c = true := decide_eq_true ⟨h1, h2⟩
theorem at_none {s : ByteArray} {a c : Nat} (h : s.size ≤ a ∨ bt s a ≠ c) : at_ s a c = false := decide_eq_false fun g => by rcases h with h | h; (omega); (exact h g.2)
/-- digits, a point and digits -/
theorem form_plain {T : ByteArray} {a w f : Nat} (ha : a = 0 ∨ (a = 1 ∧ bt T 0 = 45)) (hs : T.size = a + w + 1 + f) (hw : 0 < w) (hf : 0 < f) (dW : ∀ i, i < w → 48 ≤ bt T (a + i) ∧ bt T (a + i) ≤ 57) (hp : bt T (a + w) = 46)
    (dF : ∀ i, i < f → 48 ≤ bt T (a + w + 1 + i) ∧ bt T (a + w + 1 + i) ≤ 57) :
    cOk T = true ∧ cW T = cutT T a (a + w) ∧ cF T = cutT T (a + w + 1) T.size ∧ cX T = ⟨#[]⟩ ∧ cN T = false ∧ scNeg T = decide (a = 1) := by
  have eA : at_ T 0 45 = decide (a = 1) := by
    rcases ha with rfl | ⟨rfl, h⟩
    · exact at_none (.inr (by have := dW 0 hw; rw [Nat.add_zero] at this; omega))
    · exact at_here (by omega) h
  have hA : cA T = a := by unfold cA; rw [eA]; rcases ha with rfl | ⟨rfl, h⟩ <;> rfl
  have r1 : rn T a = w := rn_is (by omega) dW (.inr (.inl (by omega)))
  have hB : cB T = a + w := by unfold cB; rw [hA, r1]
  have hD : cDot T = true := by unfold cDot; rw [hB]; exact at_here (by omega) hp
  have r2 : rn T (a + w + 1) = f := rn_is (by omega) dF (.inl (by omega))
  have hC : cC T = T.size := by unfold cC; rw [if_pos hD, hB, r2]; omega
  have hE : cE T = false := by unfold cE; rw [hC, at_none (.inl (Nat.le_refl _)), at_none (.inl (Nat.le_refl _))]; rfl
  have hDd : cD T = T.size := by unfold cD; rw [hE, if_neg (by decide), hC]
  refine ⟨?_, ?_, ?_, ?_, ?_, eA⟩
  · unfold cOk
    rw [hA, r1, hD, hB, r2, hE, hDd]
    simp [hw, hf]
  · unfold cW; rw [hA, hB]
  · unfold cF; rw [if_pos hD, hB, hC]
  · unfold cX; rw [hE]; rfl
  · unfold cN; rw [hE]; rfl
/-- a digit, a point and digits or not, e, - or not, and digits -/
theorem form_exp {T : ByteArray} {a f x : Nat} {dot ng : Bool} (ha : a = 0 ∨ (a = 1 ∧ bt T 0 = 45)) {C S : Nat} (hC0 : C = if dot then a + 2 + f else a + 1) (hS0 : S = if ng then C + 2 else C + 1) (hs : T.size = S + x) (hx : 0 < x) (hf : dot = true → 0 < f)
    (dW : 48 ≤ bt T a ∧ bt T a ≤ 57) (hp : dot = true → bt T (a + 1) = 46) (dF : dot = true → ∀ i, i < f → 48 ≤ bt T (a + 2 + i) ∧ bt T (a + 2 + i) ≤ 57) (he : bt T C = 101) (hn : ng = true → bt T (C + 1) = 45)
    (dX : ∀ i, i < x → 48 ≤ bt T (S + i) ∧ bt T (S + i) ≤ 57) :
    cOk T = true ∧ cW T = cutT T a (a + 1) ∧ cF T = (if dot then cutT T (a + 2) (a + 2 + f) else ⟨#[]⟩) ∧ cX T = cutT T S T.size ∧ cN T = ng ∧ scNeg T = decide (a = 1) := by
  have hCS : C < T.size ∧ C + 1 ≤ S ∧ a + 1 ≤ C := by
    cases dot <;> cases ng <;> simp at hC0 hS0 <;> omega
  have eA : at_ T 0 45 = decide (a = 1) := by
    rcases ha with rfl | ⟨rfl, h⟩
    · exact at_none (.inr (by omega))
    · exact at_here (by omega) h
  have hA : cA T = a := by unfold cA; rw [eA]; rcases ha with rfl | ⟨rfl, h⟩ <;> rfl
  have r1 : rn T a = 1 := by
    refine rn_is (by omega) (fun i hi => by obtain rfl : i = 0 := (by omega); exact dW) (.inr ?_)
    cases dot with
    | true => have := hp rfl; omega
    | false => rw [if_neg (by decide)] at hC0; rw [← hC0, he]; omega
  have hB : cB T = a + 1 := by unfold cB; rw [hA, r1]
  have hD : cDot T = dot := by
    unfold cDot
    rw [hB]
    cases dot with
    | true => exact at_here (by omega) (hp rfl)
    | false => rw [if_neg (by decide)] at hC0; exact at_none (.inr (by rw [← hC0, he]; decide))
  have r2 : dot = true → rn T (a + 1 + 1) = f := fun h => by
    rw [if_pos h] at hC0
    exact rn_is (by omega) (dF h) (.inr (.inr (by rw [show a + 1 + 1 + f = C by omega, he]; decide)))
  have hC : cC T = C := by
    unfold cC
    rw [hD, hB]
    cases dot with
    | true => rw [if_pos rfl, r2 rfl]; rw [if_pos rfl] at hC0; omega
    | false => rw [if_neg (by decide)]; rw [if_neg (by decide)] at hC0; omega
  have hE : cE T = true := by unfold cE; rw [hC, at_here hCS.1 he]; rfl
  have hx0 := dX 0 hx
  rw [Nat.add_zero] at hx0
  have hS : cS T = S ∧ sgB T (C + 1) = ng := by
    unfold cS sgA sgB
    rw [hC]
    cases ng with
    | true =>
      have h45 := hn rfl
      rw [if_pos rfl] at hS0
      rw [at_none (.inr (by rw [h45]; decide)), at_here (by omega) h45, if_neg (by decide), if_pos rfl, if_neg (by decide)]
      exact ⟨by omega, rfl⟩
    | false =>
      rw [if_neg (by decide)] at hS0
      rw [at_none (.inr (by rw [← hS0]; omega)), at_none (.inr (by rw [← hS0]; omega)), if_neg (by decide), if_neg (by decide), if_neg (by decide)]
      exact ⟨by omega, rfl⟩
  have r3 : rn T S = x := rn_is (by omega) dX (.inl (by omega))
  have hDd : cD T = T.size := by unfold cD; rw [if_pos hE, hS.1, r3]; omega
  refine ⟨?_, ?_, ?_, ?_, ?_, eA⟩
  · unfold cOk
    rw [hA, r1, hD, hB, hE, hS.1, r3, hDd]
    cases dot with
    | true => rw [r2 rfl]; simp [hf rfl, hx]
    | false => simp [hx]
  · unfold cW; rw [hA, hB]
  · unfold cF
    rw [hD, hB, hC]
    cases dot with
    | true =>
      rw [if_pos rfl] at hC0
      rw [if_pos rfl, if_pos rfl, hC0]
    | false => rw [if_neg (by decide), if_neg (by decide)]
  · unfold cX; rw [if_pos hE, hS.1, hDd]
  · unfold cN; rw [if_pos hE, hC, hS.2]
end Go.Proofs.YtcndkhgbgjnclaaGreatDoor.nn
/- Words for slices of bytes: one that reads as a text, and the text that a conversion makes of it. -/
namespace Go.Proofs.YtcndkhgbgjnclaaGreatDoor.nn
open Go.RowKit

/-- the text of n bytes f -/
def pc (f : Nat → Nat) (n : Nat) : ByteArray := strOfNums ((List.range n).map fun i => (f i : Int))
theorem pc_size (f : Nat → Nat) (n : Nat) : (pc f n).size = n := by unfold pc; rw [strOfNums_size]; simp
theorem bt_pc {f : Nat → Nat} {n i : Nat} (h : i < n) (hf : f i < 256) : bt (pc f n) i = f i := by
  have h2 : i < (pc f n).size := by rw [pc_size]; exact h
  rw [bt_at h2]
  show ((pc f n).data[i]).toNat = f i
  have : (pc f n).data[i]? = some (UInt8.ofNat (f i)) := by
    unfold pc strOfNums
    simp [h]
  have e : (pc f n).data[i] = UInt8.ofNat (f i) := by
    have h3 := Array.getElem?_eq_getElem (xs := (pc f n).data) (i := i) h2
    rw [this] at h3
    injection h3 with h3
    exact h3.symm
  rw [e, UInt8.toNat_ofNat']
  omega

/-- a text made of a slice of bytes, nil or not -/
theorem conv_row (A : Option Addr) (n c : Nat) (f : Nat → Nat) (w : World) (h : Rd w .u8 A n f) :
    (convert 77 9 (.slice A n c)).run Tryz.prog w = .ok (.string (pc f n)) w := by
  by_cases h0 : 0 < n
  · obtain ⟨b, off, rfl, _, hc⟩ := h h0
    exact run_convert_bytes_arg w 77 5 Tryz.underlying77 Tryz.underlying5 b off n c _ (by simp) (fun i hi => by
      rw [hc i hi]
      simp [hi]) 9 Tryz.underlying9
  · obtain rfl : n = 0 := by omega
    have e : pc f 0 = ByteArray.empty := rfl
    rw [e]
    cases A with
    | none => exact run_convert_bytes_nil w 77 5 Tryz.underlying77 Tryz.underlying5 0 c 9 Tryz.underlying9
    | some a =>
      rw [run_convert_bytes_string w 77 9 5 (some a) 0 c Tryz.underlying77 Tryz.underlying5 Tryz.underlying9]
      exact run_bytesToString w a 0 c [] (run_loadCells_list (P := Tryz.prog) w a [] (fun j v hv => by simp at hv))
end Go.Proofs.YtcndkhgbgjnclaaGreatDoor.nn
/- The walk of the law's more: digits, and one more. -/
namespace Go.Proofs.YtcndkhgbgjnclaaGreatDoor.nn
open Go.RowKit

/-! digits -/
theorem dv_same {f : Nat → Nat} {x n : Nat} (h : ∀ i, i < n → f i = x) (hx : 48 ≤ x) : dv f n * 9 + (x - 48) = (x - 48) * 10 ^ n := by
  induction n with
  | zero => simp [dv]
  | succ n ih =>
    have := ih (fun i hi => h i (by omega))
    rw [dv, h n (by omega), Nat.pow_succ]
    obtain ⟨P, hP⟩ : ∃ P, 10 ^ n = P := ⟨_, rfl⟩
    rw [hP] at this ⊢
    have e : (x - 48) * (P * 10) = (x - 48) * P * 10 := by rw [Nat.mul_assoc]
    rw [e, ← this]
    omega
/-- the text behind the place j is nines; what becomes of it -/
def mf (f : Nat → Nat) (j : Nat) : Nat → Nat := fun i => if i < j then f i else 48
theorem more_num {f : Nat → Nat} {j m : Nat} (hd : dgs f (j + 1 + m) = true) (h9 : ∀ i, i < m → f (j + 1 + i) = 57) (hj : f j ≠ 57) :
    dgs (upd (mf f (j + 1)) j (f j + 1)) (j + 1 + m) = true ∧ dv (upd (mf f (j + 1)) j (f j + 1)) (j + 1 + m) = dv f (j + 1 + m) + 1 := by
  have hlow : ∀ i, i < j → upd (mf f (j + 1)) j (f j + 1) i = f i := fun i hi => by
    rw [upd_ne _ (by omega)]
    exact if_pos (by omega)
  have hat : upd (mf f (j + 1)) j (f j + 1) j = f j + 1 := upd_at _ _ _
  have hhi : ∀ i, i < m → upd (mf f (j + 1)) j (f j + 1) (j + 1 + i) = 48 := fun i hi => by
    rw [upd_ne _ (by omega)]
    exact if_neg (by omega)
  have hdj := dgs_at hd (show j < j + 1 + m by omega)
  constructor
  · have : ∀ i, i ≤ j + 1 + m → dgs (upd (mf f (j + 1)) j (f j + 1)) i = true := by
      intro i
      induction i with
      | zero => exact fun _ => rfl
      | succ i ih =>
        intro hi
        rw [dgs, ih (by omega)]
        rcases Nat.lt_trichotomy i j with g | g | g
        · rw [hlow i g]
          have := dgs_at hd (show i < j + 1 + m by omega)
          exact decide_eq_true this
        · subst g
          rw [hat]
          exact decide_eq_true (by omega : 48 ≤ f i + 1 ∧ f i + 1 ≤ 57)
        · obtain ⟨t, rfl⟩ : ∃ t, i = j + 1 + t := ⟨i - (j + 1), by omega⟩
          rw [hhi t (by omega)]
          rfl
    exact this _ (Nat.le_refl _)
  · have a1 := dv_same hhi (by decide)
    have a2 := dv_same h9 (by decide)
    rw [dv_add, dv_add f, dv, dv, hat, dv_congr hlow]
    obtain ⟨P, hP⟩ : ∃ P, 10 ^ m = P := ⟨_, rfl⟩
    obtain ⟨D, hD⟩ : ∃ D, dv f j = D := ⟨_, rfl⟩
    obtain ⟨c, hc⟩ : ∃ c, f j = c + 48 := ⟨f j - 48, by omega⟩
    obtain ⟨d1, hd1⟩ : ∃ d1, dv (fun i => upd (mf f (j + 1)) j (f j + 1) (j + 1 + i)) m = d1 := ⟨_, rfl⟩
    obtain ⟨d2, hd2⟩ : ∃ d2, dv (fun i => f (j + 1 + i)) m = d2 := ⟨_, rfl⟩
    rw [hP, hd1] at a1
    rw [hP, hd2] at a2
    rw [hP, hD, hd1, hd2, hc, show c + 48 + 1 - 48 = c + 1 by omega, show c + 48 - 48 = c by omega]
    rw [← Nat.add_assoc, Nat.add_mul _ 1 P, Nat.one_mul]
    omega
theorem nines_num {f : Nat → Nat} {n : Nat} (h9 : ∀ i, i < n → f i = 57) : dv f n + 1 = 10 ^ n := by
  have := dv_same h9 (by decide)
  have hp := Nat.pow_pos (n := n) (show 0 < 10 by decide)
  omega

/-! the new bytes -/
/-- the block g is the bytes f, n of them, as a text's copy lies -/
structure Mk (w0 wr : World) (g n : Nat) (f : Nat → Nat) : Prop where
  blk : ∃ (cur : Array Value) (m : Nat), wr.heap[g]? = some (.cells cur 5 (m, m + 1)) ∧ n ≤ m ∧ n ≤ cur.size ∧ Ints cur .u8 0 n f
  old : w0.heap.size ≤ g
  below : Below w0.heap.size w0 wr
theorem Mk.cell {w0 wr : World} {g n i : Nat} {f : Nat → Nat} (h : Mk w0 wr g n f) (hi : i < n) : wr.cell? ⟨g, i, none⟩ = some (.int .u8 (f i : Int)) ∧ wr.frozen? ⟨g, i, none⟩ = false := by
  obtain ⟨cur, m, hb, hn, hs, hin⟩ := h.blk
  have := hin i hi
  rw [Nat.zero_add] at this
  refine ⟨(cell_of_row wr g i cur _ _ hb).trans this, ?_⟩
  unfold World.frozen?
  rw [hb]
  simp
  omega
theorem Mk.set {w0 wr : World} {g n i x : Nat} {f : Nat → Nat} (h : Mk w0 wr g n f) (hi : i < n) : Mk w0 (wr.setCell ⟨g, i, none⟩ (.int .u8 (x : Int))) g n (upd f i x) := by
  obtain ⟨cur, m, hb, hn, hs, hin⟩ := h.blk
  refine ⟨⟨cur.setIfInBounds i (.int .u8 (x : Int)), m, ?_, hn, by rw [Array.size_setIfInBounds]; exact hs, ?_⟩, h.old, h.below.setCell h.old _⟩
  · simp [World.setCell, Array.getElem?_modify, hb]
  · have := hin.set_ i x hi
    rw [Nat.zero_add] at this
    exact this
theorem Mk.rd {w0 wr : World} {g n : Nat} {f : Nat → Nat} (h : Mk w0 wr g n f) : Rd wr .u8 (some ⟨g, 0, none⟩) n f := fun hn => by
  refine ⟨g, 0, rfl, ?_, fun i hi => by rw [Nat.zero_add]; exact (h.cell hi).1⟩
  obtain ⟨cur, m, hb, _⟩ := h.blk
  exact (Array.getElem?_eq_some_iff.1 hb).1
theorem Mk.new (w : World) (s : ByteArray) (C : Nat) : Mk w ((w.drew.alloc (.cells (bytesRow s C) 5 ((bytesRow s C).size, (bytesRow s C).size + 1)))) w.heap.size s.size (bt s) := by
  have hsz : s.size ≤ (bytesRow s C).size := by
    have h1 : s.data.size = s.size := rfl
    unfold bytesRow
    rw [Array.size_append, Array.size_map, h1]
    omega
  refine ⟨⟨bytesRow s C, (bytesRow s C).size, ?_, hsz, hsz, fun i hi => ?_⟩, Nat.le_refl _, (Below.refl _ _).drew.alloc (Nat.le_refl _) _⟩
  · show (w.heap.push _)[w.heap.size]? = _
    simp
  · rw [Nat.zero_add, bt_at hi]
    unfold bytesRow
    rw [Array.getElem?_append_left (by simp; exact hi)]
    simp
    exact ⟨_, Array.getElem?_eq_getElem hi, rfl⟩

def MoAns (s : ByteArray) (w : World) (e : Ending) (w' : World) : Prop :=
  ∃ t : ByteArray, e = .returned (.string t) ∧ 0 < t.size ∧ t.size ≤ s.size + 1 ∧ dgs (bt t) t.size = true ∧ dv (bt t) t.size = dv (bt s) s.size + 1 ∧ Below w.heap.size w w'

theorem pc_num {f : Nat → Nat} {n : Nat} (hd : dgs f n = true) : (pc f n).size = n ∧ dgs (bt (pc f n)) n = true ∧ dv (bt (pc f n)) n = dv f n := by
  have hf : ∀ i, i < n → bt (pc f n) i = f i := fun i hi => bt_pc hi (by have := dgs_at hd hi; omega)
  exact ⟨pc_size f n, by rw [dgs_congr hf]; exact hd, dv_congr hf⟩

set_option maxRecDepth 100000 in
set_option maxHeartbeats 2000000 in
theorem more_any (s : ByteArray) (w : World) (hs0 : 0 < s.size) (hs : s.size ≤ 1000) (hd : dgs (bt s) s.size = true) :
    Calls Tryz.prog 16 #[.string s] w (MoAns s w) := by
  have hcv := run_bytes_of_string (P := Tryz.prog) w 9 77 5 s Tryz.underlying9 Tryz.underlying77 Tryz.underlying5
  obtain ⟨C, hC⟩ : ∃ C, grownCap w s.size 0 5 = C := ⟨_, rfl⟩
  rw [hC] at hcv
  have HM := Lib.hid (Mk.new w s C)
  obtain ⟨W1, hW1⟩ : ∃ W1, (w.drew.alloc (.cells (bytesRow s C) 5 ((bytesRow s C).size, (bytesRow s C).size + 1))) = W1 := ⟨_, rfl⟩
  rw [hW1] at hcv HM
  have HD := Lib.hid hd
  have HCV := Lib.hid (fun W n c f (h : Rd W .u8 (some ⟨w.heap.size, 0, none⟩) n f) => conv_row (some ⟨w.heap.size, 0, none⟩) n c f W h)
  obtain ⟨g, hg⟩ : ∃ g, w.heap.size = g := ⟨_, rfl⟩
  rw [hg] at hcv HM HCV
  clear hC hW1 hd hg
  go_enter Tryz.func16, Tryz.ntmps16
  go_wp2_with fail
  go_loopw [4] (fun s4 wr => ∃ j : Nat, j ≤ s.size ∧ s4 = .int .i64 ((j : Int) - 1) ∧ Hid (∀ i, j ≤ i → i < s.size → bt s i = 57) ∧ Hid (Mk w wr g s.size (mf (bt s) j))) (fun s4 _ => (intOf s4 + 1).toNat)
  case atStart => exact ⟨s.size, Nat.le_refl _, rfl, Lib.hid (fun i h1 h2 => by omega), Lib.hid (by
    obtain ⟨⟨cur, m, h1, h2, h3, h4⟩, h5, h6⟩ := HM.out
    exact ⟨⟨cur, m, h1, h2, h3, h4.congr fun i hi => (if_pos hi).symm⟩, h5, h6⟩)⟩
  case round =>
    obtain ⟨j, hj, rfl, h9, hM⟩ := hrel
    by_cases hj0 : j = 0
    · subst hj0
      have kc := HCV.out wr s.size C _ hM.out.rd
      obtain ⟨p, hp⟩ : ∃ p, pc (mf (bt s) 0) s.size = p := ⟨_, rfl⟩
      have h48 : ∀ i, i < s.size → mf (bt s) 0 i = 48 := fun i _ => if_neg (by omega)
      have hdz : dgs (mf (bt s) 0) s.size = true := by
        rw [dgs_congr (g := fun _ => 48) h48]
        have : ∀ n, dgs (fun _ => 48) n = true := fun n => by
          induction n with
          | zero => rfl
          | succ n ih => rw [dgs, ih]; rfl
        exact this _
      obtain ⟨p1, p2, p3⟩ := pc_num hdz
      have hz := dv_same h48 (by decide)
      have h9' := nines_num (f := bt s) (n := s.size) (fun i hi => h9.out i (Nat.zero_le i) hi)
      rw [hp] at kc p1 p2 p3
      obtain ⟨a1, a2⟩ := app_num (a := ⟨#[49]⟩) (b := p) (by decide) (by rw [p1]; exact p2)
      have hp1 : ((⟨#[49]⟩ : ByteArray) ++ p).size = 1 + s.size := by rw [ByteArray.size_append, p1]; rfl
      have HA : Hid (MoAns s w (.returned (.string (⟨#[49]⟩ ++ p))) wr) := Lib.hid ⟨_, rfl, by omega, by omega, a1, by
        rw [a2, p1, p3, show dv (bt ⟨#[49]⟩) (ByteArray.size ⟨#[49]⟩) = 1 by decide]
        omega, hM.out.below⟩
      have e0 : (((0 : Nat) : Int) - 1) = -1 := by decide
      have hps : p.size ≤ 1000 := by omega
      rw [e0]
      clear e0 hp hdz p1 p2 p3 hz h9' a1 a2 hp1 h48 hcv
      go_wp2_with fail
      go_ret
      exact HA.out
    · obtain ⟨i, rfl⟩ : ∃ i, j = i + 1 := ⟨j - 1, by omega⟩
      have hi : i < s.size := by omega
      obtain ⟨hc, hf⟩ := hM.out.cell hi
      have hx : mf (bt s) (i + 1) i = bt s i := if_pos (by omega)
      have hdi := dgs_at HD.out hi
      obtain ⟨x, hxx⟩ : ∃ x, bt s i = x := ⟨_, rfl⟩
      have HX := Lib.hid hxx
      rw [hx, hxx] at hc
      rw [hxx] at hdi
      have e0 : (((i + 1 : Nat) : Int) - 1) = (i : Int) := by omega
      rw [e0]
      clear e0 hx hcv
      by_cases h57 : x = 57
      · subst h57
        have hM2 : Hid (Mk w (wr.setCell ⟨g, i, none⟩ (.int .u8 48)) g s.size (mf (bt s) i)) := Lib.hid (by
          have h := hM.out.set (x := 48) hi
          have e : upd (mf (bt s) (i + 1)) i 48 = mf (bt s) i := by
            funext k
            unfold upd mf
            by_cases c1 : k = i
            · rw [if_pos c1, if_neg (by omega)]
            · rw [if_neg c1]
              by_cases c2 : k < i
              · rw [if_pos (by omega), if_pos c2]
              · rw [if_neg (by omega), if_neg c2]
          rw [e] at h
          exact h)
        have h92 : Hid (∀ k, i ≤ k → k < s.size → bt s k = 57) := Lib.hid (fun k h1 h2 => by
          by_cases c : k = i
          · rw [c]; exact HX.out
          · exact h9.out k (by omega) h2)
        clear hxx
        go_wp2_with fail
        go_roundw
        case rel => exact ⟨i, by omega, by go_num, h92, hM2⟩
        case measure => simp [intOf]
      · have hm := hM.out.set (x := x + 1) hi
        have kc := HCV.out _ s.size C _ hm.rd
        have hbel := hm.below
        obtain ⟨n1, n2⟩ := more_num (f := bt s) (j := i) (m := s.size - (i + 1)) (by rw [show i + 1 + (s.size - (i + 1)) = s.size by omega]; exact HD.out) (fun k hk => h9.out _ (by omega) (by omega)) (by rw [hxx]; exact h57)
        rw [show i + 1 + (s.size - (i + 1)) = s.size by omega, hxx] at n1 n2
        obtain ⟨p1, p2, p3⟩ := pc_num n1
        obtain ⟨p, hp⟩ : ∃ p, pc (upd (mf (bt s) (i + 1)) i (x + 1)) s.size = p := ⟨_, rfl⟩
        rw [hp] at kc p1 p2 p3
        rw [show ((x + 1 : Nat) : Int) = (x : Int) + 1 from rfl] at kc hbel
        have HA : Hid (MoAns s w (.returned (.string p)) (wr.setCell ⟨g, i, none⟩ (.int .u8 ((x : Int) + 1)))) := Lib.hid ⟨_, rfl, by omega, by omega, by rw [p1]; exact p2, by rw [p1, p3, n2], hbel⟩
        have hx57 : x < 57 := by omega
        clear hxx hp p1 p2 p3 n1 n2 hm hbel h57
        go_wp2_with fail
        go_ret
        exact HA.out
end Go.Proofs.YtcndkhgbgjnclaaGreatDoor.nn
/- The walk of the law FdecOrder: it returns true. -/
namespace Go.Proofs.YtcndkhgbgjnclaaGreatDoor.nn
open Go.RowKit

def TrueAns (w : World) (e : Ending) (w' : World) : Prop := e = .returned (.bool true) ∧ Below w.heap.size w w'
theorem awake6 (w : World) : Calls Tryz.prog 11 #[] w (TrueAns w) := awake_any6 w

theorem rf_form {s : ByteArray} (z : Int) (h8 : s.size ≤ 800) (hd : dgs (bt s) s.size = false) : rfE s z = 4 := by
  unfold rfE
  rw [if_neg (by omega), hd, if_pos (show (false && decide (0 < s.size)) = false from rfl)]
theorem rf_ok {s : ByteArray} {z : Int} (h8 : s.size ≤ 800) (h0 : 0 < s.size) (hd : dgs (bt s) s.size = true) (h1 : -2000 ≤ z) (h2 : z ≤ 2000) : rfE s z = 0 := by
  unfold rfE
  rw [if_neg (by omega), hd, decide_eq_true h0, if_neg (by decide), if_neg (by omega)]
theorem zk_one : zk 1 = ⟨#[48]⟩ := rfl
theorem app_zero {s : ByteArray} {z : Int} {b : Nat} (hd : dgs (bt s) s.size = true) (h : RN s z b) : RN (s ++ ⟨#[48]⟩) (z - 1) b := by
  obtain ⟨_, d2⟩ := dv_zk hd 1
  rw [zk_one] at d2
  refine near_same (rY_pos z) (rY_pos (z - 1)) ?_ h
  unfold rX rY
  rw [d2]
  obtain ⟨D, hD⟩ : ∃ D, dv (bt s) s.size = D := ⟨_, rfl⟩
  obtain ⟨T, hT⟩ : ∃ T, 2 ^ e74 = T := ⟨_, rfl⟩
  rw [hD, hT, Nat.pow_one]
  by_cases c : 1 ≤ z
  · rw [show (-(z - 1)).toNat = 0 by omega, show (-z).toNat = 0 by omega, show z.toNat = (z - 1).toNat + 1 by omega, Nat.pow_succ, Nat.mul_comm (10 ^ (z - 1).toNat) 10, ← Nat.mul_assoc]
  · rw [show (-(z - 1)).toNat = (-z).toNat + 1 by omega, show (z - 1).toNat = 0 by omega, show z.toNat = 0 by omega, Nat.pow_succ, Nat.pow_zero, Nat.mul_one, Nat.mul_one, Nat.mul_comm (10 ^ (-z).toNat) 10, ← Nat.mul_assoc, Nat.mul_right_comm D 10 T]
end Go.Proofs.YtcndkhgbgjnclaaGreatDoor.nn
/- The real fdec: what Scan makes of a text without an exponent that Text tells (plain). -/
namespace Go.Proofs.YtcndkhgbgjnclaaGreatDoor.nn
open Go.RowKit

/-- more digits 0, less of an exponent -/
theorem rn_shift {s s' : ByteArray} {z z' : Int} {b k : Nat} (hv : dv (bt s') s'.size = dv (bt s) s.size * 10 ^ k) (hz : z' = z - (k : Int)) (h : RN s z b) : RN s' z' b := by
  refine near_same (rY_pos z) (rY_pos z') ?_ h
  unfold rX rY
  rw [hv]
  subst hz
  generalize dv (bt s) s.size = V
  obtain ⟨T, hT⟩ : ∃ T, 2 ^ e74 = T := ⟨_, rfl⟩
  rw [hT]
  have e : 10 ^ z.toNat * 10 ^ (-(z - (k : Int))).toNat = 10 ^ k * 10 ^ (z - (k : Int)).toNat * 10 ^ (-z).toNat := by
    rw [← Nat.pow_add, ← Nat.pow_add, ← Nat.pow_add]
    refine congrArg (10 ^ ·) ?_
    omega
  rw [show V * 10 ^ z.toNat * T * 10 ^ (-(z - (k : Int))).toNat = V * T * (10 ^ z.toNat * 10 ^ (-(z - (k : Int))).toNat) by simp only [Nat.mul_assoc, Nat.mul_left_comm, Nat.mul_comm], e]
  simp only [Nat.mul_assoc, Nat.mul_left_comm, Nat.mul_comm]
/-- the sign ahead -/
def sgT (g : Bool) : ByteArray := if g then ⟨#[45]⟩ else ⟨#[]⟩
def sgN (g : Bool) : Nat := if g then 1 else 0
theorem sgT_size (g : Bool) : (sgT g).size = sgN g := by cases g <;> rfl
theorem sg_bt {g : Bool} {L : ByteArray} {i : Nat} (h : i < L.size) : bt (sgT g ++ L) (sgN g + i) = bt L i := by rw [← sgT_size]; exact fbt_app_right h
theorem sg_at {g : Bool} {L : ByteArray} : sgN g = 0 ∨ (sgN g = 1 ∧ bt (sgT g ++ L) 0 = 45) := by
  cases g with
  | false => exact .inl rfl
  | true =>
    refine .inr ⟨rfl, ?_⟩
    rw [fbt_app_left (by decide)]
    rfl
theorem sg_size {g : Bool} {L : ByteArray} : (sgT g ++ L).size = sgN g + L.size := by rw [ByteArray.size_append, sgT_size]
/-- the digits of a text without an exponent -/
theorem scD_plain {g : Bool} {L X : ByteArray} {w f : Nat} (hL : L.size = w + 1 + f) (hw : 0 < w) (hf : 0 < f) (hX : X.size = w + f) (h1 : ∀ i, i < w → bt X i = bt L i) (h2 : ∀ j, j < f → bt X (w + j) = bt L (w + 1 + j)) (hp : bt L w = 46) (hd : dgs (bt X) X.size = true) :
    cOk (sgT g ++ L) = true ∧ scD (sgT g ++ L) = X ∧ (cW (sgT g ++ L)).size = w ∧ (cF (sgT g ++ L)).size = f ∧ cX (sgT g ++ L) = ⟨#[]⟩ ∧ cN (sgT g ++ L) = false ∧ scNeg (sgT g ++ L) = g := by
  have hs : (sgT g ++ L).size = sgN g + w + 1 + f := by rw [sg_size, hL]; omega
  obtain ⟨a1, a2, a3, a4, a5, a6⟩ := form_plain (T := sgT g ++ L) (a := sgN g) (w := w) (f := f) sg_at hs hw hf
    (fun i hi => by rw [sg_bt (by omega), ← h1 i hi]; exact dgs_at hd (by omega)) (by rw [sg_bt (by omega)]; exact hp)
    (fun j hj => by rw [show sgN g + w + 1 + j = sgN g + (w + 1 + j) by omega, sg_bt (by omega), ← h2 j hj]; exact dgs_at hd (by omega))
  have s1 : (cutT (sgT g ++ L) (sgN g) (sgN g + w)).size = w := by rw [cutT_size (by omega)]; omega
  have s2 : (cutT (sgT g ++ L) (sgN g + w + 1) (sgT g ++ L).size).size = f := by rw [cutT_size (Nat.le_refl _)]; omega
  refine ⟨a1, ?_, by rw [a2, s1], by rw [a3, s2], a4, a5, ?_⟩
  · unfold scD
    rw [a2, a3]
    refine fba_ext (by rw [ByteArray.size_append, s1, s2, hX]) fun i hi => ?_
    rw [ByteArray.size_append, s1, s2] at hi
    rcases Nat.lt_or_ge i w with c | c
    · rw [fbt_app_left (by omega), bt_cutT (by omega) (by omega), sg_bt (by omega), h1 i c]
    · obtain ⟨j, rfl⟩ : ∃ j, i = w + j := ⟨i - w, by omega⟩
      have := fbt_app_right (a := cutT (sgT g ++ L) (sgN g) (sgN g + w)) (b := cutT (sgT g ++ L) (sgN g + w + 1) (sgT g ++ L).size) (i := j) (by omega)
      rw [s1] at this
      rw [this, bt_cutT (Nat.le_refl _) (by omega), show sgN g + w + 1 + j = sgN g + (w + 1 + j) by omega, sg_bt (by omega), h2 j (by omega)]
  · rw [a6]; cases g <;> rfl
/-- a text without an exponent says what its digits say -/
theorem sc_plain {g : Bool} {L X D : ByteArray} {w f k b : Nat} {E : Int} (hL : L.size = w + 1 + f) (hw : 0 < w) (hf : 0 < f) (hX : X.size = w + f) (h1 : ∀ i, i < w → bt X i = bt L i) (h2 : ∀ j, j < f → bt X (w + j) = bt L (w + 1 + j)) (hp : bt L w = 46) (hd : dgs (bt X) X.size = true)
    (h8 : w + f ≤ 800) (hv : dv (bt X) X.size = dv (bt D) D.size * 10 ^ k) (hV : dv (bt D) D.size ≠ 0) (hz : -(f : Int) = E - (k : Int)) (hb : RN D E b) : ScIs (sgT g ++ L) (roV g b) (roE b) := by
  obtain ⟨a1, a2, a3, a4, a5, a6, a7⟩ := scD_plain (g := g) hL hw hf hX h1 h2 hp hd
  have ez : scZ (sgT g ++ L) = -(f : Int) := by
    unfold scZ plZ
    rw [a5, a6, a4, if_neg (by decide)]
    show ((dv (bt ⟨#[]⟩) 0 : Nat) : Int) - (f : Int) = _
    simp [dv]
  refine .inr (.inr (.inr (.inr ⟨a1, ?_, ?_, by rw [ez]; omega, by rw [ez]; omega, b, ?_, by rw [a7], rfl⟩)))
  · unfold scLong
    rw [a3, a4, a5]
    have : ByteArray.size ⟨#[]⟩ = 0 := rfl
    omega
  · unfold scN
    rw [a2, hv]
    exact Nat.mul_ne_zero hV (Nat.ne_of_gt (Nat.pow_pos (by decide)))
  · rw [a2, ez]
    exact rn_shift hv hz hb
end Go.Proofs.YtcndkhgbgjnclaaGreatDoor.nn
/- The real fdec: Scan of a text that Text tells (plain). -/
namespace Go.Proofs.YtcndkhgbgjnclaaGreatDoor.nn
open Go.RowKit

theorem zk_ahead {D : ByteArray} (q : Nat) (hd : dgs (bt D) D.size = true) : dgs (bt (zk q ++ D)) (zk q ++ D).size = true ∧ dv (bt (zk q ++ D)) (zk q ++ D).size = dv (bt D) D.size := by
  obtain ⟨z1, z2⟩ := zk_num q
  obtain ⟨a1, a2⟩ := app_num (a := zk q) (b := D) (by rw [zk_size]; exact z1) hd
  refine ⟨a1, ?_⟩
  rw [a2, zk_size, z2, Nat.zero_mul, Nat.zero_add]
theorem sc_low {g : Bool} {D : ByteArray} {b q : Nat} {E : Int} (h0 : 0 < D.size) (hs : D.size ≤ 500) (hd : dgs (bt D) D.size = true) (hV : dv (bt D) D.size ≠ 0) (hq : q ≤ 200) (hz : E = -(q : Int) - (D.size : Int)) (hb : RN D E b) :
    ScIs (sgT g ++ (⟨#[48, 46]⟩ ++ zk q ++ D)) (roV g b) (roE b) := by
  rw [ByteArray.append_assoc]
  obtain ⟨a1, a2⟩ := zk_ahead q hd
  obtain ⟨b1, b2⟩ := zk_ahead 1 a1
  have s1 : ByteArray.size ⟨#[48, 46]⟩ = 2 := rfl
  have s2 : (zk q ++ D).size = q + D.size := by rw [ByteArray.size_append, zk_size]
  have s3 := zk_size 1
  refine sc_plain (X := zk 1 ++ (zk q ++ D)) (w := 1) (f := q + D.size) (k := 0) (D := D) (E := E) ?_ (by decide) (by omega) ?_ (fun i hi => ?_) (fun j hj => ?_) ?_ b1 (by omega) (by rw [b2, a2, Nat.pow_zero, Nat.mul_one]) hV (by omega) hb
  · rw [ByteArray.size_append, s1, s2]
  · rw [ByteArray.size_append, s3, s2]
  · obtain rfl : i = 0 := by omega
    rw [fbt_app_left (by rw [s3]; decide), fbt_app_left (by rw [s1]; decide)]
    rfl
  · have e1 := fbt_app_right (a := zk 1) (b := zk q ++ D) (i := j) (by omega)
    have e2 := fbt_app_right (a := ⟨#[48, 46]⟩) (b := zk q ++ D) (i := j) (by omega)
    rw [s3] at e1
    rw [s1] at e2
    rw [e1, show 1 + 1 + j = 2 + j by omega, e2]
  · rw [fbt_app_left (by rw [s1]; decide)]
    rfl
theorem sc_high {g : Bool} {D : ByteArray} {b q : Nat} {E : Int} (h0 : 0 < D.size) (hs : D.size ≤ 500) (hd : dgs (bt D) D.size = true) (hV : dv (bt D) D.size ≠ 0) (hq : q ≤ 200) (hz : E = (q : Int)) (hb : RN D E b) :
    ScIs (sgT g ++ (D ++ zk q ++ ⟨#[46, 48]⟩)) (roV g b) (roE b) := by
  obtain ⟨b1, b2⟩ := dv_zk hd (q + 1)
  have s1 : ByteArray.size ⟨#[46, 48]⟩ = 2 := rfl
  have s2 : (D ++ zk q).size = D.size + q := by rw [ByteArray.size_append, zk_size]
  have s3 := zk_size (q + 1)
  have r1 := fbt_app_right (a := D ++ zk q) (b := ⟨#[46, 48]⟩) (i := 0) (by rw [s1]; decide)
  have r2 := fbt_app_right (a := D ++ zk q) (b := ⟨#[46, 48]⟩) (i := 1) (by rw [s1]; decide)
  rw [s2] at r1 r2
  refine sc_plain (X := D ++ zk (q + 1)) (w := D.size + q) (f := 1) (k := q + 1) (D := D) (E := E) ?_ (by omega) (by decide) ?_ (fun i hi => ?_) (fun j hj => ?_) ?_ b1 (by omega) b2 hV (by omega) hb
  · rw [ByteArray.size_append, s1, s2]
  · rw [ByteArray.size_append, s3]; omega
  · rw [fbt_app_left (a := D ++ zk q) (by omega)]
    rcases Nat.lt_or_ge i D.size with c | c
    · rw [fbt_app_left c, fbt_app_left c]
    · obtain ⟨j, rfl⟩ : ∃ j, i = D.size + j := ⟨i - D.size, by omega⟩
      rw [fbt_app_right (by rw [s3]; omega), fbt_app_right (by rw [zk_size]; omega), zk_at (by omega), zk_at (by omega)]
  · obtain rfl : j = 0 := by omega
    have e := fbt_app_right (a := D) (b := zk (q + 1)) (i := q) (by omega)
    rw [zk_at (by omega)] at e
    show bt (D ++ zk (q + 1)) (D.size + q) = bt (D ++ zk q ++ ⟨#[46, 48]⟩) (D.size + q + 1)
    rw [e, r2]
    rfl
  · rw [Nat.add_zero] at r1
    rw [r1]
    rfl
theorem sc_mid {g : Bool} {D : ByteArray} {b q : Nat} {E : Int} (h0 : 0 < q) (h1 : q < D.size) (hs : D.size ≤ 500) (hd : dgs (bt D) D.size = true) (hV : dv (bt D) D.size ≠ 0) (hz : E = (q : Int) - (D.size : Int)) (hb : RN D E b) :
    ScIs (sgT g ++ (cutT D 0 q ++ ⟨#[46]⟩ ++ cutT D q D.size)) (roV g b) (roE b) := by
  have s1 : ByteArray.size ⟨#[46]⟩ = 1 := rfl
  have s2 : (cutT D 0 q).size = q := by rw [cutT_size (by omega)]; omega
  have s3 : (cutT D q D.size).size = D.size - q := by rw [cutT_size (by omega)]
  have s4 : (cutT D 0 q ++ ⟨#[46]⟩).size = q + 1 := by rw [ByteArray.size_append, s1, s2]
  refine sc_plain (X := D) (w := q) (f := D.size - q) (k := 0) (D := D) (E := E) ?_ h0 (by omega) (by omega) (fun i hi => ?_) (fun j hj => ?_) ?_ hd (by omega) (by rw [Nat.pow_zero, Nat.mul_one]) hV (by omega) hb
  · rw [ByteArray.size_append, s4, s3]
  · rw [fbt_app_left (by omega), fbt_app_left (by omega), bt_cutT (by omega) (by omega), Nat.zero_add]
  · have e := fbt_app_right (a := cutT D 0 q ++ ⟨#[46]⟩) (b := cutT D q D.size) (i := j) (by omega)
    rw [s4] at e
    rw [e, bt_cutT (Nat.le_refl _) (by omega)]
  · have e := fbt_app_right (a := cutT D 0 q) (b := ⟨#[46]⟩) (i := 0) (by rw [s1]; decide)
    rw [s2, Nat.add_zero] at e
    rw [fbt_app_left (by omega), e]
    rfl
end Go.Proofs.YtcndkhgbgjnclaaGreatDoor.nn
/- The real fdec: what a span says (plain): decimals are nearest to the bits just if they lie in it. -/
namespace Go.Proofs.YtcndkhgbgjnclaaGreatDoor.nn
open Go.RowKit

/-- the bits of m times 2^e -/
def bm (m : Nat) (e : Int) : Nat := (e + 1074).toNat * h52 + m
theorem Fe.vf {m : Nat} {e : Int} (h : Fe m e) : vf (bm m e) = m * 2 ^ (e + 1074).toNat ∧ 2 * (nn.vf (bm m e - 1) + nn.vf (bm m e)) = (4 * m - spB m e) * 2 ^ (e + 1074).toNat ∧ 2 * (nn.vf (bm m e) + nn.vf (bm m e + 1)) = (4 * m + 2) * 2 ^ (e + 1074).toNat ∧ bm m e % 2 = m % 2 ∧ 0 < bm m e := by
  obtain ⟨h1, h2, h3, h4, h5⟩ := h
  obtain ⟨k, hk⟩ : ∃ k, (e + 1074).toNat = k := ⟨_, rfl⟩
  have hk5 : k = 0 ∨ h52 ≤ m := by rcases h5 with rfl | g; (left; omega); (exact .inr g)
  unfold bm
  rw [hk]
  have a1 : nn.vf (k * h52 + m) = m * 2 ^ k := vf_at (by omega) hk5
  have a2 : nn.vf (k * h52 + m + 1) = (m + 1) * 2 ^ k := by rw [Nat.add_assoc]; exact vf_at (by omega) (by omega)
  refine ⟨a1, ?_, ?_, ?_, by omega⟩
  · by_cases c : m = 4503599627370496 ∧ -1074 < e
    · have hB : spB m e = 1 := if_pos c
      obtain ⟨j, rfl⟩ : ∃ j, k = j + 1 := ⟨k - 1, by omega⟩
      have cm : m = h52 := c.1
      have a3 : nn.vf ((j + 1) * h52 + m - 1) = (2 * h52 - 1) * 2 ^ j := by
        have h0 : 0 < h52 := by decide
        rw [show (j + 1) * h52 + m - 1 = j * h52 + (2 * h52 - 1) by rw [cm, Nat.add_mul]; omega]
        exact vf_at (by omega) (by omega)
      rw [a1, a3, hB, Nat.mul_add, ← Nat.mul_assoc, Nat.pow_succ, ← Nat.mul_assoc m, Nat.mul_comm (m * 2 ^ j) 2, ← Nat.mul_assoc, ← Nat.mul_assoc, ← Nat.add_mul, Nat.mul_comm (2 ^ j) 2, ← Nat.mul_assoc]
      congr 1
      rw [cm]
      have h0 : 0 < h52 := by decide
      omega
    · have hB : spB m e = 2 := if_neg c
      have a3 : nn.vf (k * h52 + m - 1) = (m - 1) * 2 ^ k := by
        rw [show k * h52 + m - 1 = k * h52 + (m - 1) by omega]
        refine vf_at (by omega) ?_
        rcases hk5 with g | g
        · exact .inl g
        · rcases (by omega : m = h52 ∨ h52 ≤ m - 1) with g2 | g2
          · left
            have : ¬ -1074 < e := fun g3 => c ⟨g2, g3⟩
            omega
          · exact .inr g2
      rw [a1, a3, hB, ← Nat.add_mul, ← Nat.mul_assoc]
      congr 1
      omega
  · rw [a1, a2, ← Nat.add_mul, ← Nat.mul_assoc]
    congr 1
    omega
  · have : h52 % 2 = 0 := by decide
    rw [Nat.add_mod, Nat.mul_mod, this, Nat.mul_zero, Nat.zero_mod, Nat.zero_add, Nat.mod_mod]
theorem ends_iff {q Q X Y D par : Nat} (hY : 0 < Y) (hp : par = 0 ∨ par = 1) :
    ((q * X < D * Y ∨ (q * X = D * Y ∧ par = 0)) ↔ q * X / Y + (if 0 < q * X % Y ∨ par = 1 then 1 else 0) ≤ D)
    ∧ (1 ≤ Q * X / Y → ((D * Y < Q * X ∨ (D * Y = Q * X ∧ par = 0)) ↔ D ≤ Q * X / Y - (if par = 1 ∧ ¬ 0 < Q * X % Y then 1 else 0))) := by
  obtain ⟨A, hA⟩ : ∃ A, q * X = A := ⟨_, rfl⟩
  obtain ⟨B, hB⟩ : ∃ B, Q * X = B := ⟨_, rfl⟩
  rw [hA, hB]
  have dA := Nat.div_add_mod A Y
  have mA := Nat.mod_lt A hY
  have dB := Nat.div_add_mod B Y
  have mB := Nat.mod_lt B hY
  obtain ⟨a, ha⟩ : ∃ a, A / Y = a := ⟨_, rfl⟩
  obtain ⟨c, hc⟩ : ∃ c, B / Y = c := ⟨_, rfl⟩
  rw [ha] at dA ⊢
  rw [hc] at dB ⊢
  rw [Nat.mul_comm] at dA dB
  have mono : ∀ x y, x ≤ y → x * Y ≤ y * Y := fun x y h => Nat.mul_le_mul_right _ h
  have one : ∀ x, (x + 1) * Y = x * Y + Y := fun x => by rw [Nat.add_mul, Nat.one_mul]
  have hl : ∀ x y, x < y → x * Y + Y ≤ y * Y := fun x y h => by rw [← one]; exact mono _ _ h
  constructor
  · split
    · rename_i c1
      constructor
      · intro h
        rcases Nat.lt_or_ge a D with g | g
        · exact g
        · have := mono _ _ g
          rcases c1 with c1 | c1 <;> omega
      · intro h
        have := hl a D (by omega)
        omega
    · rename_i c1
      constructor
      · intro h
        rcases Nat.lt_or_ge D a with g | g
        · have := hl _ _ g; omega
        · exact g
      · intro h
        have := mono a D (by omega)
        omega
  · intro h1
    split
    · rename_i c1
      constructor
      · intro h
        rcases Nat.lt_or_ge D c with g | g
        · omega
        · have := mono _ _ g; omega
      · intro h
        have := hl D c (by omega)
        omega
    · rename_i c1
      constructor
      · intro h
        rcases Nat.lt_or_ge c D with g | g
        · have := hl _ _ g; omega
        · exact g
      · intro h
        have := mono D c (by omega)
        rcases Nat.eq_zero_or_pos par with g | g
        · omega
        · have : 0 < B % Y := by
            rcases Nat.eq_zero_or_pos (B % Y) with g2 | g2
            · exact absurd ⟨by omega, by omega⟩ c1
            · exact g2
          omega
theorem span_near {m : Nat} {e : Int} (h : Fe m e) (D : Nat) : Near (D * 10 ^ (spP m e).toNat * 2 ^ e74) (10 ^ (-(spP m e)).toNat) (bm m e) ↔ spF m e ≤ D ∧ D ≤ spL m e := by
  obtain ⟨v1, v2, v3, v4, v5⟩ := h.vf
  obtain ⟨h0, hE1, hE2⟩ := h.ends
  obtain ⟨s1, s2, s3, s4, s5⟩ := h.span
  obtain ⟨i1, i2⟩ := ends_iff (q := 4 * m - spB m e) (Q := 4 * m + 2) (X := spX m e) (Y := spY m e) (D := D) (par := m % 2) h0 (by omega)
  have i2 := i2 (by omega)
  have hF : spF m e = (4 * m - spB m e) * spX m e / spY m e + (if 0 < (4 * m - spB m e) * spX m e % spY m e ∨ m % 2 = 1 then 1 else 0) := rfl
  have hL : spL m e = (4 * m + 2) * spX m e / spY m e - (if m % 2 = 1 ∧ ¬ 0 < (4 * m + 2) * spX m e % spY m e then 1 else 0) := rfl
  rw [hF, hL, ← i1, ← i2]
  clear i1 i2 hF hL s1 s2 s3 s4 s5 hE1 hE2
  have hX : spX m e = 10 ^ (-(spP m e)).toNat * 2 ^ (e - 2).toNat := rfl
  have hY : spY m e = 10 ^ (spP m e).toNat * 2 ^ (-(e - 2)).toNat := rfl
  rw [hX, hY]
  generalize spP m e = p at *
  generalize spB m e = B at *
  obtain ⟨P, hP⟩ : ∃ P, 10 ^ p.toNat = P := ⟨_, rfl⟩
  obtain ⟨R, hR⟩ : ∃ R, 10 ^ (-p).toNat = R := ⟨_, rfl⟩
  have hsc : 2 ^ (e + 1074).toNat * 2 ^ (-(e - 2)).toNat = 4 * 2 ^ e74 * 2 ^ (e - 2).toNat := by
    rw [show (4 : Nat) = 2 ^ 2 by decide, ← Nat.pow_add, ← Nat.pow_add, ← Nat.pow_add]
    refine congrArg (2 ^ ·) ?_
    have := h.2.2.1
    rw [e74_eq]
    omega
  obtain ⟨T, hT⟩ : ∃ T, 2 ^ e74 = T := ⟨_, rfl⟩
  have hT0 : 0 < T := by rw [← hT]; exact Nat.two_pow_pos _
  obtain ⟨U, hU⟩ : ∃ U, 2 ^ (e + 1074).toNat = U := ⟨_, rfl⟩
  obtain ⟨V, hV⟩ : ∃ V, 2 ^ (e - 2).toNat = V := ⟨_, rfl⟩
  obtain ⟨Z, hZ⟩ : ∃ Z, 2 ^ (-(e - 2)).toNat = Z := ⟨_, rfl⟩
  have hZ0 : 0 < Z := by rw [← hZ]; exact Nat.two_pow_pos _
  rw [hP, hR, hT, hV, hZ]
  rw [hU] at v2 v3 hsc
  rw [hT, hV, hZ] at hsc
  clear hP hR hT hU hV hZ hX hY h0
  -- both sides times Z, or times 4 T
  have key : ∀ q, 2 * (2 * (D * P * T)) * Z = D * (P * Z) * (4 * T) ∧ q * U * R * Z = q * (R * V) * (4 * T) := fun q => by
    constructor
    · rw [show (4 : Nat) = 2 * 2 from rfl]
      simp only [Nat.mul_assoc, Nat.mul_left_comm, Nat.mul_comm]
    · rw [show q * U * R * Z = q * R * (U * Z) by simp only [Nat.mul_left_comm, Nat.mul_comm], hsc]
      simp only [Nat.mul_assoc, Nat.mul_left_comm, Nat.mul_comm]
  have cmp : ∀ q, (q * U * R < 2 * (2 * (D * P * T)) ↔ q * (R * V) < D * (P * Z)) ∧ (q * U * R = 2 * (2 * (D * P * T)) ↔ q * (R * V) = D * (P * Z)) ∧ (2 * (2 * (D * P * T)) < q * U * R ↔ D * (P * Z) < q * (R * V)) := fun q => by
    obtain ⟨k1, k2⟩ := key q
    have hT4 : 0 < 4 * T := by omega
    refine ⟨?_, ?_, ?_⟩
    · rw [← Nat.mul_lt_mul_right hZ0, k1, k2, Nat.mul_lt_mul_right hT4]
    · constructor
      · intro g
        have : q * U * R * Z = 2 * (2 * (D * P * T)) * Z := by rw [g]
        rw [k1, k2] at this
        exact Nat.eq_of_mul_eq_mul_right hT4 this
      · intro g
        have : q * (R * V) * (4 * T) = D * (P * Z) * (4 * T) := by rw [g]
        rw [← k1, ← k2] at this
        exact Nat.eq_of_mul_eq_mul_right hZ0 this
    · rw [← Nat.mul_lt_mul_right hZ0, k1, k2, Nat.mul_lt_mul_right hT4]
  obtain ⟨c1, c2, _⟩ := cmp (4 * m - B)
  obtain ⟨_, d2, d3⟩ := cmp (4 * m + 2)
  rw [← v2] at c1 c2
  rw [← v3] at d2 d3
  rw [← c1, ← c2, eq_comm (a := D * (P * Z)), ← d2, ← d3]
  generalize bm m e = b at *
  obtain ⟨x1, hx1⟩ : ∃ x, (vf (b - 1) + vf b) * R = x := ⟨_, rfl⟩
  obtain ⟨x2, hx2⟩ : ∃ x, (vf b + vf (b + 1)) * R = x := ⟨_, rfl⟩
  rw [Nat.mul_assoc 2 (vf (b - 1) + vf b), hx1, Nat.mul_assoc 2 (vf b + vf (b + 1)), hx2]
  constructor
  · intro n
    have l := n.lo
    have u := n.hi
    rw [hx1] at l
    rw [hx2] at u
    omega
  · intro n
    refine ⟨?_, ?_⟩
    · rw [hx1]; omega
    · rw [hx2]; omega
end Go.Proofs.YtcndkhgbgjnclaaGreatDoor.nn
/- The real fdec: the search finds decimals in the span, and none of fewer digits is in it (plain). -/
namespace Go.Proofs.YtcndkhgbgjnclaaGreatDoor.nn
open Go.RowKit

theorem cd_none {A F L P : Nat} {mo : Bool} (h : cd A mo F L P = none) (c : Nat) : ¬ (F ≤ c * P ∧ c * P ≤ L) := by
  unfold cd at h
  split at h
  · cases h
  · rename_i h1
    split at h
    · cases h
    · rename_i h2
      rintro ⟨g1, g2⟩
      rcases Nat.lt_or_ge (A / P) c with g | g
      · have : (A / P + 1) * P ≤ c * P := Nat.mul_le_mul_right _ g
        rw [Nat.add_mul, Nat.one_mul] at this
        exact h1 ⟨by omega, .inl (by omega)⟩
      · have : c * P ≤ A / P * P := Nat.mul_le_mul_right _ g
        omega
theorem cd_some {A F L P N : Nat} {mo : Bool} (hP : 0 < P) (hF : F ≤ A + 1) (hL : A ≤ L) (h : cd A mo F L P = some N) : F ≤ N ∧ N ≤ L ∧ (N = A / P * P ∨ N = A / P * P + P) := by
  have h1 := Nat.div_mul_le_self A P
  have h2 : A < A / P * P + P := by have h3 := Nat.div_add_mod A P; have := Nat.mod_lt A hP; rw [Nat.mul_comm] at h3; omega
  unfold cd at h
  split at h
  · injection h with h; omega
  · split at h
    · injection h with h; omega
    · cases h
theorem fws_ex {A F L : Nat} {mo : Bool} (h1 : cd A mo F L (10 ^ 1) ≠ none) : ∀ n, 1 ≤ n → ∃ j, 1 ≤ j ∧ j ≤ n ∧ cd A mo F L (10 ^ j) = some (fws A mo F L n) ∧ ∀ i, j < i → i ≤ n → cd A mo F L (10 ^ i) = none := fun n hn => by
  induction n with
  | zero => omega
  | succ n ih =>
    rw [fws]
    cases hc : cd A mo F L (10 ^ (n + 1)) with
    | some x => exact ⟨n + 1, by omega, Nat.le_refl _, hc, fun i h2 h3 => by omega⟩
    | none =>
      by_cases h0 : n = 0
      · subst h0; exact absurd hc h1
      · obtain ⟨j, a1, a2, a3, a4⟩ := ih (by omega)
        refine ⟨j, a1, by omega, a3, fun i h2 h3 => ?_⟩
        rcases (by omega : i = n + 1 ∨ i ≤ n) with rfl | g
        · exact hc
        · exact a4 i h2 g
/-- the span is wide: ten in a row -/
theorem Fe.wide {m : Nat} {e : Int} (h : Fe m e) : spA m e ≤ spL m e ∧ spF m e + 9 ≤ spL m e := by
  obtain ⟨h0, h1, h2⟩ := h.ends
  obtain ⟨a1, a2, a3, a4, a5⟩ := h.span
  obtain ⟨q1, q2, q3, q4, q5⟩ := h
  obtain ⟨X, hX⟩ : ∃ X, spX m e = X := ⟨_, rfl⟩
  obtain ⟨Y, hY⟩ : ∃ Y, spY m e = Y := ⟨_, rfl⟩
  have hF : spF m e ≤ (4 * m - spB m e) * X / Y + 1 := by unfold spF; rw [hX, hY]; split <;> omega
  have hL : (4 * m + 2) * X / Y ≤ spL m e + 1 := by unfold spL; rw [hX, hY]; split <;> omega
  have hA : spA m e = 4 * m * X / Y := by unfold spA; rw [hX, hY]
  rw [hX, hY] at h1
  rw [hY] at h0
  have hX0 : 11 * Y ≤ 4 * X := by
    have : 4 * m * X ≤ 9007199254740992 * (4 * X) := by
      rw [Nat.mul_comm 4 m, Nat.mul_assoc]
      exact Nat.mul_le_mul_right _ (by rw [h52] at q2; omega)
    omega
  have add : ∀ q k c, c * Y ≤ k * X → q * X / Y + c ≤ (q + k) * X / Y := fun q k c hc => by
    rw [Nat.add_mul, ← Nat.add_mul_div_right _ _ h0]
    exact Nat.div_le_div_right (by omega)
  have k1 := add (4 * m) 2 5 (by omega)
  rw [← hA] at k1
  refine ⟨by omega, ?_⟩
  by_cases c : m = 4503599627370496 ∧ -1074 < e
  · have hB : spB m e = 1 := if_pos c
    rw [hB] at hF
    have hm := c.1
    have : 15 * Y ≤ 3 * X := by
      have : 4 * m * X = 4503599627370496 * (4 * X) := by rw [hm, Nat.mul_comm 4, Nat.mul_assoc]
      omega
    have k2 := add (4 * m - 1) 3 11 (by omega)
    rw [show 4 * m - 1 + 3 = 4 * m + 2 by omega] at k2
    omega
  · have hB : spB m e = 2 := if_neg c
    rw [hB] at hF
    have k2 := add (4 * m - 2) 4 11 (by omega)
    rw [show 4 * m - 2 + 4 = 4 * m + 2 by omega] at k2
    omega
theorem cd_wide {A F L : Nat} {mo : Bool} (h : F + 9 ≤ L) : cd A mo F L (10 ^ 1) ≠ none := fun g => by
  have := cd_none g ((F + 9) / 10)
  omega
/-- what the search finds -/
theorem Fe.found {m : Nat} {e : Int} (h : Fe m e) : ∃ j, 1 ≤ j ∧ j ≤ j0 (spA m e) ∧ spF m e ≤ shN m e ∧ shN m e ≤ spL m e ∧ (shN m e = spA m e / 10 ^ j * 10 ^ j ∨ shN m e = spA m e / 10 ^ j * 10 ^ j + 10 ^ j) ∧ ∀ i, j < i → i ≤ j0 (spA m e) → ∀ c, ¬ (spF m e ≤ c * 10 ^ i ∧ c * 10 ^ i ≤ spL m e) := by
  obtain ⟨w1, w2⟩ := h.wide
  obtain ⟨a1, a2, a3, a4, a5⟩ := h.span
  obtain ⟨j, b1, b2, b3, b4⟩ := fws_ex (A := spA m e) (mo := spM m e) (cd_wide w2) (j0 (spA m e)) (by have := j0_le (spA m e); omega)
  obtain ⟨c1, c2, c3⟩ := cd_some (Nat.pow_pos (by decide)) a4 w1 b3
  exact ⟨j, b1, b2, c1, c2, c3, fun i h1 h2 c => cd_none (b4 i h1 h2) c⟩
/-- none of fewer digits -/
theorem Fe.fewest {m : Nat} {e : Int} (h : Fe m e) {V t : Nat} (hN : shN m e = V * 10 ^ t) (hV : V % 10 ≠ 0) (hV2 : 10 ≤ V) (c : Nat) : ¬ (spF m e ≤ c * 10 ^ (t + 1) ∧ c * 10 ^ (t + 1) ≤ spL m e) := by
  obtain ⟨j, b1, b2, b3, b4, b5, b6⟩ := h.found
  obtain ⟨a1, a2, a3, a4, a5⟩ := h.span
  have hd : ∃ c, shN m e = c * 10 ^ j := by
    rcases b5 with g | g
    · exact ⟨_, g⟩
    · exact ⟨spA m e / 10 ^ j + 1, by rw [g, Nat.add_mul, Nat.one_mul]⟩
  have htj : j ≤ t := by
    rcases Nat.lt_or_ge t j with g | g
    · exfalso
      obtain ⟨c, hc⟩ := hd
      rw [hN, show j = (j - t - 1) + 1 + t by omega, Nat.pow_add, ← Nat.mul_assoc] at hc
      have := Nat.eq_of_mul_eq_mul_right (Nat.pow_pos (by decide)) hc
      rw [Nat.pow_succ, ← Nat.mul_assoc] at this
      omega
    · exact g
  refine b6 (t + 1) (by omega) ?_ c
  have hj : 10 ^ (t + 1) ≤ shN m e := by rw [hN, Nat.pow_succ, Nat.mul_comm]; exact Nat.mul_le_mul_right _ hV2
  rcases Nat.lt_or_ge (j0 (spA m e)) (t + 1) with g | g
  · exfalso
    unfold j0 at g
    split at g
    · have : 10 ^ 19 ≤ 10 ^ (t + 1) := Nat.pow_le_pow_right (by decide) (by omega)
      omega
    · rename_i g0
      have hle : shN m e ≤ 1000000000000000000 := by
        have hj17 : j ≤ 17 := by unfold j0 at b2; rw [if_neg g0] at b2; exact b2
        have e1 : (10 : Nat) ^ 18 = 10 ^ (18 - j) * 10 ^ j := by rw [← Nat.pow_add, show 18 - j + j = 18 by omega]
        have h1 : spA m e / 10 ^ j < 10 ^ (18 - j) := by
          rw [Nat.div_lt_iff_lt_mul (Nat.pow_pos (by decide)), ← e1]
          omega
        have h2 : (spA m e / 10 ^ j + 1) * 10 ^ j ≤ 10 ^ (18 - j) * 10 ^ j := Nat.mul_le_mul_right _ h1
        rw [← e1, Nat.add_mul, Nat.one_mul, show (10 : Nat) ^ 18 = 1000000000000000000 by decide] at h2
        rcases b5 with g | g
        · rw [g]; exact Nat.le_trans (Nat.le_add_right _ _) h2
        · rw [g]; exact h2
      have : 10 ^ 18 ≤ 10 ^ (t + 1) := Nat.pow_le_pow_right (by decide) (by omega)
      rcases (by omega : t = 17 ∨ 18 ≤ t) with rfl | g3
      · rw [hN, show (10 : Nat) ^ 17 = 100000000000000000 by decide] at hle
        rw [hN, show (10 : Nat) ^ 17 = 100000000000000000 by decide, show (10 : Nat) ^ (17 + 1) = 1000000000000000000 by decide] at hj
        omega
      · have : 10 ^ 19 ≤ 10 ^ (t + 1) := Nat.pow_le_pow_right (by decide) (by omega)
        omega
  · exact g
/-- the decimals s times 10^(spP + t) -/
theorem Fe.near {m : Nat} {e : Int} (h : Fe m e) (s : ByteArray) (t : Nat) (z : Int) (hz : z = spP m e + (t : Int)) : RN s z (bm m e) ↔ spF m e ≤ dv (bt s) s.size * 10 ^ t ∧ dv (bt s) s.size * 10 ^ t ≤ spL m e := by
  rw [← span_near h]
  unfold RN rX rY
  subst hz
  generalize spP m e = p at *
  generalize dv (bt s) s.size = V at *
  have e1 : 10 ^ (p + (t : Int)).toNat * 10 ^ (-p).toNat = 10 ^ t * 10 ^ p.toNat * 10 ^ (-(p + (t : Int))).toNat := by
    rw [← Nat.pow_add, ← Nat.pow_add, ← Nat.pow_add]
    refine congrArg (10 ^ ·) ?_
    omega
  obtain ⟨T, hT⟩ : ∃ T, 2 ^ e74 = T := ⟨_, rfl⟩
  rw [hT]
  have hs : V * 10 ^ (p + (t : Int)).toNat * T * 10 ^ (-p).toNat = V * 10 ^ t * 10 ^ p.toNat * T * 10 ^ (-(p + (t : Int))).toNat := by
    rw [show V * 10 ^ (p + (t : Int)).toNat * T * 10 ^ (-p).toNat = V * T * (10 ^ (p + (t : Int)).toNat * 10 ^ (-p).toNat) by simp only [Nat.mul_assoc, Nat.mul_left_comm, Nat.mul_comm], e1]
    simp only [Nat.mul_assoc, Nat.mul_left_comm, Nat.mul_comm]
  exact ⟨fun n => near_same (Nat.pow_pos (by decide)) (Nat.pow_pos (by decide)) hs n, fun n => near_same (Nat.pow_pos (by decide)) (Nat.pow_pos (by decide)) hs.symm n⟩
end Go.Proofs.YtcndkhgbgjnclaaGreatDoor.nn
/- The real fdec: the shortest digits as a text (plain); the bits of m and e. -/
namespace Go.Proofs.YtcndkhgbgjnclaaGreatDoor.nn
open Go.RowKit

theorem bt_lf (l : List UInt8) (i : Nat) (h : i < l.length) : bt ⟨l.toArray⟩ i = lf_ l i := by
  have hs : ByteArray.size ⟨l.toArray⟩ = l.length := List.size_toArray
  rw [bt_at (by omega)]
  unfold lf_
  rw [List.getD_eq_getElem?_getD, List.getElem?_eq_getElem h]
  rfl
theorem drop_split (c : UInt8) (r : List UInt8) : ∃ t, r = List.replicate t c ++ r.dropWhile (· == c) ∧ ∀ x q, r.dropWhile (· == c) = x :: q → x ≠ c := by
  induction r with
  | nil => exact ⟨0, rfl, fun x q h => by cases h⟩
  | cons a r ih =>
    by_cases h : a = c
    · subst h
      obtain ⟨t, h1, h2⟩ := ih
      rw [List.dropWhile_cons_of_pos (by simp)]
      refine ⟨t + 1, ?_, h2⟩
      rw [List.replicate_succ, List.cons_append, ← h1]
    · rw [List.dropWhile_cons_of_neg (by simpa using h)]
      refine ⟨0, rfl, fun x q g => ?_⟩
      injection g with g1 g2
      rw [← g1]
      exact h
theorem trimR_split (l : List UInt8) (c : UInt8) : ∃ t, l = Lib.trimRightB l c ++ List.replicate t c ∧ ∀ q x, Lib.trimRightB l c = q ++ [x] → x ≠ c := by
  obtain ⟨t, h1, h2⟩ := drop_split c l.reverse
  refine ⟨t, ?_, fun q x h => ?_⟩
  · have := congrArg List.reverse h1
    rw [List.reverse_reverse, List.reverse_append, List.reverse_replicate] at this
    exact this
  · refine h2 x q.reverse ?_
    have := congrArg List.reverse h
    unfold Lib.trimRightB at this
    rw [List.reverse_reverse, List.reverse_append] at this
    exact this
theorem dec_head {N : Nat} : 0 < N → lf_ (Lib.decDigits N) 0 ≠ 48 := by
  induction N using Nat.strongRecOn with
  | _ N ih =>
    intro h0
    by_cases h : N < 10
    · rw [Lib.decDigits_one h]
      show (UInt8.ofNat (48 + N)).toNat ≠ 48
      rw [digit_nat h]
      omega
    · rw [dec_big h, lf_lo]
      · exact ih (N / 10) (by omega) (by omega)
      · rw [Lib.decDigits_length]
        exact Nat.pos_of_ne_zero fun g => by
          have := Lib.lt_pow_nDigits (N / 10)
          rw [g] at this
          omega
theorem sh_digits {N : Nat} (h0 : 0 < N) (l : List UInt8) (hl : Lib.trimRightB (Lib.decDigits N) 48 = l) : ∃ t V, (Lib.decDigits N).length = l.length + t ∧ N = V * 10 ^ t ∧ V % 10 ≠ 0 ∧ 0 < l.length ∧ dgs (bt ⟨l.toArray⟩) l.length = true ∧ dv (bt ⟨l.toArray⟩) l.length = V ∧ bt ⟨l.toArray⟩ 0 ≠ 48 ∧ bt ⟨l.toArray⟩ (l.length - 1) ≠ 48 := by
  obtain ⟨t, h1, h2⟩ := trimR_split (Lib.decDigits N) 48
  obtain ⟨r1, r2⟩ := dec_read N
  have r3 := dec_head h0
  rw [hl] at h1 h2
  generalize Lib.decDigits N = d at *
  have hlen : d.length = l.length + t := by rw [h1, List.length_append, List.length_replicate]
  have hsz : ByteArray.size ⟨l.toArray⟩ = l.length := List.size_toArray
  have hbt : ∀ i, i < l.length → lf_ d i = bt ⟨l.toArray⟩ i := fun i hi => by rw [bt_lf l i hi, h1, lf_lo hi]
  have hdg : dgs (bt ⟨l.toArray⟩) l.length = true := by rw [← dgs_congr hbt]; exact dgs_mono r1 (by omega)
  have hcat : (⟨l.toArray⟩ ++ zk t : ByteArray) = ⟨d.toArray⟩ := by
    rw [h1]
    refine ByteArray.ext ?_
    rw [ByteArray.data_append]
    show l.toArray ++ (List.replicate t 48).toArray = _
    simp
  have hz := (dv_zk (a := ⟨l.toArray⟩) (by rw [hsz]; exact hdg) t).2
  have hsz2 : ByteArray.size ⟨d.toArray⟩ = d.length := List.size_toArray
  rw [hcat, hsz, hsz2, dv_congr (g := lf_ d) (fun i hi => bt_lf d i hi), r2] at hz
  have hpos : 0 < l.length := by
    rcases Nat.eq_zero_or_pos l.length with g | g
    · rw [g] at hz
      simp [dv] at hz
      omega
    · exact g
  have hlast : bt ⟨l.toArray⟩ (l.length - 1) ≠ 48 := by
    have hne : l ≠ [] := by intro g; rw [g] at hpos; exact absurd hpos (by decide)
    have e := (List.dropLast_concat_getLast hne).symm
    have h3 := h2 _ _ e
    rw [bt_lf l _ (by omega)]
    have e2 : lf_ l (l.length - 1) = (l.getLast hne).toNat := by
      unfold lf_
      rw [List.getD_eq_getElem?_getD, List.getElem?_eq_getElem (by omega), List.getLast_eq_getElem]
      rfl
    rw [e2]
    intro g
    exact h3 (UInt8.toNat_inj.1 g)
  refine ⟨t, _, hlen, hz, ?_, hpos, hdg, rfl, ?_, hlast⟩
  · obtain ⟨n, hn⟩ : ∃ n, l.length = n + 1 := ⟨l.length - 1, by omega⟩
    rw [hn] at hlast hdg ⊢
    have := dgs_at hdg (i := n) (by omega)
    rw [dv]
    rw [Nat.add_sub_cancel] at hlast
    omega
  · rw [← hbt 0 hpos]
    exact r3
/-- the parts of bits -/
theorem xa_fe (x : Nat) (_hx : x < 18446744073709551616) (hO : xaO x = true) (hm : xaM x ≠ 0) : Fe (xaM x) (xaE x) ∧ bm (xaM x) (xaE x) = x % 9223372036854775808 ∧ bm (xaM x) (xaE x) < inf := by
  have e1 : ex 64 x = x / 4503599627370496 % 2048 := rfl
  have e2 : fr 64 x = x % 4503599627370496 := rfl
  unfold xaO at hO
  have hO := of_decide_eq_true hO
  have hh : hid52 = 4503599627370496 := rfl
  rw [inf_eq]
  by_cases c : ex 64 x = 0
  · have hM : xaM x = fr 64 x := by unfold xaM; rw [if_neg hO, if_pos c]
    have hE : xaE x = -1074 := by unfold xaE; rw [if_neg hO, if_pos c]
    rw [hM] at hm
    unfold bm Fe
    rw [hM, hE, show h52 = 4503599627370496 from rfl]
    omega
  · have hM : xaM x = fr 64 x + hid52 := by unfold xaM; rw [if_neg hO, if_neg c]
    have hE : xaE x = (ex 64 x : Int) - 1075 := by unfold xaE; rw [if_neg hO, if_neg c]
    unfold bm Fe
    rw [hM, hE, hh, show h52 = 4503599627370496 from rfl, show ((ex 64 x : Int) - 1075 + 1074).toNat = ex 64 x - 1 by omega]
    omega
end Go.Proofs.YtcndkhgbgjnclaaGreatDoor.nn
/- The real fdec: Scan of a text with an exponent that Text tells (plain). -/
namespace Go.Proofs.YtcndkhgbgjnclaaGreatDoor.nn
open Go.RowKit

/-- digits as a text -/
def xdT (N : Nat) : ByteArray := ⟨(Lib.decDigits N).toArray⟩
theorem xd_num (N : Nat) : dgs (bt (xdT N)) (xdT N).size = true ∧ dv (bt (xdT N)) (xdT N).size = N ∧ 0 < (xdT N).size := by
  obtain ⟨r1, r2⟩ := dec_read N
  have hz : (xdT N).size = (Lib.decDigits N).length := List.size_toArray
  have hb : ∀ i, i < (Lib.decDigits N).length → bt (xdT N) i = lf_ (Lib.decDigits N) i := fun i hi => bt_lf _ i hi
  rw [hz, dgs_congr hb, dv_congr hb]
  exact ⟨r1, r2, by rw [Lib.decDigits_length]; exact Lib.nDigits_pos N⟩
/-- what stands behind the first digit -/
def ptT (D : ByteArray) : ByteArray := if 1 < D.size then ⟨#[46]⟩ ++ cutT D 1 D.size else ⟨#[]⟩
theorem wx_form (D : ByteArray) (z : Int) : (⟨(wxL D z).toArray⟩ : ByteArray) = cutT D 0 1 ++ ptT D ++ ⟨#[101]⟩ ++ (sgT (decide (z < 0)) ++ xdT z.natAbs) := by
  have hi : Lib.itoa z = (sgT (decide (z < 0)) ++ xdT z.natAbs).data.toList := by
    unfold Lib.itoa xdT sgT
    by_cases c : z < 0
    · rw [if_pos c, decide_eq_true c, if_pos rfl]
      simp
    · rw [if_neg c, decide_eq_false c, if_neg (by decide), show z.natAbs = z.toNat by omega]
      simp
  unfold wxL ptT
  rw [hi]
  split
  · refine ByteArray.ext ?_
    simp
  · refine ByteArray.ext ?_
    simp
theorem sc_exp {g : Bool} {D : ByteArray} {b : Nat} {E z : Int} (h0 : 0 < D.size) (hs : D.size ≤ 500) (hd : dgs (bt D) D.size = true) (hV : dv (bt D) D.size ≠ 0) (hz : z = E + (D.size : Int) - 1) (hz2 : -1000 ≤ z ∧ z ≤ 1000) (hb : RN D E b) :
    ScIs (sgT g ++ ⟨(wxL D z).toArray⟩) (roV g b) (roE b) := by
  rw [wx_form]
  obtain ⟨x1, x2, x3⟩ := xd_num z.natAbs
  have x4 : (xdT z.natAbs).size ≤ 4 := by
    show (Lib.decDigits z.natAbs).toArray.size ≤ 4
    rw [List.size_toArray, Lib.decDigits_length]
    exact nd_le 4 _ (by decide) (by have : (10 : Nat) ^ 4 = 10000 := by decide
                                    omega)
  obtain ⟨X, hX⟩ : ∃ X, xdT z.natAbs = X := ⟨_, rfl⟩
  rw [hX] at x1 x2 x3 x4 ⊢
  obtain ⟨ng, hng⟩ : ∃ n, decide (z < 0) = n := ⟨_, rfl⟩
  rw [hng]
  have s1 : (cutT D 0 1).size = 1 := by rw [cutT_size (by omega)]
  have s2 : (ptT D).size = if 1 < D.size then 1 + (D.size - 1) else 0 := by
    unfold ptT
    split
    · rw [ByteArray.size_append, cutT_size (Nat.le_refl _)]; rfl
    · rfl
  obtain ⟨P, hP⟩ : ∃ P, ptT D = P := ⟨_, rfl⟩
  have e101 : ByteArray.size ⟨#[101]⟩ = 1 := rfl
  have sM : (sgT ng ++ X).size = sgN ng + X.size := sg_size
  have s3 : (cutT D 0 1 ++ P).size = 1 + P.size := by rw [ByteArray.size_append, s1]
  have s4 : (cutT D 0 1 ++ P ++ ⟨#[101]⟩).size = 1 + P.size + 1 := by rw [ByteArray.size_append, s3]; rfl
  obtain ⟨L, hL⟩ : ∃ L, cutT D 0 1 ++ P ++ ⟨#[101]⟩ ++ (sgT ng ++ X) = L := ⟨_, rfl⟩
  have sL : L.size = 1 + P.size + 1 + (sgN ng + X.size) := by rw [← hL, ByteArray.size_append, s4, sM]
  have b0 : bt L 0 = bt D 0 := by
    rw [← hL, fbt_app_left (by omega), fbt_app_left (by omega), fbt_app_left (by omega)]
    exact bt_cutT (s := D) (a := 0) (b := 1) (i := 0) (by omega) (by omega)
  have bP : ∀ i, i < P.size → bt L (1 + i) = bt P i := fun i hi => by
    have e := fbt_app_right (a := cutT D 0 1) (b := P) (i := i) hi
    rw [s1] at e
    rw [← hL, fbt_app_left (by omega), fbt_app_left (by omega), e]
  have bC : bt L (1 + P.size) = 101 := by
    have e := fbt_app_right (a := cutT D 0 1 ++ P) (b := ⟨#[101]⟩) (i := 0) (by rw [e101]; decide)
    rw [s3, Nat.add_zero] at e
    rw [← hL, fbt_app_left (by omega), e]
    rfl
  have bM : ∀ i, i < sgN ng + X.size → bt L (1 + P.size + 1 + i) = bt (sgT ng ++ X) i := fun i hi => by
    have e := fbt_app_right (a := cutT D 0 1 ++ P ++ ⟨#[101]⟩) (b := sgT ng ++ X) (i := i) (by omega)
    rw [s4] at e
    rw [← hL, e]
  rw [hP, hL]
  rw [hP] at s2
  have hd0 := dgs_at hd h0
  have hPd : 1 < D.size → P = ⟨#[46]⟩ ++ cutT D 1 D.size := fun c => by rw [← hP]; unfold ptT; rw [if_pos c]
  have s46 : ByteArray.size ⟨#[46]⟩ = 1 := rfl
  have p0 : 1 < D.size → bt P 0 = 46 := fun c => by rw [hPd c, fbt_app_left (by rw [s46]; decide)]; rfl
  have p1 : 1 < D.size → ∀ i, i < D.size - 1 → bt P (1 + i) = bt D (1 + i) := fun c i hi => by
    have e := fbt_app_right (a := ⟨#[46]⟩) (b := cutT D 1 D.size) (i := i) (by rw [cutT_size (Nat.le_refl _)]; omega)
    rw [s46] at e
    rw [hPd c, e, bt_cutT (Nat.le_refl _) (by omega)]
  have sT : (sgT g ++ L).size = sgN g + L.size := sg_size
  have hsn : ∀ c : Bool, sgN c = if c then 1 else 0 := fun _ => rfl
  obtain ⟨a1, a2, a3, a4, a5, a6⟩ := form_exp (T := sgT g ++ L) (a := sgN g) (f := D.size - 1) (x := X.size) (dot := decide (1 < D.size)) (ng := ng) (C := sgN g + 1 + P.size) (S := sgN g + 1 + P.size + 1 + sgN ng) sg_at
    (by rw [s2]; by_cases c : 1 < D.size
        · rw [if_pos c, decide_eq_true c, if_pos rfl]; omega
        · rw [if_neg c, decide_eq_false c, if_neg (by decide)])
    (by cases ng <;> rfl) (by rw [sT, sL]; omega) x3 (fun c => by have := of_decide_eq_true c; omega)
    (by have e := sg_bt (g := g) (L := L) (i := 0) (by omega)
        rw [Nat.add_zero] at e
        rw [e, b0]
        exact hd0)
    (fun c => by
      have c := of_decide_eq_true c
      rw [if_pos c] at s2
      have e := bP 0 (by omega)
      rw [sg_bt (by omega)]
      exact e.trans (p0 c))
    (fun c i hi => by
      have c := of_decide_eq_true c
      rw [if_pos c] at s2
      have e := bP (1 + i) (by omega)
      rw [p1 c i hi] at e
      rw [show sgN g + 2 + i = sgN g + (1 + (1 + i)) by omega, sg_bt (by omega), e]
      exact dgs_at hd (by omega))
    (by rw [Nat.add_assoc, sg_bt (by omega)]; exact bC)
    (fun c => by
      subst c
      have e := bM 0 (by rw [hsn]; simp; omega)
      rw [show sgN g + 1 + P.size + 1 = sgN g + (1 + P.size + 1 + 0) by omega, sg_bt (by rw [hsn] at sL; simp at sL; omega), e, fbt_app_left (by decide)]
      rfl)
    (fun i hi => by
      have e := bM (sgN ng + i) (by omega)
      rw [sg_bt hi] at e
      rw [show sgN g + 1 + P.size + 1 + sgN ng + i = sgN g + (1 + P.size + 1 + (sgN ng + i)) by omega, sg_bt (by omega), e]
      exact dgs_at x1 hi)
  have hC0 : sgN g + 1 + P.size = if 1 < D.size then sgN g + 2 + (D.size - 1) else sgN g + 1 := by
    rw [s2]
    split <;> omega
  have w1 : (cutT (sgT g ++ L) (sgN g) (sgN g + 1)).size = 1 := by rw [cutT_size (by omega)]; omega
  have eF : (cF (sgT g ++ L)).size = D.size - 1 ∧ ∀ i, i < D.size - 1 → bt (cF (sgT g ++ L)) i = bt D (1 + i) := by
    rw [a3]
    by_cases c : 1 < D.size
    · rw [decide_eq_true c, if_pos rfl]
      rw [if_pos c] at s2
      refine ⟨by rw [cutT_size (by omega)]; omega, fun i hi => ?_⟩
      have e := bP (1 + i) (by omega)
      rw [p1 c i hi] at e
      rw [bt_cutT (by omega) (by omega), show sgN g + 2 + i = sgN g + (1 + (1 + i)) by omega, sg_bt (by omega), e]
    · rw [decide_eq_false c, if_neg (by decide)]
      exact ⟨by show 0 = _; omega, fun i hi => by omega⟩
  have eX : cX (sgT g ++ L) = X := by
    rw [a4]
    refine fba_ext (by rw [cutT_size (Nat.le_refl _)]; omega) fun i hi => ?_
    rw [cutT_size (Nat.le_refl _)] at hi
    have e := bM (sgN ng + i) (by omega)
    rw [sg_bt (by omega)] at e
    rw [bt_cutT (Nat.le_refl _) (by omega), show sgN g + 1 + P.size + 1 + sgN ng + i = sgN g + (1 + P.size + 1 + (sgN ng + i)) by omega, sg_bt (by omega), e]
  have eD : scD (sgT g ++ L) = D := by
    unfold scD
    rw [a2]
    refine fba_ext (by rw [ByteArray.size_append, w1, eF.1]; omega) fun i hi => ?_
    rw [ByteArray.size_append, w1, eF.1] at hi
    rcases (by omega : i = 0 ∨ 1 ≤ i) with rfl | c
    · have e := sg_bt (g := g) (L := L) (i := 0) (by omega)
      rw [fbt_app_left (by omega), bt_cutT (by omega) (by omega), e, b0]
    · obtain ⟨j, rfl⟩ : ∃ j, i = 1 + j := ⟨i - 1, by omega⟩
      have e := fbt_app_right (a := cutT (sgT g ++ L) (sgN g) (sgN g + 1)) (b := cF (sgT g ++ L)) (i := j) (by omega)
      rw [w1] at e
      rw [e, eF.2 j (by omega)]
  have eZ : scZ (sgT g ++ L) = E := by
    unfold scZ plZ
    rw [eX, eF.1, a5, x2]
    cases ng with
    | true =>
      have := of_decide_eq_true hng
      rw [if_pos rfl]
      omega
    | false =>
      have := of_decide_eq_false hng
      rw [if_neg (by decide)]
      omega
  have hWs : (cW (sgT g ++ L)).size = 1 := by rw [a2, w1]
  refine .inr (.inr (.inr (.inr ⟨a1, ?_, ?_, by rw [eZ]; omega, by rw [eZ]; omega, b, by rw [eD, eZ]; exact hb, ?_, rfl⟩)))
  · unfold scLong
    rw [hWs, eF.1, eX]
    omega
  · unfold scN
    rw [eD]
    exact hV
  · rw [a6]
    cases g <;> rfl
end Go.Proofs.YtcndkhgbgjnclaaGreatDoor.nn
/- The walk of the real fdec's Scan. -/
namespace Go.Proofs.YtcndkhgbgjnclaaGreatDoor.nn
open Go.RowKit

def ScAns (s : ByteArray) (w : World) (e : Ending) (w' : World) : Prop := ∃ V E : Nat, e = .returned (.tuple #[.int .u64 (V : Int), .int .i64 (E : Int)]) ∧ ScIs s V E ∧ Below w.heap.size w w'
/-- the boxed parts of a call, at block g -/
structure Bq (w : World) (g : Nat) (neg : Bool) (Wt F : ByteArray) (ng : Bool) (X : ByteArray) (W : World) : Prop where
  c0 : W.cell? ⟨g, 0, none⟩ = some (.bool neg)
  c1 : W.cell? ⟨g, 1, none⟩ = some (.string Wt)
  c2 : W.cell? ⟨g, 2, none⟩ = some (.string F)
  c3 : W.cell? ⟨g, 3, none⟩ = some (.bool ng)
  c4 : W.cell? ⟨g, 4, none⟩ = some (.string X)
  b : Below w.heap.size w W
  z : g < W.heap.size
theorem Bq.on {w W W' : World} {g : Nat} {neg ng : Bool} {Wt F X : ByteArray} (h : Bq w g neg Wt F ng X W) (hB : Below W.heap.size W W') : Bq w g neg Wt F ng X W' :=
  ⟨(hB.cell (p := ⟨_, _, none⟩) h.z).trans h.c0, (hB.cell (p := ⟨_, _, none⟩) h.z).trans h.c1, (hB.cell (p := ⟨_, _, none⟩) h.z).trans h.c2, (hB.cell (p := ⟨_, _, none⟩) h.z).trans h.c3, (hB.cell (p := ⟨_, _, none⟩) h.z).trans h.c4, h.b.trans (hB.mono h.b.size), Nat.lt_of_lt_of_le h.z hB.size⟩
theorem Bq.drew {w W : World} {g : Nat} {neg ng : Bool} {Wt F X : ByteArray} (h : Bq w g neg Wt F ng X W) : Bq w g neg Wt F ng X W.drew := h.on (Below.drew (Below.refl _ _))
theorem Bq.new {w w1 : World} (neg ng : Bool) (Wt F X : ByteArray) (T : TypeId) (hb : Below w.heap.size w w1) : Bq w w1.heap.size neg Wt F ng X (w1.alloc (.cells #[.bool neg, .string Wt, .string F, .bool ng, .string X] T)) :=
  ⟨by simp, by simp, by simp, by simp, by simp, hb.alloc hb.size _, by simp⟩
theorem Bq.all {w W : World} {g : Nat} {neg ng : Bool} {Wt F X : ByteArray} (h : Bq w g neg Wt F ng X W) : W.cell? ⟨g, 0, none⟩ = some (.bool neg) ∧ W.cell? ⟨g, 1, none⟩ = some (.string Wt) ∧ W.cell? ⟨g, 2, none⟩ = some (.string F) ∧ W.cell? ⟨g, 3, none⟩ = some (.bool ng) ∧ W.cell? ⟨g, 4, none⟩ = some (.string X) ∧ Bq w g neg Wt F ng X W := ⟨h.c0, h.c1, h.c2, h.c3, h.c4, h⟩

set_option maxRecDepth 100000 in
set_option maxHeartbeats 2000000 in
theorem scan_no (s : ByteArray) (w : World) (hs : s.size ≤ 140737488351232) (hok : cOk s = false) :
    Calls Tryz.prog 12 #[.string s] w (ScAns s w) := by
  have HC := Lib.hid (cut_any s w (by unfold maxLen; omega))
  rw [hok] at HC
  have HS := Lib.hid (show ScIs s 0 4 from .inl ⟨hok, rfl, rfl⟩)
  unfold CuAns at HC
  clear hok hs
  obtain ⟨neg, hneg⟩ : ∃ b, at_ s 0 45 = b := ⟨_, rfl⟩
  rw [hneg] at HC
  clear hneg
  go_enter Tryz.func12, Tryz.ntmps12
  go_wp2_with fail
  refine HC.out.mono ?_
  rintro e w1 ⟨rfl, hb1⟩
  have HB := Lib.hid (fun T => (Bq.new neg (cN s) (cW s) (cF s) (cX s) T hb1).b)
  clear hb1
  go_wp2_with fail
  go_ret2
  exact ⟨0, 4, rfl, HS.out, HB.out _⟩

set_option maxRecDepth 100000 in
set_option maxHeartbeats 2000000 in
theorem scan_long (s : ByteArray) (w : World) (hs : s.size ≤ 140737488351232) (hok : cOk s = true) (hl : scLong s) :
    Calls Tryz.prog 12 #[.string s] w (ScAns s w) := by
  have HC := Lib.hid (cut_any s w (by unfold maxLen; omega))
  rw [hok] at HC
  have HS := Lib.hid (show ScIs s 0 2 from .inr (.inl ⟨hok, hl, rfl, rfl⟩))
  have b1 : (cW s).size ≤ s.size := by unfold cW cutT; rw [ByteArray.size_extract]; omega
  have b2 : (cF s).size ≤ s.size := by
    unfold cF
    split
    · unfold cutT; rw [ByteArray.size_extract]; omega
    · exact Nat.zero_le _
  unfold CuAns at HC
  unfold scLong at hl
  clear hok
  obtain ⟨neg, hneg⟩ : ∃ b, at_ s 0 45 = b := ⟨_, rfl⟩
  obtain ⟨Wt, hW⟩ : ∃ b, cW s = b := ⟨_, rfl⟩
  obtain ⟨F, hF⟩ : ∃ b, cF s = b := ⟨_, rfl⟩
  obtain ⟨ng, hng⟩ : ∃ b, cN s = b := ⟨_, rfl⟩
  obtain ⟨X, hX⟩ : ∃ b, cX s = b := ⟨_, rfl⟩
  rw [hneg, hW, hF, hng, hX] at HC
  rw [hW, hF, hX] at hl
  rw [hW] at b1
  rw [hF] at b2
  clear hneg hW hF hng hX
  by_cases c1 : 800 < Wt.size + F.size
  · clear hl
    go_enter Tryz.func12, Tryz.ntmps12
    go_wp2_with fail
    refine HC.out.mono ?_
    rintro e w1 ⟨rfl, hb1⟩
    have HB := Lib.hid (fun T => (Bq.new neg ng Wt F X T hb1).b)
    clear hb1
    go_wp2_with fail
    go_ret2
    exact ⟨0, 2, rfl, HS.out, HB.out _⟩
  · have c2 : 4 < X.size := by omega
    clear hl
    go_enter Tryz.func12, Tryz.ntmps12
    go_wp2_with fail
    refine HC.out.mono ?_
    rintro e w1 ⟨rfl, hb1⟩
    have HB := Lib.hid (fun T => (Bq.new neg ng Wt F X T hb1).b)
    clear hb1
    go_wp2_with fail
    go_ret2
    exact ⟨0, 2, rfl, HS.out, HB.out _⟩

set_option maxRecDepth 100000 in
set_option maxHeartbeats 4000000 in
theorem scan_go (s : ByteArray) (w : World) (hs : s.size ≤ 140737488351232) (hok : cOk s = true) (hl : ¬ scLong s) :
    Calls Tryz.prog 12 #[.string s] w (ScAns s w) := by
  have HC := Lib.hid (cut_any s w (by unfold maxLen; omega))
  rw [hok] at HC
  obtain ⟨t1, t2, t3, t4, t5, t6, t7, t8⟩ := sc_facts hok hl
  have hz : ∃ z, scZ s = z := ⟨_, rfl⟩
  obtain ⟨z, hz⟩ := hz
  have hzb : -2000000 ≤ z ∧ z ≤ 2000000 := by
    rw [← hz]
    unfold scZ plZ
    have := dv_lt t5
    have h2 : 10 ^ (cX s).size ≤ 10 ^ 4 := Nat.pow_le_pow_right (by decide) t4
    have h3 : (10 : Nat) ^ 4 = 10000 := by decide
    split <;> omega
  have HPL : Hid (∀ W, Calls Tryz.prog 30 #[pV (at_ s 0 45) (cW s) (cF s) (cN s) (cX s)] W fun e w' => e = .returned (.int .i64 z) ∧ Below W.heap.size W w') := Lib.hid fun W => by
    have := place_any (at_ s 0 45) (cW s) (cF s) (cN s) (cX s) W t4 (by omega) t5
    have e : plZ (cN s) (cX s) (cF s) = z := hz
    rw [e] at this
    exact this
  have HTR := Lib.hid (fun W => Tryz.strings_Trim_one (scD s) 48 (by decide) W (by omega))
  have hte := trim_zero t3
  obtain ⟨N, hN⟩ : ∃ N, dv (bt (scD s)) (scD s).size = N := ⟨_, rfl⟩
  obtain ⟨TT, hTT⟩ : ∃ T : ByteArray, (⟨(Lib.trimB (scD s).data.toList 48).toArray⟩ : ByteArray) = T := ⟨_, rfl⟩
  rw [hTT] at HTR hte
  rw [hN] at hte
  have hN2 : scN s = N := hN
  have A1 : Hid (N = 0 ∨ z < -2000 → ScIs s (sB (at_ s 0 45)) 0) := Lib.hid fun h => .inr (.inr (.inl ⟨hok, hl, by rw [hN2, hz]; exact h, rfl, rfl⟩))
  have A2 : Hid (N ≠ 0 → 2000 < z → ScIs s 0 8) := Lib.hid fun h g => .inr (.inr (.inr (.inl ⟨hok, hl, by rw [hN2]; exact h, by rw [hz]; exact g, rfl, rfl⟩)))
  have A3 : Hid (N ≠ 0 → -2000 ≤ z → z ≤ 2000 → ∃ b, (∀ neg W, Calls Tryz.prog 15 #[.bool neg, .string (scD s), .int .i64 z] W (RoAns (roV neg b) (roE b) W)) ∧ ScIs s (roV (at_ s 0 45) b) (roE b)) := Lib.hid fun h g1 g2 => by
    obtain ⟨b, hb⟩ := RN_ex (scD s) z
    refine ⟨b, fun neg W => round_yes neg (scD s) z b W ?_ hb, ?_⟩
    · unfold rfE
      rw [if_neg (by omega), t3, decide_eq_true t2, if_neg (by decide), if_neg (by omega)]
    · exact .inr (.inr (.inr (.inr ⟨hok, hl, by rw [hN2]; exact h, by rw [hz]; exact g1, by rw [hz]; exact g2, b, by rw [hz]; exact hb, rfl, rfl⟩)))
  have hDs : scD s = cW s ++ cF s := rfl
  rw [hDs] at HTR A3
  unfold CuAns at HC
  unfold pV at HPL
  have hw8 : (cW s).size + (cF s).size ≤ 800 := by omega
  obtain ⟨neg, hneg⟩ : ∃ b, at_ s 0 45 = b := ⟨_, rfl⟩
  obtain ⟨Wt, hW⟩ : ∃ b, cW s = b := ⟨_, rfl⟩
  obtain ⟨F, hF⟩ : ∃ b, cF s = b := ⟨_, rfl⟩
  obtain ⟨ng, hng⟩ : ∃ b, cN s = b := ⟨_, rfl⟩
  obtain ⟨X, hX⟩ : ∃ b, cX s = b := ⟨_, rfl⟩
  rw [hneg, hW, hF, hng, hX] at HC HPL
  rw [hW, hF] at hw8 HTR A3
  rw [hneg] at A1 A3
  rw [hX] at t4
  have t4' : X.size ≤ 4 := t4
  obtain ⟨z1, z2⟩ := hzb
  have FS := Lib.hid (fun W => fsigned_any neg 0 W (by decide))
  rw [Nat.add_zero] at FS
  clear hok hl t1 t2 t3 t5 t6 t7 t8 hz hN hTT hN2 hDs hneg hW hF hng hX t4 hs
  go_enter Tryz.func12, Tryz.ntmps12
  go_wp2_with fail
  refine HC.out.mono ?_
  rintro e w1 ⟨rfl, hb1⟩
  have HB := Lib.hid (Bq.new neg ng Wt F X 61 hb1)
  clear hb1
  go_wp2_with fail
  obtain ⟨W2, hW2⟩ : ∃ W2, w1.alloc (.cells #[.bool neg, .string Wt, .string F, .bool ng, .string X] 61) = W2 := ⟨_, rfl⟩
  rw [hW2] at HB ⊢
  obtain ⟨g, hg⟩ : ∃ g, w1.heap.size = g := ⟨_, rfl⟩
  rw [hg] at HB ⊢
  clear hW2 hg
  have HX := Lib.hid (fun W (h : Bq w g neg Wt F ng X W) => h.all)
  have HI := Lib.hid (fun W (h : Bq w g neg Wt F ng X W) => (HPL.out W).mono fun e w' ⟨he, hb⟩ => (⟨he, h.on hb⟩ : e = Ending.returned (.int .i64 z) ∧ Bq w g neg Wt F ng X w'))
  have HT := Lib.hid (fun W (h : Bq w g neg Wt F ng X W) => (HTR.out W).mono fun e w' ⟨he, hb⟩ => (⟨he, by rcases hb with rfl | rfl; exact h; exact h.drew⟩ : e = Ending.returned (.string TT) ∧ Bq w g neg Wt F ng X w'))
  have hk0 := HB.out.drew
  have hx0 := HX.out _ hk0
  have hsum : ¬ 9223372036854775807 < Wt.size + F.size := by omega
  go_region_held3 (fun W => W.cell? ⟨g, 0, none⟩ = some (.bool neg) ∧ W.cell? ⟨g, 1, none⟩ = some (.string Wt) ∧ W.cell? ⟨g, 2, none⟩ = some (.string F) ∧ W.cell? ⟨g, 3, none⟩ = some (.bool ng) ∧ W.cell? ⟨g, 4, none⟩ = some (.string X) ∧ Bq w g neg Wt F ng X W) (first | exact HX.out _ ‹_› | exact HX.out _ (And.right ‹_›))
    (first | (go_at_call 30; refine (HI.out _ ?_).mono ?_; (first | assumption | exact And.right ‹_›); rintro e w' ⟨rfl, hk5⟩))
  clear hx0
  by_cases hN0 : N = 0
  · rw [decide_eq_true hN0] at hte
    have AA := Lib.hid (A1.out (.inl hN0))
    clear hN0 A1 A2 A3
    go_wp2_with fail
    refine (HT.out _ hk5).mono ?_
    rintro e w4 ⟨rfl, hk6⟩
    have H6 := Lib.hid hk6
    have c0 := hk6.c0
    clear hk6 hk5
    go_wp2_with fail
    refine (FS.out _).mono ?_
    rintro e w' ⟨rfl, rfl⟩
    go_wp2_with fail
    go_ret2
    exact ⟨_, 0, rfl, AA.out, H6.out.b⟩
  · rw [decide_eq_false hN0] at hte
    by_cases k1 : z < -2000
    · have AA := Lib.hid (A1.out (.inr k1))
      clear hN0 A1 A2 A3
      go_wp2_with fail
      refine (HT.out _ hk5).mono ?_
      rintro e w4 ⟨rfl, hk6⟩
      have H6 := Lib.hid hk6
      have c0 := hk6.c0
      clear hk6 hk5
      go_wp2_with fail
      refine (FS.out _).mono ?_
      rintro e w' ⟨rfl, rfl⟩
      go_wp2_with fail
      go_ret2
      exact ⟨_, 0, rfl, AA.out, H6.out.b⟩
    · by_cases k2 : 2000 < z
      · have AA := Lib.hid (A2.out hN0 k2)
        clear hN0 A1 A2 A3
        go_wp2_with fail
        refine (HT.out _ hk5).mono ?_
        rintro e w4 ⟨rfl, hk6⟩
        have H6 := Lib.hid hk6
        have c0 := hk6.c0
        clear hk6 hk5
        go_wp2_with fail
        go_ret2
        exact ⟨0, 8, rfl, AA.out, H6.out.b⟩
      · obtain ⟨b, hr, hsc⟩ := A3.out hN0 (by omega) (by omega)
        have RR := Lib.hid (fun W => hr neg W)
        have AA := Lib.hid hsc
        unfold RoAns at RR
        clear hN0 A1 A2 A3 hr hsc
        go_wp2_with fail
        refine (HT.out _ hk5).mono ?_
        rintro e w4 ⟨rfl, hk6⟩
        have H6 := Lib.hid hk6
        have c0 := hk6.c0
        clear hk6 hk5
        go_wp2_with fail
        refine (RR.out _).mono ?_
        rintro e w5 ⟨rfl, hb5⟩
        have B5 := Lib.hid (H6.out.b.trans (hb5.mono H6.out.b.size))
        clear hb5
        go_wp2_with fail
        go_ret2
        exact ⟨_, _, rfl, AA.out, B5.out⟩
theorem scan_any (s : ByteArray) (w : World) (hs : s.size ≤ 140737488351232) : Calls Tryz.prog 12 #[.string s] w (ScAns s w) := by
  cases hok : cOk s with
  | false => exact scan_no s w hs hok
  | true =>
    by_cases hl : scLong s
    · exact scan_long s w hs hok hl
    · exact scan_go s w hs hok hl
end Go.Proofs.YtcndkhgbgjnclaaGreatDoor.nn
