/- Joined texts: FormatUint, Repeat, Digits, FdShort, FdFewA, FdFewB, Bytes, FdMore, FdecOrderW, FdParse, FdecFewestW, FdLaid, OpenS. -/
import Derived.Test.YtcndkhgbgjnclaaGreatDoorShelf
import Derived.Lib.AppendIntMem
import Derived.Lib.LaidTab
import Derived.WalkKit
import Derived.Lib.Hide
import Derived.Below
import Derived.Deep.WholeRow
import Derived.Test.YtcndkhgbgjnclaaGreatDoorProg
import Derived.Laws.BytesArg
import Derived.Laws.IdiomStrings
import Derived.Deep.DeepCutAuto
import Derived.Test.YtcndkhgbgjnclaaGreatDoorRows
import Derived.ProofKit
import Derived.SizedLaws
import Derived.ChangeMaps5
import Derived.OpenShut
import Derived.Deep.DeepHandedRow
import Derived.LaidSub
import Derived.Test.YtcndkhgbgjnclaaGreatDoorJd
/- The walk of strconv.FormatUint at base 10: the decimal digits of a number of 64 bits. The table of the powers of ten is asked for. -/
namespace Go.Proofs.YtcndkhgbgjnclaaGreatDoor.nn
open Go.RowKit Go.Sort

/-- the table of the powers of ten stands in w -/
def Pow10 (w : World) : Prop := Lib.TabIs Tryz.prog w "internal/strconv.uint64pow10" .u64 Lib.pow10Tab

theorem below_put {α : Type} [Inhabited α] (enc : α → Value) (w : World) (o : Obj) (off : Nat) (d : Array α) (k : Nat) : Below w.heap.size w ((putRow enc (w.alloc o) w.heap.size off d).drewN k) :=
  ⟨rfl, rfl, rfl, by show w.heap.size ≤ (putRow enc (w.alloc o) w.heap.size off d).heap.size; rw [size_putRow]; simp, fun i hi => by
    show (putRow enc (w.alloc o) w.heap.size off d).heap[i]? = _
    unfold putRow mapBlock
    rw [Array.getElem?_modify, if_neg (by omega)]
    exact Below.heap_alloc _ _ _ hi⟩

set_option maxRecDepth 100000 in
set_option maxHeartbeats 2000000 in
theorem fmt_any (u : Nat) (w : World) (hu : u < 18446744073709551616) (ht : Pow10 w) :
    Calls Tryz.prog 52 #[.int .u64 (u : Int), .int .i64 10] w fun e w' => e = .returned (.string ⟨(Lib.decDigits u).toArray⟩) ∧ Below w.heap.size w w' := by
  have HB := Lib.hid (Below.refl w.heap.size w)
  by_cases h100 : u < 100
  · have HS := Lib.hid (fun W => (Tryz.internal_strconv_small u h100 W))
    have e1 : wrap64 (u : Int) = (u : Int) := by unfold wrap64; omega
    clear ht
    go_enter Tryz.func52, Tryz.ntmps52
    go_wp2_with fail
    refine (HS.out _).mono ?_
    rintro e w' ⟨rfl, rfl⟩
    go_wp2_with fail
    go_ret
    exact ⟨rfl, HB.out⟩
  · have hu1 : 1 ≤ u := by omega
    have hnd20 : Lib.nDigits u ≤ 20 := by have := Lib.numDigits_eq u hu1 hu; split at this <;> omega
    have hH := Lib.holds_zero0 w 127 (Lib.nDigits u) (by omega)
    have hfmt := Tryz.internal_strconv_formatBase10 w.heap.size 0 24 u (Array.replicate (Lib.nDigits u) 0) (w.alloc (.cells Lib.zeros24 127)) hH (by rw [Array.size_replicate]; exact Lib.lt_pow_nDigits u) hu (by rw [Array.size_replicate]; omega)
    rw [Array.size_replicate] at hfmt
    have hnum := Tryz.internal_strconv_numDigits u hu1 hu (w.alloc (.cells Lib.zeros24 127)) (Lib.tabIs_alloc ht _)
    have HNUM := Lib.hid hnum
    have HF := Lib.hid hfmt
    have HH := Lib.hid hH
    obtain ⟨nd, hnd⟩ : ∃ nd, Lib.nDigits u = nd := ⟨_, rfl⟩
    have HND := Lib.hid hnd
    rw [hnd] at HNUM HF hnd20
    have hal : Tryz.prog.arrayLen 127 = 24 := by kernel_rfl
    have hel : Tryz.prog.elem 127 = 5 := by kernel_rfl
    have hsl : ∀ W, (Instr.sliceAt 127 (.pointer (some ⟨w.heap.size, 0, none⟩)) none (some (.int .i64 (nd : Int))) none).run Tryz.prog W = .ok (.slice (some ⟨w.heap.size, 0, none⟩) nd 24) W := fun W => by
      rw [run_sliceAt_array_h W 127 ⟨w.heap.size, 0, none⟩ (by rw [hal, hel]; exact Tryz.underlying127) .i64 (nd : Int) (by omega) (by rw [hal]; omega), hal, hel]
      have z5 := Tryz.sizeOf5 W
      rw [z5]
      simp [Result.andThen, slicedAt]
      rfl
    clear hH hfmt hnum hnd ht hal hel
    go_enter Tryz.func52, Tryz.ntmps52
    go_wp2_with fail
    refine HNUM.out.mono ?_
    rintro e w' ⟨rfl, rfl⟩
    go_wp2_with fail
    refine HF.out.mono ?_
    rintro e w' ⟨rfl, k, v', dk, rfl, hF⟩
    have hcv : (convert 77 9 (.slice (some ⟨w.heap.size, 0, none⟩) nd 24)).run Tryz.prog ((putRow (fun (b : UInt8) => Value.int .u8 (b.toNat : Int)) (w.alloc (.cells Lib.zeros24 127)) w.heap.size 0 dk).drewN k) =
        .ok (.string ⟨(Lib.decDigits u).toArray⟩) ((putRow (fun (b : UInt8) => Value.int .u8 (b.toNat : Int)) (w.alloc (.cells Lib.zeros24 127)) w.heap.size 0 dk).drewN k) := by
      have hF' : Lib.FmtInv (Lib.nDigits u) u 0 v' dk := by rw [HND.out]; exact hF
      have h := run_convert_bytes_back (P := Tryz.prog) ((putRow (fun (b : UInt8) => Value.int .u8 (b.toNat : Int)) (w.alloc (.cells Lib.zeros24 127)) w.heap.size 0 dk).drewN k) 77 9 5 ⟨w.heap.size, 0, none⟩ 24 (Lib.decDigits u) Tryz.underlying77 Tryz.underlying5 Tryz.underlying9 (fun j hj => by
        rw [Lib.add_plain, Lib.row_is_numeral hF' j hj, World.cell?_drewN]
        exact cell?_putRow (fun (b : UInt8) => Value.int .u8 (b.toNat : Int)) _ w.heap.size 0 _ dk HH.out (by rw [hF'.size, Array.size_replicate]) j (by rw [hF'.size]; rw [Lib.decDigits_length] at hj; exact hj))
      rw [Lib.decDigits_length, HND.out] at h
      exact h
    have hb := Lib.hid (below_put (fun (b : UInt8) => Value.int .u8 (b.toNat : Int)) w (.cells Lib.zeros24 127) 0 dk k)
    go_wp2_with fail
    go_ret
    exact ⟨rfl, hb.out⟩
end Go.Proofs.YtcndkhgbgjnclaaGreatDoor.nn
/- The walk of strings.Repeat of "0", up to 18 times. -/
namespace Go.Proofs.YtcndkhgbgjnclaaGreatDoor.nn
open Go.RowKit

/-- so many letters 0 -/
def zs (k : Nat) : ByteArray := ⟨(List.replicate k 48).toArray⟩

def z64 : ByteArray := ⟨#[48, 48, 48, 48, 48, 48, 48, 48, 48, 48, 48, 48, 48, 48, 48, 48, 48, 48, 48, 48, 48, 48, 48, 48, 48, 48, 48, 48, 48, 48, 48, 48, 48, 48, 48, 48, 48, 48, 48, 48, 48, 48, 48, 48, 48, 48, 48, 48, 48, 48, 48, 48, 48, 48, 48, 48, 48, 48, 48, 48, 48, 48, 48, 48]⟩
theorem z64_take {k : Nat} (h : k ≤ 18) : z64.extract 0 k = zs k := by
  have : ∀ k, k < 19 → z64.extract 0 k = zs k := by decide
  exact this k (by omega)
theorem ret_str {a b : ByteArray} (h : a = b) : Ending.returned (.string a) = .returned (.string b) := by rw [h]

set_option maxRecDepth 100000 in
set_option maxHeartbeats 1000000 in
theorem hasPrefix_any (Z s : ByteArray) (w : World) (h : s.size ≤ Z.size) (he : Z.extract 0 s.size = s) (hZ : Z.size ≤ 1000000) :
    Calls Tryz.prog 135 #[.string Z, .string s] w fun e w' => e = .returned (.bool true) ∧ w = w' := by
  have key : Hid (Calls Tryz.prog 138 #[.string Z, .string s] w fun e w' => e = .returned (.bool true) ∧ w = w') := by
    refine Lib.hid ?_
    go_enter Tryz.func138, Tryz.ntmps138
    go_wp2
    go_ret
    exact ⟨rfl, rfl⟩
  clear he
  go_enter Tryz.func135, Tryz.ntmps135
  go_wp2_with fail
  refine key.out.mono ?_
  rintro e w' ⟨rfl, rfl⟩
  go_wp2_with fail
  go_ret
  exact ⟨rfl, rfl⟩

set_option maxRecDepth 100000 in
set_option maxHeartbeats 1000000 in
theorem hasPrefix_no (Z s Y : ByteArray) (w : World) (h : s.size ≤ Z.size) (he : Z.extract 0 s.size = Y) (hne' : (Y.data.toList == s.data.toList) = false) (hZ : Z.size ≤ 1000000) :
    Calls Tryz.prog 135 #[.string Z, .string s] w fun e w' => e = .returned (.bool false) ∧ w = w' := by
  have hne : (Y.toList == s.toList) = false := by rw [ByteArray.toList_eq, ByteArray.toList_eq]; exact hne'
  clear hne'
  have key : Hid (Calls Tryz.prog 138 #[.string Z, .string s] w fun e w' => e = .returned (.bool false) ∧ w = w') := by
    refine Lib.hid ?_
    go_enter Tryz.func138, Tryz.ntmps138
    go_wp2
    go_ret
    exact ⟨rfl, rfl⟩
  clear he
  go_enter Tryz.func135, Tryz.ntmps135
  go_wp2_with fail
  refine key.out.mono ?_
  rintro e w' ⟨rfl, rfl⟩
  go_wp2_with fail
  go_ret
  exact ⟨rfl, rfl⟩

set_option maxRecDepth 100000 in
set_option maxHeartbeats 2000000 in
theorem repeat_zero (k : Nat) (w : World) (hk : k ≤ 18) :
    Calls Tryz.prog 108 #[.string ⟨#[48]⟩, .int .i64 (k : Int)] w fun e w' => e = .returned (.string (zs k)) ∧ w = w' := by
  by_cases h0 : k = 0
  · subst h0
    go_enter Tryz.func108, Tryz.ntmps108
    go_wp2
    go_ret
    exact ⟨rfl, rfl⟩
  · by_cases h1 : k = 1
    · subst h1
      go_enter Tryz.func108, Tryz.ntmps108
      go_wp2
      go_ret
      exact ⟨rfl, rfl⟩
    · have h2 : 2 ≤ k := by omega
      have HM := fun W => Tryz.bits_Mul 1 k (by omega) (by omega) W
      have e1 : 1 * k / 18446744073709551616 = 0 := by omega
      have e2 : 1 * k % 18446744073709551616 = k := by omega
      rw [e1, e2] at HM
      have HMM := Lib.hid HM
      clear e1 e2 HM h0 h1
      go_enter Tryz.func108, Tryz.ntmps108
      go_wp2_with fail
      refine (HMM.out _).mono ?_
      rintro e w' ⟨rfl, rfl⟩
      go_wp2_with fail
      refine (hasPrefix_no _ _ _ _ (by decide) rfl (by decide) (by decide)).mono ?_
      rintro e w' ⟨rfl, rfl⟩
      go_wp2_with fail
      refine (hasPrefix_no _ _ _ _ (by decide) rfl (by decide) (by decide)).mono ?_
      rintro e w' ⟨rfl, rfl⟩
      go_wp2_with fail
      refine (hasPrefix_any _ _ _ (by decide) (by decide) (by decide)).mono ?_
      rintro e w' ⟨rfl, rfl⟩
      go_wp2_with fail
      go_ret
      exact ⟨ret_str (z64_take hk), rfl⟩
end Go.Proofs.YtcndkhgbgjnclaaGreatDoor.nn
/- The walk of Digits: the decimal digits of a number. The table of the powers of ten is asked for. -/
namespace Go.Proofs.YtcndkhgbgjnclaaGreatDoor.nn
open Go.RowKit

theorem fmtUint_any (u : Nat) (w : World) (hu : u < 18446744073709551616) (ht : Pow10 w) :
    Calls Tryz.prog 19 #[.int .u64 (u : Int), .int .i64 10] w fun e w' => e = .returned (.string ⟨(Lib.decDigits u).toArray⟩) ∧ Below w.heap.size w w' := by
  have H := Lib.hid (fmt_any u w hu ht)
  clear ht
  go_enter Tryz.func19, Tryz.ntmps19
  go_wp2_with fail
  refine H.out.mono ?_
  rintro e w' ⟨rfl, hb⟩
  go_wp2_with fail
  go_ret
  exact ⟨rfl, hb⟩

theorem Pow10.at_ {w : World} (h : Pow10 w) : 0 < w.heap.size := by
  unfold Pow10 Lib.TabIs World.var? at h
  rw [show Tryz.prog.globalNamed "internal/strconv.uint64pow10" = some 0 by kernel_rfl] at h
  rcases Nat.lt_or_ge 0 w.heap.size with h1 | h1
  · exact h1
  · exfalso
    have : w.heap[0]? = none := Array.getElem?_eq_none h1
    simp [this] at h
theorem Pow10.below {B : Nat} {w w' : World} (h : Pow10 w) (hb : Below B w w') (hB : 0 < B) : Pow10 w' := by
  unfold Pow10 Lib.TabIs World.var? at h ⊢
  rw [show Tryz.prog.globalNamed "internal/strconv.uint64pow10" = some 0 by kernel_rfl] at h ⊢
  simp only [Option.bind_some] at h ⊢
  rw [hb.block _ hB]
  exact h

theorem Bld.below {B b C : Nat} {l : List UInt8} {w w' : World} (h : Bld B b l w) (hb : Below C w w') (hC : w.heap.size ≤ C) : Bld B b l w' := by
  have key : ∀ p, Lib.BuilderAt 142 5 B b p (Lib.byteCells l) w → Lib.BuilderAt 142 5 B b p (Lib.byteCells l) w' := by
    rintro p ⟨h1, v, h2, ⟨h3, h4⟩, h5⟩
    have hlt : b < w.heap.size := (Array.getElem?_eq_some_iff.1 h2).1
    refine ⟨h1, v, (hb.block b (by omega)).trans h2, ⟨h3, h4.imp id ?_⟩, h5⟩
    rintro ⟨g, cap, cur, e1, e2, e3, e4⟩
    have hg : g < w.heap.size := (Array.getElem?_eq_some_iff.1 e3).1
    exact ⟨g, cap, cur, e1, e2, (hb.block g (by omega)).trans e3, e4⟩
  exact h.imp (key _) (key _)
theorem Bld.new (w : World) : Bld w.heap.size w.heap.size [] (w.alloc (.cells #[.pointer none, .slice none 0 0] 142)) :=
  .inl ⟨Nat.le_refl _, .slice none 0 0, heap_alloc_last _ _, ⟨rfl, .inl ⟨rfl, rfl⟩⟩, by simp [Value.ownBlock]⟩

/-- the digits, or nothing beside the error -/
def dgT (n : Nat) (f : Nat → Nat) : List UInt8 := if 4096 < tr f n then [] else Lib.decDigits (sm (2 ^ 32) f n)
def dgE (n : Nat) (f : Nat → Nat) : Nat := if 4096 < tr f n then 2 else 0

end Go.Proofs.YtcndkhgbgjnclaaGreatDoor.nn
/- The walk of the real fdec's Shortest. -/
namespace Go.Proofs.YtcndkhgbgjnclaaGreatDoor.nn
open Go.RowKit

/-- the decimals with the fewest digits, in units of 10^spP -/
def shN (m : Nat) (e : Int) : Nat := fws (spA m e) (spM m e) (spF m e) (spL m e) (j0 (spA m e))
/-- its digits without the zeros behind -/
def shL (m : Nat) (e : Int) : List UInt8 := Lib.trimRightB (Lib.decDigits (shN m e)) 48
def shD (m : Nat) (e : Int) : ByteArray := ⟨(shL m e).toArray⟩
def shE (m : Nat) (e : Int) : Int := spP m e + ((Lib.decDigits (shN m e)).length : Int) - ((shL m e).length : Int)
def ShAns (D : ByteArray) (E : Int) (R : Nat) (w : World) (r : Ending) (w' : World) : Prop := r = .returned (.tuple #[.string D, .int .i64 E, .int .i64 (R : Int)]) ∧ Below w.heap.size w w'
theorem fws_lt (A : Nat) (mo : Bool) (F L j : Nat) (h : A < 4000000000000000000) (hL : L < 4000000000000000000) : fws A mo F L j < 4000000000000000000 := by
  induction j with
  | zero => rw [fws]; decide
  | succ j ih =>
    rw [fws]
    split
    · rename_i x hx
      unfold cd at hx
      split at hx
      · injection hx with hx; omega
      · split at hx
        · injection hx with hx
          have := Nat.div_mul_le_self A (10 ^ (j + 1))
          omega
        · cases hx
    · exact ih
theorem trimR_len (l : List UInt8) (c : UInt8) : (Lib.trimRightB l c).length ≤ l.length := by
  unfold Lib.trimRightB
  rw [List.length_reverse]
  exact Nat.le_trans (List.dropWhile_sublist _).length_le (by rw [List.length_reverse]; exact Nat.le_refl _)
set_option maxRecDepth 100000 in
set_option maxHeartbeats 1000000 in
theorem shortest_no (x : Nat) (w : World) (hx : x < 18446744073709551616) (h : xaO x = false) : Calls Tryz.prog 7 #[.int .u64 (x : Int)] w (ShAns ⟨#[]⟩ 0 1 w) := by
  have H := Lib.hid (fun W => fexact_any x W hx)
  unfold XaAns at H
  rw [h] at H
  generalize xaS x = S at H
  generalize xaM x = M at H
  generalize xaE x = E at H
  go_enter Tryz.func7, Tryz.ntmps7
  go_wp2_with fail
  refine (H.out _).mono ?_
  rintro r w1 ⟨rfl, hb⟩
  go_wp2_with fail
  exact bodyPost_ret (by simp [results, Tryz.results7, go_sem]) rfl ⟨rfl, hb⟩
set_option maxRecDepth 100000 in
set_option maxHeartbeats 1000000 in
theorem shortest_zero (x : Nat) (w : World) (hx : x < 18446744073709551616) (h : xaO x = true) (hm : xaM x = 0) : Calls Tryz.prog 7 #[.int .u64 (x : Int)] w (ShAns ⟨#[48]⟩ 0 0 w) := by
  have H := Lib.hid (fun W => fexact_any x W hx)
  unfold XaAns at H
  rw [h, hm] at H
  generalize xaS x = S at H
  generalize xaE x = E at H
  go_enter Tryz.func7, Tryz.ntmps7
  go_wp2_with fail
  refine (H.out _).mono ?_
  rintro r w1 ⟨rfl, hb⟩
  go_wp2_with fail
  exact bodyPost_ret (by simp [results, Tryz.results7, go_sem]) rfl ⟨rfl, hb⟩
set_option maxRecDepth 100000 in
set_option maxHeartbeats 4000000 in
theorem shortest_yes (x : Nat) (w : World) (hx : x < 18446744073709551616) (h : xaO x = true) (hF : Fe (xaM x) (xaE x)) (hP : Pow10 w) : Calls Tryz.prog 7 #[.int .u64 (x : Int)] w (ShAns (shD (xaM x) (xaE x)) (shE (xaM x) (xaE x)) 0 w) := by
  have H := Lib.hid (fun W => fexact_any x W hx)
  unfold XaAns at H
  rw [h] at H
  generalize xaS x = S at H
  generalize xaM x = m at H hF ⊢
  generalize xaE x = e at H hF ⊢
  obtain ⟨s1, s2, s3, s4, s5⟩ := hF.span
  obtain ⟨q1, q2, q3, q4, q5⟩ := hF
  rw [h52] at q2
  have hN0 : shN m e < 4000000000000000000 := fws_lt _ _ _ _ _ (by omega) s5
  have HS := Lib.hid (fun W => newSpan_any m e W q1 (by omega) q3 q4 (by omega) (by omega))
  have HW := Lib.hid (fun W => fewest_any (spA m e) (spM m e) (spF m e) (spL m e) (spP m e) W s1 (by omega) (by omega) (by omega))
  have hPat := hP.at_
  have HFm := Lib.hid (fun W (hb : Below w.heap.size w W) => fmtUint_any (shN m e) W (by omega) (hP.below hb hPat))
  have hl1 : (Lib.decDigits (shN m e)).length ≤ 20 := by rw [Lib.decDigits_length]; by_cases h0 : 1 ≤ shN m e; (have := Lib.numDigits_eq (shN m e) h0 (by omega); split at this <;> omega); (rw [show shN m e = 0 by omega, show Lib.nDigits 0 = 1 by unfold Lib.nDigits; rfl]; decide)
  have hl2 : (Lib.trimRightB (Lib.decDigits (shN m e)) 48).length ≤ 20 := Nat.le_trans (trimR_len _ _) hl1
  have HT := Lib.hid (fun W => Tryz.strings_TrimRight_one ⟨(Lib.decDigits (shN m e)).toArray⟩ 48 (by decide) W (by show (Lib.decDigits (shN m e)).toArray.size ≤ _; rw [List.size_toArray]; omega))
  unfold SpAns at HS
  rw [show fws (spA m e) (spM m e) (spF m e) (spL m e) (j0 (spA m e)) = shN m e from rfl] at HW
  have HV : Hid (ShAns (shD m e) (shE m e) 0 w = ShAns ⟨(Lib.trimRightB (Lib.decDigits (shN m e)) 48).toArray⟩ (spP m e + ((Lib.decDigits (shN m e)).length : Int) - ((Lib.trimRightB (Lib.decDigits (shN m e)) 48).length : Int)) 0 w) := Lib.hid rfl
  have hpb : -500 ≤ spP m e ∧ spP m e ≤ 500 := by
    have b1 := (bl_ge (N := m) (by omega)).2
    have b2 : bl m ≤ 53 := bl_le (k := 53) (by omega)
    unfold spP dcm; omega
  generalize spA m e = A at *
  generalize spM m e = mo at *
  generalize spF m e = F at *
  generalize spL m e = L at *
  generalize spP m e = p at *
  generalize shN m e = N at *
  generalize Lib.decDigits N = ds at *
  generalize Lib.trimRightB ds 48 = ts at *
  rw [HV.out]
  unfold spV at HS HW
  have hz1 : ByteArray.size ⟨ds.toArray⟩ = ds.length := List.size_toArray
  have hz2 : ByteArray.size ⟨ts.toArray⟩ = ts.length := List.size_toArray
  generalize (⟨ds.toArray⟩ : ByteArray) = S1 at *
  generalize (⟨ts.toArray⟩ : ByteArray) = S2 at *
  generalize ds.length = n1 at *
  generalize ts.length = n2 at *
  go_enter Tryz.func7, Tryz.ntmps7
  go_wp2_with fail
  refine (H.out _).mono ?_
  rintro r w1 ⟨rfl, hb⟩
  have HB := Lib.hid hb
  clear hb
  go_wp2_with fail
  refine (HS.out _).mono ?_
  rintro r w2 ⟨rfl, hb⟩
  have HB2 := Lib.hid hb
  clear hb
  go_wp2_with fail
  have HX := Lib.hid (Bsp.new (A := A) (mo := mo) (F := F) (L := L) (p := p) w2 47)
  have HB3 := Lib.hid ((Below.refl w2.heap.size w2).alloc (Nat.le_refl _) (.cells #[.int .u64 (A : Int), .bool mo, .int .u64 (F : Int), .int .u64 (L : Int), .int .i64 p] 47))
  generalize w2.alloc (.cells #[.int .u64 (A : Int), .bool mo, .int .u64 (F : Int), .int .u64 (L : Int), .int .i64 p] 47) = W2 at HX HB3 ⊢
  have HB4 : Hid (Below w.heap.size w W2) := Lib.hid (HB.out.trans ((HB2.out.trans (HB3.out.mono HB2.out.size)).mono HB.out.size))
  clear HB HB2 HB3
  refine (HW.out _).mono ?_
  rintro r w3 ⟨rfl, hb⟩
  have HX3 := Lib.hid (HX.out.on hb)
  have HB5 : Hid (Below w.heap.size w w3) := Lib.hid (HB4.out.trans (hb.mono HB4.out.size))
  clear hb HX HB4
  go_wp2_with fail
  refine (HFm.out _ HB5.out).mono ?_
  rintro r w4 ⟨rfl, hb⟩
  have HX4 := Lib.hid (HX3.out.on hb)
  have HB6 : Hid (Below w.heap.size w w4) := Lib.hid (HB5.out.trans (hb.mono HB5.out.size))
  clear hb HX3 HB5
  go_wp2_with fail
  refine (HT.out _).mono ?_
  rintro r w5 ⟨rfl, rfl⟩
  obtain ⟨x0, x1, x2, x3, x4⟩ := HX4.out.all
  go_wp2_with fail
  go_quiet (fail)
  go_wp2_with fail
  exact bodyPost_ret (by simp [results, Tryz.results7, go_sem]) rfl ⟨rfl, drew_below HB6.out _⟩
end Go.Proofs.YtcndkhgbgjnclaaGreatDoor.nn
/- The real fdec: the search finds decimals in the span, and none of fewer digits is in it (plain). -/
namespace Go.Proofs.YtcndkhgbgjnclaaGreatDoor.nn
open Go.RowKit

theorem cd_none {A F L P : Nat} {mo : Bool} (h : cd A mo F L P = none) (c : Nat) : ¬ (F ≤ c * P ∧ c * P ≤ L) := by
  unfold cd at h
  split at h
  · cases h
  · rename_i h1
    split at h
    · cases h
    · rename_i h2
      rintro ⟨g1, g2⟩
      rcases Nat.lt_or_ge (A / P) c with g | g
      · have : (A / P + 1) * P ≤ c * P := Nat.mul_le_mul_right _ g
        rw [Nat.add_mul, Nat.one_mul] at this
        exact h1 ⟨by omega, .inl (by omega)⟩
      · have : c * P ≤ A / P * P := Nat.mul_le_mul_right _ g
        omega
theorem cd_some {A F L P N : Nat} {mo : Bool} (hP : 0 < P) (hF : F ≤ A + 1) (hL : A ≤ L) (h : cd A mo F L P = some N) : F ≤ N ∧ N ≤ L ∧ (N = A / P * P ∨ N = A / P * P + P) := by
  have h1 := Nat.div_mul_le_self A P
  have h2 : A < A / P * P + P := by have h3 := Nat.div_add_mod A P; have := Nat.mod_lt A hP; rw [Nat.mul_comm] at h3; omega
  unfold cd at h
  split at h
  · injection h with h; omega
  · split at h
    · injection h with h; omega
    · cases h
theorem fws_ex {A F L : Nat} {mo : Bool} (h1 : cd A mo F L (10 ^ 1) ≠ none) : ∀ n, 1 ≤ n → ∃ j, 1 ≤ j ∧ j ≤ n ∧ cd A mo F L (10 ^ j) = some (fws A mo F L n) ∧ ∀ i, j < i → i ≤ n → cd A mo F L (10 ^ i) = none := fun n hn => by
  induction n with
  | zero => omega
  | succ n ih =>
    rw [fws]
    cases hc : cd A mo F L (10 ^ (n + 1)) with
    | some x => exact ⟨n + 1, by omega, Nat.le_refl _, hc, fun i h2 h3 => by omega⟩
    | none =>
      by_cases h0 : n = 0
      · subst h0; exact absurd hc h1
      · obtain ⟨j, a1, a2, a3, a4⟩ := ih (by omega)
        refine ⟨j, a1, by omega, a3, fun i h2 h3 => ?_⟩
        rcases (by omega : i = n + 1 ∨ i ≤ n) with rfl | g
        · exact hc
        · exact a4 i h2 g
/-- the span is wide: ten in a row -/
theorem Fe.wide {m : Nat} {e : Int} (h : Fe m e) : spA m e ≤ spL m e ∧ spF m e + 9 ≤ spL m e := by
  obtain ⟨h0, h1, h2⟩ := h.ends
  obtain ⟨a1, a2, a3, a4, a5⟩ := h.span
  obtain ⟨q1, q2, q3, q4, q5⟩ := h
  obtain ⟨X, hX⟩ : ∃ X, spX m e = X := ⟨_, rfl⟩
  obtain ⟨Y, hY⟩ : ∃ Y, spY m e = Y := ⟨_, rfl⟩
  have hF : spF m e ≤ (4 * m - spB m e) * X / Y + 1 := by unfold spF; rw [hX, hY]; split <;> omega
  have hL : (4 * m + 2) * X / Y ≤ spL m e + 1 := by unfold spL; rw [hX, hY]; split <;> omega
  have hA : spA m e = 4 * m * X / Y := by unfold spA; rw [hX, hY]
  rw [hX, hY] at h1
  rw [hY] at h0
  have hX0 : 11 * Y ≤ 4 * X := by
    have : 4 * m * X ≤ 9007199254740992 * (4 * X) := by
      rw [Nat.mul_comm 4 m, Nat.mul_assoc]
      exact Nat.mul_le_mul_right _ (by rw [h52] at q2; omega)
    omega
  have add : ∀ q k c, c * Y ≤ k * X → q * X / Y + c ≤ (q + k) * X / Y := fun q k c hc => by
    rw [Nat.add_mul, ← Nat.add_mul_div_right _ _ h0]
    exact Nat.div_le_div_right (by omega)
  have k1 := add (4 * m) 2 5 (by omega)
  rw [← hA] at k1
  refine ⟨by omega, ?_⟩
  by_cases c : m = 4503599627370496 ∧ -1074 < e
  · have hB : spB m e = 1 := if_pos c
    rw [hB] at hF
    have hm := c.1
    have : 15 * Y ≤ 3 * X := by
      have : 4 * m * X = 4503599627370496 * (4 * X) := by rw [hm, Nat.mul_comm 4, Nat.mul_assoc]
      omega
    have k2 := add (4 * m - 1) 3 11 (by omega)
    rw [show 4 * m - 1 + 3 = 4 * m + 2 by omega] at k2
    omega
  · have hB : spB m e = 2 := if_neg c
    rw [hB] at hF
    have k2 := add (4 * m - 2) 4 11 (by omega)
    rw [show 4 * m - 2 + 4 = 4 * m + 2 by omega] at k2
    omega
theorem cd_wide {A F L : Nat} {mo : Bool} (h : F + 9 ≤ L) : cd A mo F L (10 ^ 1) ≠ none := fun g => by
  have := cd_none g ((F + 9) / 10)
  omega
/-- what the search finds -/
theorem Fe.found {m : Nat} {e : Int} (h : Fe m e) : ∃ j, 1 ≤ j ∧ j ≤ j0 (spA m e) ∧ spF m e ≤ shN m e ∧ shN m e ≤ spL m e ∧ (shN m e = spA m e / 10 ^ j * 10 ^ j ∨ shN m e = spA m e / 10 ^ j * 10 ^ j + 10 ^ j) ∧ ∀ i, j < i → i ≤ j0 (spA m e) → ∀ c, ¬ (spF m e ≤ c * 10 ^ i ∧ c * 10 ^ i ≤ spL m e) := by
  obtain ⟨w1, w2⟩ := h.wide
  obtain ⟨a1, a2, a3, a4, a5⟩ := h.span
  obtain ⟨j, b1, b2, b3, b4⟩ := fws_ex (A := spA m e) (mo := spM m e) (cd_wide w2) (j0 (spA m e)) (by have := j0_le (spA m e); omega)
  obtain ⟨c1, c2, c3⟩ := cd_some (Nat.pow_pos (by decide)) a4 w1 b3
  exact ⟨j, b1, b2, c1, c2, c3, fun i h1 h2 c => cd_none (b4 i h1 h2) c⟩
/-- none of fewer digits -/
theorem Fe.fewest {m : Nat} {e : Int} (h : Fe m e) {V t : Nat} (hN : shN m e = V * 10 ^ t) (hV : V % 10 ≠ 0) (hV2 : 10 ≤ V) (c : Nat) : ¬ (spF m e ≤ c * 10 ^ (t + 1) ∧ c * 10 ^ (t + 1) ≤ spL m e) := by
  obtain ⟨j, b1, b2, b3, b4, b5, b6⟩ := h.found
  obtain ⟨a1, a2, a3, a4, a5⟩ := h.span
  have hd : ∃ c, shN m e = c * 10 ^ j := by
    rcases b5 with g | g
    · exact ⟨_, g⟩
    · exact ⟨spA m e / 10 ^ j + 1, by rw [g, Nat.add_mul, Nat.one_mul]⟩
  have htj : j ≤ t := by
    rcases Nat.lt_or_ge t j with g | g
    · exfalso
      obtain ⟨c, hc⟩ := hd
      rw [hN, show j = (j - t - 1) + 1 + t by omega, Nat.pow_add, ← Nat.mul_assoc] at hc
      have := Nat.eq_of_mul_eq_mul_right (Nat.pow_pos (by decide)) hc
      rw [Nat.pow_succ, ← Nat.mul_assoc] at this
      omega
    · exact g
  refine b6 (t + 1) (by omega) ?_ c
  have hj : 10 ^ (t + 1) ≤ shN m e := by rw [hN, Nat.pow_succ, Nat.mul_comm]; exact Nat.mul_le_mul_right _ hV2
  rcases Nat.lt_or_ge (j0 (spA m e)) (t + 1) with g | g
  · exfalso
    unfold j0 at g
    split at g
    · have : 10 ^ 19 ≤ 10 ^ (t + 1) := Nat.pow_le_pow_right (by decide) (by omega)
      omega
    · rename_i g0
      have hle : shN m e ≤ 1000000000000000000 := by
        have hj17 : j ≤ 17 := by unfold j0 at b2; rw [if_neg g0] at b2; exact b2
        have e1 : (10 : Nat) ^ 18 = 10 ^ (18 - j) * 10 ^ j := by rw [← Nat.pow_add, show 18 - j + j = 18 by omega]
        have h1 : spA m e / 10 ^ j < 10 ^ (18 - j) := by
          rw [Nat.div_lt_iff_lt_mul (Nat.pow_pos (by decide)), ← e1]
          omega
        have h2 : (spA m e / 10 ^ j + 1) * 10 ^ j ≤ 10 ^ (18 - j) * 10 ^ j := Nat.mul_le_mul_right _ h1
        rw [← e1, Nat.add_mul, Nat.one_mul, show (10 : Nat) ^ 18 = 1000000000000000000 by decide] at h2
        rcases b5 with g | g
        · rw [g]; exact Nat.le_trans (Nat.le_add_right _ _) h2
        · rw [g]; exact h2
      have : 10 ^ 18 ≤ 10 ^ (t + 1) := Nat.pow_le_pow_right (by decide) (by omega)
      rcases (by omega : t = 17 ∨ 18 ≤ t) with rfl | g3
      · rw [hN, show (10 : Nat) ^ 17 = 100000000000000000 by decide] at hle
        rw [hN, show (10 : Nat) ^ 17 = 100000000000000000 by decide, show (10 : Nat) ^ (17 + 1) = 1000000000000000000 by decide] at hj
        omega
      · have : 10 ^ 19 ≤ 10 ^ (t + 1) := Nat.pow_le_pow_right (by decide) (by omega)
        omega
  · exact g
/-- the decimals s times 10^(spP + t) -/
theorem Fe.near {m : Nat} {e : Int} (h : Fe m e) (s : ByteArray) (t : Nat) (z : Int) (hz : z = spP m e + (t : Int)) : RN s z (bm m e) ↔ spF m e ≤ dv (bt s) s.size * 10 ^ t ∧ dv (bt s) s.size * 10 ^ t ≤ spL m e := by
  rw [← span_near h]
  unfold RN rX rY
  subst hz
  generalize spP m e = p at *
  generalize dv (bt s) s.size = V at *
  have e1 : 10 ^ (p + (t : Int)).toNat * 10 ^ (-p).toNat = 10 ^ t * 10 ^ p.toNat * 10 ^ (-(p + (t : Int))).toNat := by
    rw [← Nat.pow_add, ← Nat.pow_add, ← Nat.pow_add]
    refine congrArg (10 ^ ·) ?_
    omega
  obtain ⟨T, hT⟩ : ∃ T, 2 ^ e74 = T := ⟨_, rfl⟩
  rw [hT]
  have hs : V * 10 ^ (p + (t : Int)).toNat * T * 10 ^ (-p).toNat = V * 10 ^ t * 10 ^ p.toNat * T * 10 ^ (-(p + (t : Int))).toNat := by
    rw [show V * 10 ^ (p + (t : Int)).toNat * T * 10 ^ (-p).toNat = V * T * (10 ^ (p + (t : Int)).toNat * 10 ^ (-p).toNat) by simp only [Nat.mul_assoc, Nat.mul_left_comm, Nat.mul_comm], e1]
    simp only [Nat.mul_assoc, Nat.mul_left_comm, Nat.mul_comm]
  exact ⟨fun n => near_same (Nat.pow_pos (by decide)) (Nat.pow_pos (by decide)) hs n, fun n => near_same (Nat.pow_pos (by decide)) (Nat.pow_pos (by decide)) hs.symm n⟩
end Go.Proofs.YtcndkhgbgjnclaaGreatDoor.nn
/- The real fdec: the shortest digits as a text (plain); the bits of m and e. -/
namespace Go.Proofs.YtcndkhgbgjnclaaGreatDoor.nn
open Go.RowKit

theorem bt_lf (l : List UInt8) (i : Nat) (h : i < l.length) : bt ⟨l.toArray⟩ i = lf_ l i := by
  have hs : ByteArray.size ⟨l.toArray⟩ = l.length := List.size_toArray
  rw [bt_at (by omega)]
  unfold lf_
  rw [List.getD_eq_getElem?_getD, List.getElem?_eq_getElem h]
  rfl
theorem drop_split (c : UInt8) (r : List UInt8) : ∃ t, r = List.replicate t c ++ r.dropWhile (· == c) ∧ ∀ x q, r.dropWhile (· == c) = x :: q → x ≠ c := by
  induction r with
  | nil => exact ⟨0, rfl, fun x q h => by cases h⟩
  | cons a r ih =>
    by_cases h : a = c
    · subst h
      obtain ⟨t, h1, h2⟩ := ih
      rw [List.dropWhile_cons_of_pos (by simp)]
      refine ⟨t + 1, ?_, h2⟩
      rw [List.replicate_succ, List.cons_append, ← h1]
    · rw [List.dropWhile_cons_of_neg (by simpa using h)]
      refine ⟨0, rfl, fun x q g => ?_⟩
      injection g with g1 g2
      rw [← g1]
      exact h
theorem trimR_split (l : List UInt8) (c : UInt8) : ∃ t, l = Lib.trimRightB l c ++ List.replicate t c ∧ ∀ q x, Lib.trimRightB l c = q ++ [x] → x ≠ c := by
  obtain ⟨t, h1, h2⟩ := drop_split c l.reverse
  refine ⟨t, ?_, fun q x h => ?_⟩
  · have := congrArg List.reverse h1
    rw [List.reverse_reverse, List.reverse_append, List.reverse_replicate] at this
    exact this
  · refine h2 x q.reverse ?_
    have := congrArg List.reverse h
    unfold Lib.trimRightB at this
    rw [List.reverse_reverse, List.reverse_append] at this
    exact this
theorem dec_head {N : Nat} : 0 < N → lf_ (Lib.decDigits N) 0 ≠ 48 := by
  induction N using Nat.strongRecOn with
  | _ N ih =>
    intro h0
    by_cases h : N < 10
    · rw [Lib.decDigits_one h]
      show (UInt8.ofNat (48 + N)).toNat ≠ 48
      rw [digit_nat h]
      omega
    · rw [dec_big h, lf_lo]
      · exact ih (N / 10) (by omega) (by omega)
      · rw [Lib.decDigits_length]
        exact Nat.pos_of_ne_zero fun g => by
          have := Lib.lt_pow_nDigits (N / 10)
          rw [g] at this
          omega
theorem sh_digits {N : Nat} (h0 : 0 < N) (l : List UInt8) (hl : Lib.trimRightB (Lib.decDigits N) 48 = l) : ∃ t V, (Lib.decDigits N).length = l.length + t ∧ N = V * 10 ^ t ∧ V % 10 ≠ 0 ∧ 0 < l.length ∧ dgs (bt ⟨l.toArray⟩) l.length = true ∧ dv (bt ⟨l.toArray⟩) l.length = V ∧ bt ⟨l.toArray⟩ 0 ≠ 48 ∧ bt ⟨l.toArray⟩ (l.length - 1) ≠ 48 := by
  obtain ⟨t, h1, h2⟩ := trimR_split (Lib.decDigits N) 48
  obtain ⟨r1, r2⟩ := dec_read N
  have r3 := dec_head h0
  rw [hl] at h1 h2
  generalize Lib.decDigits N = d at *
  have hlen : d.length = l.length + t := by rw [h1, List.length_append, List.length_replicate]
  have hsz : ByteArray.size ⟨l.toArray⟩ = l.length := List.size_toArray
  have hbt : ∀ i, i < l.length → lf_ d i = bt ⟨l.toArray⟩ i := fun i hi => by rw [bt_lf l i hi, h1, lf_lo hi]
  have hdg : dgs (bt ⟨l.toArray⟩) l.length = true := by rw [← dgs_congr hbt]; exact dgs_mono r1 (by omega)
  have hcat : (⟨l.toArray⟩ ++ zk t : ByteArray) = ⟨d.toArray⟩ := by
    rw [h1]
    refine ByteArray.ext ?_
    rw [ByteArray.data_append]
    show l.toArray ++ (List.replicate t 48).toArray = _
    simp
  have hz := (dv_zk (a := ⟨l.toArray⟩) (by rw [hsz]; exact hdg) t).2
  have hsz2 : ByteArray.size ⟨d.toArray⟩ = d.length := List.size_toArray
  rw [hcat, hsz, hsz2, dv_congr (g := lf_ d) (fun i hi => bt_lf d i hi), r2] at hz
  have hpos : 0 < l.length := by
    rcases Nat.eq_zero_or_pos l.length with g | g
    · rw [g] at hz
      simp [dv] at hz
      omega
    · exact g
  have hlast : bt ⟨l.toArray⟩ (l.length - 1) ≠ 48 := by
    have hne : l ≠ [] := by intro g; rw [g] at hpos; exact absurd hpos (by decide)
    have e := (List.dropLast_concat_getLast hne).symm
    have h3 := h2 _ _ e
    rw [bt_lf l _ (by omega)]
    have e2 : lf_ l (l.length - 1) = (l.getLast hne).toNat := by
      unfold lf_
      rw [List.getD_eq_getElem?_getD, List.getElem?_eq_getElem (by omega), List.getLast_eq_getElem]
      rfl
    rw [e2]
    intro g
    exact h3 (UInt8.toNat_inj.1 g)
  refine ⟨t, _, hlen, hz, ?_, hpos, hdg, rfl, ?_, hlast⟩
  · obtain ⟨n, hn⟩ : ∃ n, l.length = n + 1 := ⟨l.length - 1, by omega⟩
    rw [hn] at hlast hdg ⊢
    have := dgs_at hdg (i := n) (by omega)
    rw [dv]
    rw [Nat.add_sub_cancel] at hlast
    omega
  · rw [← hbt 0 hpos]
    exact r3
/-- the parts of bits -/
theorem xa_fe (x : Nat) (_hx : x < 18446744073709551616) (hO : xaO x = true) (hm : xaM x ≠ 0) : Fe (xaM x) (xaE x) ∧ bm (xaM x) (xaE x) = x % 9223372036854775808 ∧ bm (xaM x) (xaE x) < inf := by
  have e1 : ex 64 x = x / 4503599627370496 % 2048 := rfl
  have e2 : fr 64 x = x % 4503599627370496 := rfl
  unfold xaO at hO
  have hO := of_decide_eq_true hO
  have hh : hid52 = 4503599627370496 := rfl
  rw [inf_eq]
  by_cases c : ex 64 x = 0
  · have hM : xaM x = fr 64 x := by unfold xaM; rw [if_neg hO, if_pos c]
    have hE : xaE x = -1074 := by unfold xaE; rw [if_neg hO, if_pos c]
    rw [hM] at hm
    unfold bm Fe
    rw [hM, hE, show h52 = 4503599627370496 from rfl]
    omega
  · have hM : xaM x = fr 64 x + hid52 := by unfold xaM; rw [if_neg hO, if_neg c]
    have hE : xaE x = (ex 64 x : Int) - 1075 := by unfold xaE; rw [if_neg hO, if_neg c]
    unfold bm Fe
    rw [hM, hE, hh, show h52 = 4503599627370496 from rfl, show ((ex 64 x : Int) - 1075 + 1074).toNat = ex 64 x - 1 by omega]
    omega
end Go.Proofs.YtcndkhgbgjnclaaGreatDoor.nn
/- Words for slices of bytes: one that reads as a text, and the text that a conversion makes of it. -/
namespace Go.Proofs.YtcndkhgbgjnclaaGreatDoor.nn
open Go.RowKit

/-- the text of n bytes f -/
def pc (f : Nat → Nat) (n : Nat) : ByteArray := strOfNums ((List.range n).map fun i => (f i : Int))
theorem pc_size (f : Nat → Nat) (n : Nat) : (pc f n).size = n := by unfold pc; rw [strOfNums_size]; simp
theorem bt_pc {f : Nat → Nat} {n i : Nat} (h : i < n) (hf : f i < 256) : bt (pc f n) i = f i := by
  have h2 : i < (pc f n).size := by rw [pc_size]; exact h
  rw [bt_at h2]
  show ((pc f n).data[i]).toNat = f i
  have : (pc f n).data[i]? = some (UInt8.ofNat (f i)) := by
    unfold pc strOfNums
    simp [h]
  have e : (pc f n).data[i] = UInt8.ofNat (f i) := by
    have h3 := Array.getElem?_eq_getElem (xs := (pc f n).data) (i := i) h2
    rw [this] at h3
    injection h3 with h3
    exact h3.symm
  rw [e, UInt8.toNat_ofNat']
  omega

/-- a text made of a slice of bytes, nil or not -/
theorem conv_row (A : Option Addr) (n c : Nat) (f : Nat → Nat) (w : World) (h : Rd w .u8 A n f) :
    (convert 77 9 (.slice A n c)).run Tryz.prog w = .ok (.string (pc f n)) w := by
  by_cases h0 : 0 < n
  · obtain ⟨b, off, rfl, _, hc⟩ := h h0
    exact run_convert_bytes_arg w 77 5 Tryz.underlying77 Tryz.underlying5 b off n c _ (by simp) (fun i hi => by
      rw [hc i hi]
      simp [hi]) 9 Tryz.underlying9
  · obtain rfl : n = 0 := by omega
    have e : pc f 0 = ByteArray.empty := rfl
    rw [e]
    cases A with
    | none => exact run_convert_bytes_nil w 77 5 Tryz.underlying77 Tryz.underlying5 0 c 9 Tryz.underlying9
    | some a =>
      rw [run_convert_bytes_string w 77 9 5 (some a) 0 c Tryz.underlying77 Tryz.underlying5 Tryz.underlying9]
      exact run_bytesToString w a 0 c [] (run_loadCells_list (P := Tryz.prog) w a [] (fun j v hv => by simp at hv))
end Go.Proofs.YtcndkhgbgjnclaaGreatDoor.nn
/- The walk of the law's more: digits, and one more. -/
namespace Go.Proofs.YtcndkhgbgjnclaaGreatDoor.nn
open Go.RowKit

/-! digits -/
theorem dv_same {f : Nat → Nat} {x n : Nat} (h : ∀ i, i < n → f i = x) (hx : 48 ≤ x) : dv f n * 9 + (x - 48) = (x - 48) * 10 ^ n := by
  induction n with
  | zero => simp [dv]
  | succ n ih =>
    have := ih (fun i hi => h i (by omega))
    rw [dv, h n (by omega), Nat.pow_succ]
    obtain ⟨P, hP⟩ : ∃ P, 10 ^ n = P := ⟨_, rfl⟩
    rw [hP] at this ⊢
    have e : (x - 48) * (P * 10) = (x - 48) * P * 10 := by rw [Nat.mul_assoc]
    rw [e, ← this]
    omega
/-- the text behind the place j is nines; what becomes of it -/
def mf (f : Nat → Nat) (j : Nat) : Nat → Nat := fun i => if i < j then f i else 48
theorem more_num {f : Nat → Nat} {j m : Nat} (hd : dgs f (j + 1 + m) = true) (h9 : ∀ i, i < m → f (j + 1 + i) = 57) (hj : f j ≠ 57) :
    dgs (upd (mf f (j + 1)) j (f j + 1)) (j + 1 + m) = true ∧ dv (upd (mf f (j + 1)) j (f j + 1)) (j + 1 + m) = dv f (j + 1 + m) + 1 := by
  have hlow : ∀ i, i < j → upd (mf f (j + 1)) j (f j + 1) i = f i := fun i hi => by
    rw [upd_ne _ (by omega)]
    exact if_pos (by omega)
  have hat : upd (mf f (j + 1)) j (f j + 1) j = f j + 1 := upd_at _ _ _
  have hhi : ∀ i, i < m → upd (mf f (j + 1)) j (f j + 1) (j + 1 + i) = 48 := fun i hi => by
    rw [upd_ne _ (by omega)]
    exact if_neg (by omega)
  have hdj := dgs_at hd (show j < j + 1 + m by omega)
  constructor
  · have : ∀ i, i ≤ j + 1 + m → dgs (upd (mf f (j + 1)) j (f j + 1)) i = true := by
      intro i
      induction i with
      | zero => exact fun _ => rfl
      | succ i ih =>
        intro hi
        rw [dgs, ih (by omega)]
        rcases Nat.lt_trichotomy i j with g | g | g
        · rw [hlow i g]
          have := dgs_at hd (show i < j + 1 + m by omega)
          exact decide_eq_true this
        · subst g
          rw [hat]
          exact decide_eq_true (by omega : 48 ≤ f i + 1 ∧ f i + 1 ≤ 57)
        · obtain ⟨t, rfl⟩ : ∃ t, i = j + 1 + t := ⟨i - (j + 1), by omega⟩
          rw [hhi t (by omega)]
          rfl
    exact this _ (Nat.le_refl _)
  · have a1 := dv_same hhi (by decide)
    have a2 := dv_same h9 (by decide)
    rw [dv_add, dv_add f, dv, dv, hat, dv_congr hlow]
    obtain ⟨P, hP⟩ : ∃ P, 10 ^ m = P := ⟨_, rfl⟩
    obtain ⟨D, hD⟩ : ∃ D, dv f j = D := ⟨_, rfl⟩
    obtain ⟨c, hc⟩ : ∃ c, f j = c + 48 := ⟨f j - 48, by omega⟩
    obtain ⟨d1, hd1⟩ : ∃ d1, dv (fun i => upd (mf f (j + 1)) j (f j + 1) (j + 1 + i)) m = d1 := ⟨_, rfl⟩
    obtain ⟨d2, hd2⟩ : ∃ d2, dv (fun i => f (j + 1 + i)) m = d2 := ⟨_, rfl⟩
    rw [hP, hd1] at a1
    rw [hP, hd2] at a2
    rw [hP, hD, hd1, hd2, hc, show c + 48 + 1 - 48 = c + 1 by omega, show c + 48 - 48 = c by omega]
    rw [← Nat.add_assoc, Nat.add_mul _ 1 P, Nat.one_mul]
    omega
theorem nines_num {f : Nat → Nat} {n : Nat} (h9 : ∀ i, i < n → f i = 57) : dv f n + 1 = 10 ^ n := by
  have := dv_same h9 (by decide)
  have hp := Nat.pow_pos (n := n) (show 0 < 10 by decide)
  omega

/-! the new bytes -/
/-- the block g is the bytes f, n of them, as a text's copy lies -/
structure Mk (w0 wr : World) (g n : Nat) (f : Nat → Nat) : Prop where
  blk : ∃ (cur : Array Value) (m : Nat), wr.heap[g]? = some (.cells cur 5 (m, m + 1)) ∧ n ≤ m ∧ n ≤ cur.size ∧ Ints cur .u8 0 n f
  old : w0.heap.size ≤ g
  below : Below w0.heap.size w0 wr
theorem Mk.cell {w0 wr : World} {g n i : Nat} {f : Nat → Nat} (h : Mk w0 wr g n f) (hi : i < n) : wr.cell? ⟨g, i, none⟩ = some (.int .u8 (f i : Int)) ∧ wr.frozen? ⟨g, i, none⟩ = false := by
  obtain ⟨cur, m, hb, hn, hs, hin⟩ := h.blk
  have := hin i hi
  rw [Nat.zero_add] at this
  refine ⟨(cell_of_row wr g i cur _ _ hb).trans this, ?_⟩
  unfold World.frozen?
  rw [hb]
  simp
  omega
theorem Mk.set {w0 wr : World} {g n i x : Nat} {f : Nat → Nat} (h : Mk w0 wr g n f) (hi : i < n) : Mk w0 (wr.setCell ⟨g, i, none⟩ (.int .u8 (x : Int))) g n (upd f i x) := by
  obtain ⟨cur, m, hb, hn, hs, hin⟩ := h.blk
  refine ⟨⟨cur.setIfInBounds i (.int .u8 (x : Int)), m, ?_, hn, by rw [Array.size_setIfInBounds]; exact hs, ?_⟩, h.old, h.below.setCell h.old _⟩
  · simp [World.setCell, Array.getElem?_modify, hb]
  · have := hin.set_ i x hi
    rw [Nat.zero_add] at this
    exact this
theorem Mk.rd {w0 wr : World} {g n : Nat} {f : Nat → Nat} (h : Mk w0 wr g n f) : Rd wr .u8 (some ⟨g, 0, none⟩) n f := fun hn => by
  refine ⟨g, 0, rfl, ?_, fun i hi => by rw [Nat.zero_add]; exact (h.cell hi).1⟩
  obtain ⟨cur, m, hb, _⟩ := h.blk
  exact (Array.getElem?_eq_some_iff.1 hb).1
theorem Mk.new (w : World) (s : ByteArray) (C : Nat) : Mk w ((w.drew.alloc (.cells (bytesRow s C) 5 ((bytesRow s C).size, (bytesRow s C).size + 1)))) w.heap.size s.size (bt s) := by
  have hsz : s.size ≤ (bytesRow s C).size := by
    have h1 : s.data.size = s.size := rfl
    unfold bytesRow
    rw [Array.size_append, Array.size_map, h1]
    omega
  refine ⟨⟨bytesRow s C, (bytesRow s C).size, ?_, hsz, hsz, fun i hi => ?_⟩, Nat.le_refl _, (Below.refl _ _).drew.alloc (Nat.le_refl _) _⟩
  · show (w.heap.push _)[w.heap.size]? = _
    simp
  · rw [Nat.zero_add, bt_at hi]
    unfold bytesRow
    rw [Array.getElem?_append_left (by simp; exact hi)]
    simp
    exact ⟨_, Array.getElem?_eq_getElem hi, rfl⟩

def MoAns (s : ByteArray) (w : World) (e : Ending) (w' : World) : Prop :=
  ∃ t : ByteArray, e = .returned (.string t) ∧ 0 < t.size ∧ t.size ≤ s.size + 1 ∧ dgs (bt t) t.size = true ∧ dv (bt t) t.size = dv (bt s) s.size + 1 ∧ Below w.heap.size w w'

theorem pc_num {f : Nat → Nat} {n : Nat} (hd : dgs f n = true) : (pc f n).size = n ∧ dgs (bt (pc f n)) n = true ∧ dv (bt (pc f n)) n = dv f n := by
  have hf : ∀ i, i < n → bt (pc f n) i = f i := fun i hi => bt_pc hi (by have := dgs_at hd hi; omega)
  exact ⟨pc_size f n, by rw [dgs_congr hf]; exact hd, dv_congr hf⟩

set_option maxRecDepth 100000 in
set_option maxHeartbeats 2000000 in
theorem more_any (s : ByteArray) (w : World) (hs0 : 0 < s.size) (hs : s.size ≤ 1000) (hd : dgs (bt s) s.size = true) :
    Calls Tryz.prog 16 #[.string s] w (MoAns s w) := by
  have hcv := run_bytes_of_string (P := Tryz.prog) w 9 77 5 s Tryz.underlying9 Tryz.underlying77 Tryz.underlying5
  obtain ⟨C, hC⟩ : ∃ C, grownCap w s.size 0 5 = C := ⟨_, rfl⟩
  rw [hC] at hcv
  have HM := Lib.hid (Mk.new w s C)
  obtain ⟨W1, hW1⟩ : ∃ W1, (w.drew.alloc (.cells (bytesRow s C) 5 ((bytesRow s C).size, (bytesRow s C).size + 1))) = W1 := ⟨_, rfl⟩
  rw [hW1] at hcv HM
  have HD := Lib.hid hd
  have HCV := Lib.hid (fun W n c f (h : Rd W .u8 (some ⟨w.heap.size, 0, none⟩) n f) => conv_row (some ⟨w.heap.size, 0, none⟩) n c f W h)
  obtain ⟨g, hg⟩ : ∃ g, w.heap.size = g := ⟨_, rfl⟩
  rw [hg] at hcv HM HCV
  clear hC hW1 hd hg
  go_enter Tryz.func16, Tryz.ntmps16
  go_wp2_with fail
  go_loopw [4] (fun s4 wr => ∃ j : Nat, j ≤ s.size ∧ s4 = .int .i64 ((j : Int) - 1) ∧ Hid (∀ i, j ≤ i → i < s.size → bt s i = 57) ∧ Hid (Mk w wr g s.size (mf (bt s) j))) (fun s4 _ => (intOf s4 + 1).toNat)
  case atStart => exact ⟨s.size, Nat.le_refl _, rfl, Lib.hid (fun i h1 h2 => by omega), Lib.hid (by
    obtain ⟨⟨cur, m, h1, h2, h3, h4⟩, h5, h6⟩ := HM.out
    exact ⟨⟨cur, m, h1, h2, h3, h4.congr fun i hi => (if_pos hi).symm⟩, h5, h6⟩)⟩
  case round =>
    obtain ⟨j, hj, rfl, h9, hM⟩ := hrel
    by_cases hj0 : j = 0
    · subst hj0
      have kc := HCV.out wr s.size C _ hM.out.rd
      obtain ⟨p, hp⟩ : ∃ p, pc (mf (bt s) 0) s.size = p := ⟨_, rfl⟩
      have h48 : ∀ i, i < s.size → mf (bt s) 0 i = 48 := fun i _ => if_neg (by omega)
      have hdz : dgs (mf (bt s) 0) s.size = true := by
        rw [dgs_congr (g := fun _ => 48) h48]
        have : ∀ n, dgs (fun _ => 48) n = true := fun n => by
          induction n with
          | zero => rfl
          | succ n ih => rw [dgs, ih]; rfl
        exact this _
      obtain ⟨p1, p2, p3⟩ := pc_num hdz
      have hz := dv_same h48 (by decide)
      have h9' := nines_num (f := bt s) (n := s.size) (fun i hi => h9.out i (Nat.zero_le i) hi)
      rw [hp] at kc p1 p2 p3
      obtain ⟨a1, a2⟩ := app_num (a := ⟨#[49]⟩) (b := p) (by decide) (by rw [p1]; exact p2)
      have hp1 : ((⟨#[49]⟩ : ByteArray) ++ p).size = 1 + s.size := by rw [ByteArray.size_append, p1]; rfl
      have HA : Hid (MoAns s w (.returned (.string (⟨#[49]⟩ ++ p))) wr) := Lib.hid ⟨_, rfl, by omega, by omega, a1, by
        rw [a2, p1, p3, show dv (bt ⟨#[49]⟩) (ByteArray.size ⟨#[49]⟩) = 1 by decide]
        omega, hM.out.below⟩
      have e0 : (((0 : Nat) : Int) - 1) = -1 := by decide
      have hps : p.size ≤ 1000 := by omega
      rw [e0]
      clear e0 hp hdz p1 p2 p3 hz h9' a1 a2 hp1 h48 hcv
      go_wp2_with fail
      go_ret
      exact HA.out
    · obtain ⟨i, rfl⟩ : ∃ i, j = i + 1 := ⟨j - 1, by omega⟩
      have hi : i < s.size := by omega
      obtain ⟨hc, hf⟩ := hM.out.cell hi
      have hx : mf (bt s) (i + 1) i = bt s i := if_pos (by omega)
      have hdi := dgs_at HD.out hi
      obtain ⟨x, hxx⟩ : ∃ x, bt s i = x := ⟨_, rfl⟩
      have HX := Lib.hid hxx
      rw [hx, hxx] at hc
      rw [hxx] at hdi
      have e0 : (((i + 1 : Nat) : Int) - 1) = (i : Int) := by omega
      rw [e0]
      clear e0 hx hcv
      by_cases h57 : x = 57
      · subst h57
        have hM2 : Hid (Mk w (wr.setCell ⟨g, i, none⟩ (.int .u8 48)) g s.size (mf (bt s) i)) := Lib.hid (by
          have h := hM.out.set (x := 48) hi
          have e : upd (mf (bt s) (i + 1)) i 48 = mf (bt s) i := by
            funext k
            unfold upd mf
            by_cases c1 : k = i
            · rw [if_pos c1, if_neg (by omega)]
            · rw [if_neg c1]
              by_cases c2 : k < i
              · rw [if_pos (by omega), if_pos c2]
              · rw [if_neg (by omega), if_neg c2]
          rw [e] at h
          exact h)
        have h92 : Hid (∀ k, i ≤ k → k < s.size → bt s k = 57) := Lib.hid (fun k h1 h2 => by
          by_cases c : k = i
          · rw [c]; exact HX.out
          · exact h9.out k (by omega) h2)
        clear hxx
        go_wp2_with fail
        go_roundw
        case rel => exact ⟨i, by omega, by go_num, h92, hM2⟩
        case measure => simp [intOf]
      · have hm := hM.out.set (x := x + 1) hi
        have kc := HCV.out _ s.size C _ hm.rd
        have hbel := hm.below
        obtain ⟨n1, n2⟩ := more_num (f := bt s) (j := i) (m := s.size - (i + 1)) (by rw [show i + 1 + (s.size - (i + 1)) = s.size by omega]; exact HD.out) (fun k hk => h9.out _ (by omega) (by omega)) (by rw [hxx]; exact h57)
        rw [show i + 1 + (s.size - (i + 1)) = s.size by omega, hxx] at n1 n2
        obtain ⟨p1, p2, p3⟩ := pc_num n1
        obtain ⟨p, hp⟩ : ∃ p, pc (upd (mf (bt s) (i + 1)) i (x + 1)) s.size = p := ⟨_, rfl⟩
        rw [hp] at kc p1 p2 p3
        rw [show ((x + 1 : Nat) : Int) = (x : Int) + 1 from rfl] at kc hbel
        have HA : Hid (MoAns s w (.returned (.string p)) (wr.setCell ⟨g, i, none⟩ (.int .u8 ((x : Int) + 1)))) := Lib.hid ⟨_, rfl, by omega, by omega, by rw [p1]; exact p2, by rw [p1, p3, n2], hbel⟩
        have hx57 : x < 57 := by omega
        clear hxx hp p1 p2 p3 n1 n2 hm hbel h57
        go_wp2_with fail
        go_ret
        exact HA.out
end Go.Proofs.YtcndkhgbgjnclaaGreatDoor.nn
/- The walk of the law FdecOrder: it returns true. -/
namespace Go.Proofs.YtcndkhgbgjnclaaGreatDoor.nn
open Go.RowKit

def TrueAns (w : World) (e : Ending) (w' : World) : Prop := e = .returned (.bool true) ∧ Below w.heap.size w w'
theorem awake6 (w : World) : Calls Tryz.prog 11 #[] w (TrueAns w) := awake_any6 w

theorem rf_form {s : ByteArray} (z : Int) (h8 : s.size ≤ 800) (hd : dgs (bt s) s.size = false) : rfE s z = 4 := by
  unfold rfE
  rw [if_neg (by omega), hd, if_pos (show (false && decide (0 < s.size)) = false from rfl)]
theorem rf_ok {s : ByteArray} {z : Int} (h8 : s.size ≤ 800) (h0 : 0 < s.size) (hd : dgs (bt s) s.size = true) (h1 : -2000 ≤ z) (h2 : z ≤ 2000) : rfE s z = 0 := by
  unfold rfE
  rw [if_neg (by omega), hd, decide_eq_true h0, if_neg (by decide), if_neg (by omega)]
theorem zk_one : zk 1 = ⟨#[48]⟩ := rfl
theorem app_zero {s : ByteArray} {z : Int} {b : Nat} (hd : dgs (bt s) s.size = true) (h : RN s z b) : RN (s ++ ⟨#[48]⟩) (z - 1) b := by
  obtain ⟨_, d2⟩ := dv_zk hd 1
  rw [zk_one] at d2
  refine near_same (rY_pos z) (rY_pos (z - 1)) ?_ h
  unfold rX rY
  rw [d2]
  obtain ⟨D, hD⟩ : ∃ D, dv (bt s) s.size = D := ⟨_, rfl⟩
  obtain ⟨T, hT⟩ : ∃ T, 2 ^ e74 = T := ⟨_, rfl⟩
  rw [hD, hT, Nat.pow_one]
  by_cases c : 1 ≤ z
  · rw [show (-(z - 1)).toNat = 0 by omega, show (-z).toNat = 0 by omega, show z.toNat = (z - 1).toNat + 1 by omega, Nat.pow_succ, Nat.mul_comm (10 ^ (z - 1).toNat) 10, ← Nat.mul_assoc]
  · rw [show (-(z - 1)).toNat = (-z).toNat + 1 by omega, show (z - 1).toNat = 0 by omega, show z.toNat = 0 by omega, Nat.pow_succ, Nat.pow_zero, Nat.mul_one, Nat.mul_one, Nat.mul_comm (10 ^ (-z).toNat) 10, ← Nat.mul_assoc, Nat.mul_right_comm D 10 T]
end Go.Proofs.YtcndkhgbgjnclaaGreatDoor.nn
/- Plain facts on the places of a written number in a text. No program is named here. -/
namespace Go.Proofs.YtcndkhgbgjnclaaGreatDoor.nn

/-- how many digits stand in s from place a on -/
def rn (s : ByteArray) (a : Nat) : Nat := dc (fun i => bt s (a + i)) (s.size - a)
theorem rn_le (s : ByteArray) (a : Nat) : rn s a ≤ s.size - a := (dc_facts _ _).1
/-- from place a on -/
def sfx (s : ByteArray) (a : Nat) : ByteArray := s.extract a s.size
/-- from place a to place b -/
def cutT (s : ByteArray) (a b : Nat) : ByteArray := s.extract a b
theorem fba_ext {a b : ByteArray} (h : a.size = b.size) (e : ∀ i, i < a.size → bt a i = bt b i) : a = b := by
  apply ByteArray.ext_getElem h
  intro i h1 h2
  have := e i h1
  rw [bt_at h1, bt_at h2] at this
  exact UInt8.toNat_inj.1 this
theorem cutT_size {s : ByteArray} {a b : Nat} (h : b ≤ s.size) : (cutT s a b).size = b - a := by
  unfold cutT
  rw [ByteArray.size_extract]
  omega
theorem sfx_size (s : ByteArray) (a : Nat) : (sfx s a).size = s.size - a := by
  unfold sfx
  rw [ByteArray.size_extract]
  omega
theorem bt_cutT {s : ByteArray} {a b i : Nat} (h : b ≤ s.size) (hi : i < b - a) : bt (cutT s a b) i = bt s (a + i) := by
  have h1 : i < (s.extract a b).size := by
    have := cutT_size (a := a) h
    unfold cutT at this
    omega
  have h2 : a + i < s.size := by omega
  show bt (s.extract a b) i = _
  rw [bt_at h1, bt_at h2, ByteArray.getElem_extract]
theorem bt_sfx {s : ByteArray} {a i : Nat} (hi : i < s.size - a) : bt (sfx s a) i = bt s (a + i) := bt_cutT (Nat.le_refl _) hi
theorem sfx_zero (s : ByteArray) : sfx s 0 = s := by
  refine fba_ext (by rw [sfx_size]; omega) fun i hi => ?_
  rw [sfx_size] at hi
  rw [bt_sfx hi, Nat.zero_add]
theorem sfx_cut {s : ByteArray} {a k : Nat} (h : a + k ≤ s.size) : (sfx s a).extract 0 k = cutT s a (a + k) := by
  have e1 : ((sfx s a).extract 0 k).size = k := by rw [ByteArray.size_extract, sfx_size]; omega
  refine fba_ext (by rw [e1, cutT_size h]; omega) fun i hi => ?_
  rw [e1] at hi
  rw [bt_cutT h (by omega), ← bt_sfx (by omega)]
  have := bt_cutT (s := sfx s a) (a := 0) (b := k) (i := i) (by rw [sfx_size]; omega) (by omega)
  rw [Nat.zero_add] at this
  exact this
theorem sfx_sfx {s : ByteArray} {a k : Nat} (h : a + k ≤ s.size) : (sfx s a).extract k (sfx s a).size = sfx s (a + k) := by
  have e1 : ((sfx s a).extract k (sfx s a).size).size = s.size - (a + k) := by rw [ByteArray.size_extract, sfx_size]; omega
  refine fba_ext (by rw [e1, sfx_size]) fun i hi => ?_
  rw [e1] at hi
  rw [bt_sfx hi]
  have := bt_sfx (s := sfx s a) (a := k) (i := i) (by rw [sfx_size]; omega)
  unfold sfx at this ⊢
  rw [this]
  have h2 := bt_sfx (s := s) (a := a) (i := k + i) (by omega)
  unfold sfx at h2
  rw [h2, Nat.add_assoc]
theorem dc_sfx {s : ByteArray} (a : Nat) : dc (bt (sfx s a)) (sfx s a).size = rn s a := by
  have : ∀ n, n ≤ s.size - a → dc (bt (sfx s a)) n = dc (fun i => bt s (a + i)) n := by
    intro n
    induction n with
    | zero => exact fun _ => rfl
    | succ n ih =>
      intro hn
      rw [dc, dc, ih (by omega), bt_sfx (by omega)]
  rw [sfx_size]
  exact this _ (Nat.le_refl _)
/-- the digits that are run through are digits -/
theorem rn_dgs {s : ByteArray} {a : Nat} (ha : a ≤ s.size) : dgs (bt (cutT s a (a + rn s a))) (rn s a) = true := by
  have h1 := rn_le s a
  obtain ⟨_, h2, _⟩ := dc_facts (fun i => bt s (a + i)) (s.size - a)
  rw [dgs_congr (g := fun i => bt s (a + i)) (fun i hi => bt_cutT (by omega) (by omega))]
  exact h2
end Go.Proofs.YtcndkhgbgjnclaaGreatDoor.nn
/- The walk of the law FdecFewest: it returns true. -/
namespace Go.Proofs.YtcndkhgbgjnclaaGreatDoor.nn
open Go.RowKit

theorem few_byte {s : ByteArray} {a : Nat} (h : a < s.size) : ∃ y, s[a].toNat = y ∧ bt s a = y ∧ y < 256 := ⟨_, rfl, bt_at h, s[a].toNat_lt⟩

set_option maxRecDepth 100000 in
set_option maxHeartbeats 1000000 in
theorem few_out (x : Nat) (w : World) (D : ByteArray) (E : Int) (R : Nat) (_hE : -9223372036854775808 ≤ E ∧ E ≤ 9223372036854775807)
    (HS : Hid (∀ W, Below w.heap.size w W → Calls Tryz.prog 7 #[.int .u64 (x : Int)] W (ShAns D E R W))) (h : (R = 1 ∧ D.size = 0) ∨ (R = 0 ∧ D.size = 1)) :
    Calls Tryz.prog 6 #[.int .u64 (x : Int)] w (TrueAns w) := by
  have HA := Lib.hid (fun W => awake6 W)
  have HB := Lib.hid (Below.refl w.heap.size w)
  rcases h with ⟨rfl, h⟩ | ⟨rfl, h⟩
  · obtain rfl := nil_text h
    clear h
    go_enter Tryz.func6, Tryz.ntmps6
    go_wp2_with fail
    refine (HS.out _ (by first | exact HB.out | exact drew_below HB.out _ | exact (HB.out.drew))).mono ?_
    rintro r w1 ⟨rfl, hb⟩
    have B1 := Lib.hid hb
    clear hb
    go_wp2_with fail
    refine (HA.out _).mono ?_
    rintro r w2 ⟨rfl, hb⟩
    have B2 := Lib.hid (B1.out.trans (hb.mono B1.out.size))
    clear hb
    go_wp2_with fail
    go_ret
    exact ⟨rfl, B2.out⟩
  · have hne := not_nil_text (show 0 < D.size by omega)
    go_enter Tryz.func6, Tryz.ntmps6
    go_wp2_with fail
    refine (HS.out _ (by first | exact HB.out | exact drew_below HB.out _ | exact (HB.out.drew))).mono ?_
    rintro r w1 ⟨rfl, hb⟩
    have B1 := Lib.hid hb
    clear hb
    go_wp2_with fail
    refine (HA.out _).mono ?_
    rintro r w2 ⟨rfl, hb⟩
    have B2 := Lib.hid (B1.out.trans (hb.mono B1.out.size))
    clear hb
    go_wp2_with fail
    go_ret
    exact ⟨rfl, B2.out⟩

set_option maxRecDepth 100000 in
set_option maxHeartbeats 4000000 in
theorem few_long (x : Nat) (w : World) (hx : x < 18446744073709551616) (D : ByteArray) (E : Int) (V1 V2 : Nat) (E1 E2 : Nat) (hE : -1000 ≤ E ∧ E ≤ 1000) (h2 : 2 ≤ D.size) (h20 : D.size ≤ 20) (hd : dgs (bt D) D.size = true)
    (hf : bt D 0 ≠ 48) (hl : bt D (D.size - 1) ≠ 48)
    (h1 : E1 = 8 ∨ (E1 = 0 ∧ V1 ≠ x)) (h2' : E2 = 8 ∨ (E2 = 0 ∧ V2 ≠ x))
    (HS : Hid (∀ W, Below w.heap.size w W → Calls Tryz.prog 7 #[.int .u64 (x : Int)] W (ShAns D E 0 W)))
    (HR1 : Hid (∀ W, Calls Tryz.prog 15 #[.bool (decide (9223372036854775808 ≤ x)), .string (cutT D 0 (D.size - 1)), .int .i64 (E + 1)] W (RoAns V1 E1 W)))
    (HR2 : Hid (∀ t W, dgs (bt t) t.size = true → dv (bt t) t.size = dv (bt (cutT D 0 (D.size - 1))) (D.size - 1) + 1 → 0 < t.size → t.size ≤ D.size → Calls Tryz.prog 15 #[.bool (decide (9223372036854775808 ≤ x)), .string t, .int .i64 (E + 1)] W (RoAns V2 E2 W))) :
    Calls Tryz.prog 6 #[.int .u64 (x : Int)] w (TrueAns w) := by
  have HA := Lib.hid (fun W => awake6 W)
  have HB := Lib.hid (Below.refl w.heap.size w)
  have hne := not_nil_text (show 0 < D.size by omega)
  have hcs : (cutT D 0 (D.size - 1)).size = D.size - 1 := by rw [cutT_size (by omega)]; omega
  have hcd : dgs (bt (cutT D 0 (D.size - 1))) (cutT D 0 (D.size - 1)).size = true := by
    rw [hcs, dgs_congr (g := bt D) (fun i hi => by rw [bt_cutT (by omega) (by omega), Nat.zero_add])]
    exact dgs_mono hd (by omega)
  have HM := Lib.hid (fun W => more_any (cutT D 0 (D.size - 1)) W (by omega) (by omega) hcd)
  unfold MoAns at HM
  rw [hcs] at HM
  have SL : Hid (∀ W, (Instr.slice 9 (.string D) none (some (.int .i64 ((D.size : Int) - 1))) none).run Tryz.prog W = .ok (.string (cutT D 0 (D.size - 1))) W) := Lib.hid fun W => by
    have h := run_slice_string_to_if (P := Tryz.prog) (w := W) 9 D .i64 ((D.size : Int) - 1) Tryz.underlying9
    rw [if_pos (by omega), show ((D.size : Int) - 1).toNat = D.size - 1 by omega] at h
    exact h
  obtain ⟨y, hy1, hy2, hy3⟩ := few_byte (s := D) (a := 0) (by omega)
  obtain ⟨u, hu1, hu2, hu3⟩ := few_byte (s := D) (a := D.size - 1) (by omega)
  rw [hy2] at hf
  rw [hu2] at hl
  have hyq : ((y : Int) != 48) = true := by simp; omega
  have huq : ((u : Int) != 48) = true := by simp; omega
  have hidx : ((D.size : Int) - 1).toNat = D.size - 1 := by omega
  obtain ⟨ng, hng⟩ : ∃ b, decide (9223372036854775808 ≤ x) = b := ⟨_, rfl⟩
  have hsh : ((x : Int) / 9223372036854775808 == 1) = ng := by
    rw [← hng]
    by_cases c : 9223372036854775808 ≤ x
    · rw [decide_eq_true c, beq_iff_eq]; omega
    · rw [decide_eq_false c, beq_eq_false_iff_ne]; omega
  rw [hng] at HR1 HR2
  obtain ⟨low, hlow⟩ : ∃ t, cutT D 0 (D.size - 1) = t := ⟨_, rfl⟩
  rw [hlow] at HM SL HR1 HR2
  have sl := SL.out
  clear hcs hcd hlow hng hd
  rcases h1 with rfl | ⟨rfl, h1⟩
  all_goals rcases h2' with rfl | ⟨rfl, h2'⟩
  all_goals first | (have q1 : ((V1 : Int) != (x : Int)) = true := by simp; omega) | skip
  all_goals first | (have q2 : ((V2 : Int) != (x : Int)) = true := by simp; omega) | skip
  all_goals
    go_enter Tryz.func6, Tryz.ntmps6
    go_wp2_with fail
    refine (HS.out _ (by first | exact HB.out | exact drew_below HB.out _ | exact (HB.out.drew))).mono ?_
    rintro r w1 ⟨rfl, hb⟩
    have B1 := Lib.hid hb
    clear hb
    go_wp2_with fail
    refine (HR1.out _).mono ?_
    rintro r w2 ⟨rfl, hb⟩
    have B2 := Lib.hid (B1.out.trans (hb.mono B1.out.size))
    clear hb
    go_wp2_with fail
    refine (HM.out _).mono ?_
    rintro r w3 ⟨t, rfl, t1, t2, t3, t4, hb⟩
    have B3 := Lib.hid (B2.out.trans (hb.mono B2.out.size))
    have R3 := Lib.hid (HR2.out t w3 t3 t4 t1 (by omega))
    clear hb t3 t4
    go_wp2_with fail
    refine R3.out.mono ?_
    rintro r w4 ⟨rfl, hb⟩
    have B4 := Lib.hid (B3.out.trans (hb.mono B3.out.size))
    clear hb
    go_wp2_with fail
    refine (HA.out _).mono ?_
    rintro r w5 ⟨rfl, hb⟩
    have B5 := Lib.hid (B4.out.trans (hb.mono B4.out.size))
    clear hb
    go_wp2_with fail
    go_ret
    exact ⟨rfl, B5.out⟩
theorem dv_ge {f : Nat → Nat} {N : Nat} (hd : dgs f N = true) (h0 : f 0 ≠ 48) (n : Nat) : 2 ≤ n → n ≤ N → 10 ≤ dv f n := by
  induction n with
  | zero => intro h; omega
  | succ n ih =>
    intro h1 h2
    rw [dv]
    rcases (by omega : n = 1 ∨ 2 ≤ n) with rfl | g
    · have := (dgs_at hd (i := 0) (by omega)).1
      have e : dv f 1 = f 0 - 48 := by simp [dv]
      rw [e]
      omega
    · have := ih g (by omega)
      omega
theorem sh_size (m : Nat) (e : Int) : (shD m e).size = (shL m e).length := List.size_toArray
theorem roV_lt {neg : Bool} {b : Nat} (h : b < inf) : roV neg b = sB neg + b ∧ roE b = 0 := by unfold roV roE; rw [if_pos h, if_pos h]; exact ⟨rfl, rfl⟩
/-- Round of what is not nearest to the bits -/
theorem ro_ne {x b c : Nat} (_hx : x < 18446744073709551616) (hb : b = x % 9223372036854775808) (hne : c ≠ b) : (roE c = 8) ∨ (roE c = 0 ∧ roV (decide (9223372036854775808 ≤ x)) c ≠ x) := by
  by_cases h : c < inf
  · right
    obtain ⟨h1, h2⟩ := roV_lt (neg := decide (9223372036854775808 ≤ x)) h
    refine ⟨h2, ?_⟩
    rw [h1]
    rw [inf_eq] at h
    unfold sB
    split
    · rename_i g
      have := of_decide_eq_true g
      omega
    · rename_i g
      have : ¬ 9223372036854775808 ≤ x := fun g2 => g (decide_eq_true g2)
      omega
  · left
    unfold roE
    rw [if_neg h]
theorem fewest_law (x : Nat) (w : World) (hx : x < 18446744073709551616) (hP : Pow10 w) :
    Calls Tryz.prog 6 #[.int .u64 (x : Int)] w (TrueAns w) := by
  have hPat := hP.at_
  cases hO : xaO x with
  | false => exact few_out x w _ _ 1 (by decide) (Lib.hid fun W _ => shortest_no x W hx hO) (.inl ⟨rfl, rfl⟩)
  | true =>
    by_cases hm : xaM x = 0
    · exact few_out x w _ _ 0 (by decide) (Lib.hid fun W _ => shortest_zero x W hx hO hm) (.inr ⟨rfl, rfl⟩)
    · obtain ⟨hF, hb, hi⟩ := xa_fe x hx hO hm
      have HS : Hid (∀ W, Below w.heap.size w W → Calls Tryz.prog 7 #[.int .u64 (x : Int)] W (ShAns (shD (xaM x) (xaE x)) (shE (xaM x) (xaE x)) 0 W)) := Lib.hid fun W hW => shortest_yes x W hx hO hF (hP.below hW hPat)
      generalize xaM x = m at *
      generalize xaE x = e at *
      obtain ⟨j, b1, b2, b3, b4, b5, b6⟩ := hF.found
      obtain ⟨a1, a2, a3, a4, a5⟩ := hF.span
      have hN0 : 0 < shN m e := by
        rcases Nat.eq_zero_or_pos (shN m e) with g | g
        · exfalso
          have hp : 10 ^ j ≤ spA m e := by
            unfold j0 at b2
            split at b2
            · exact Nat.le_trans (Nat.pow_le_pow_right (by decide) b2) (by omega)
            · exact Nat.le_trans (Nat.pow_le_pow_right (by decide) b2) (by omega)
          have hp0 : 0 < 10 ^ j := Nat.pow_pos (by decide)
          have hq : 1 * 10 ^ j ≤ spA m e / 10 ^ j * 10 ^ j := Nat.mul_le_mul_right _ ((Nat.le_div_iff_mul_le hp0).2 (by omega))
          generalize spA m e / 10 ^ j * 10 ^ j = L1 at *
          generalize 10 ^ j = L2 at *
          omega
        · exact g
      obtain ⟨t, V, d1, d2, d3, d4, d5, d6, d7, d8⟩ := sh_digits hN0 (shL m e) rfl
      have hsz := sh_size m e
      have hpb : -500 ≤ spP m e ∧ spP m e ≤ 500 := by
        obtain ⟨q1, q2, q3, q4, q5⟩ := hF
        rw [h52] at q2
        have b1 := (bl_ge (N := m) (by omega)).2
        have b2 : bl m ≤ 53 := bl_le (k := 53) (by omega)
        unfold spP dcm; omega
      have hl20 : (Lib.decDigits (shN m e)).length ≤ 20 := by rw [Lib.decDigits_length]; have := Lib.numDigits_eq (shN m e) hN0 (by omega); split at this <;> omega
      have hE : shE m e = spP m e + (t : Int) := by unfold shE; rw [d1]; omega
      rw [← hsz] at d4 d5 d6 d8
      by_cases h1 : (shD m e).size = 1
      · exact few_out x w _ _ 0 (by rw [hE]; omega) HS (.inr ⟨rfl, h1⟩)
      · have hV : 10 ≤ V := by rw [← d6]; exact dv_ge d5 d7 _ (by omega) (Nat.le_refl _)
        have hnone := fun c => hF.fewest d2 d3 hV c
        have hcs : (cutT (shD m e) 0 ((shD m e).size - 1)).size = (shD m e).size - 1 := by rw [cutT_size (by omega)]; omega
        have hcd : dgs (bt (cutT (shD m e) 0 ((shD m e).size - 1))) (cutT (shD m e) 0 ((shD m e).size - 1)).size = true := by
          rw [hcs, dgs_congr (g := bt (shD m e)) (fun i hi => by rw [bt_cutT (by omega) (by omega), Nat.zero_add])]
          exact dgs_mono d5 (by omega)
        have hfar : ∀ (s : ByteArray) c, RN s (shE m e + 1) c → c ≠ bm m e := fun s c hc g => by
          rw [g] at hc
          have := (hF.near s (t + 1) (shE m e + 1) (by rw [hE]; omega)).1 hc
          exact hnone _ this
        have hok : ∀ s : ByteArray, 0 < s.size → s.size ≤ 20 → dgs (bt s) s.size = true → rfE s (shE m e + 1) = 0 := fun s s1 s2 s3 => rf_ok (by omega) s1 s3 (by rw [hE]; omega) (by rw [hE]; omega)
        obtain ⟨c1, hc1⟩ := RN_ex (cutT (shD m e) 0 ((shD m e).size - 1)) (shE m e + 1)
        obtain ⟨c2, hc2⟩ := near_ex ((dv (bt (cutT (shD m e) 0 ((shD m e).size - 1))) ((shD m e).size - 1) + 1) * 10 ^ (shE m e + 1).toNat * 2 ^ e74) (rY (shE m e + 1)) (rY_pos _)
        have hex : ∃ s : ByteArray, dv (bt s) s.size = dv (bt (cutT (shD m e) 0 ((shD m e).size - 1))) ((shD m e).size - 1) + 1 := by
          generalize dv (bt (cutT (shD m e) 0 ((shD m e).size - 1))) ((shD m e).size - 1) + 1 = K
          obtain ⟨_, k2⟩ := dec_read K
          refine ⟨⟨(Lib.decDigits K).toArray⟩, ?_⟩
          have hz : ByteArray.size ⟨(Lib.decDigits K).toArray⟩ = (Lib.decDigits K).length := List.size_toArray
          rw [hz, dv_congr (g := lf_ (Lib.decDigits K)) (fun i hi => bt_lf _ i hi)]
          exact k2
        have hRN2 : ∀ s : ByteArray, dv (bt s) s.size = dv (bt (cutT (shD m e) 0 ((shD m e).size - 1))) ((shD m e).size - 1) + 1 → RN s (shE m e + 1) c2 := fun s hs => by
          unfold RN rX
          rw [hs]
          exact hc2
        have hne2 : c2 ≠ bm m e := by
          obtain ⟨s, hs⟩ := hex
          exact hfar s c2 (hRN2 s hs)
        refine few_long x w hx (shD m e) (shE m e) _ _ _ _ (by rw [hE]; omega) (by omega) (by rw [hsz]; omega) d5 d7 d8 (ro_ne hx hb (hfar _ _ hc1)) (ro_ne hx hb hne2) HS (Lib.hid fun W => ?_) (Lib.hid fun s W s1 s2 s3 s4 => ?_)
        · exact round_yes _ _ _ _ W (hok _ (by omega) (by omega) hcd) hc1
        · exact round_yes _ _ _ _ W (hok _ s3 (by rw [hsz] at s4; omega) s1) (hRN2 s s2)
end Go.Proofs.YtcndkhgbgjnclaaGreatDoor.nn
/- A world whose package variables hold what the program's text lays there. -/
namespace Go.Proofs.YtcndkhgbgjnclaaGreatDoor.nn
open Go.ChangeShapes Go.WideShapes Go.ChangeAt Go.RowKit

def layA (cs : Array Value) : Obj → Obj
  | .cells _ t frozen => .cells cs t frozen
  | o => o
def bytesA (l : List Nat) : Array Value := (l.map fun (n : Nat) => Value.int .u8 (n : Int)).toArray
noncomputable def laidW (os : Os) : World :=
  { World.holding Tryz.prog os ⟨#[], #[], []⟩ with heap := (((((World.holding Tryz.prog os ⟨#[], #[], []⟩).heap.modify 0 (layA #[.int .u64 1, .int .u64 10, .int .u64 100, .int .u64 1000, .int .u64 10000, .int .u64 100000, .int .u64 1000000, .int .u64 10000000, .int .u64 100000000, .int .u64 1000000000, .int .u64 10000000000, .int .u64 100000000000, .int .u64 1000000000000, .int .u64 10000000000000, .int .u64 100000000000000, .int .u64 1000000000000000, .int .u64 10000000000000000, .int .u64 100000000000000000, .int .u64 1000000000000000000, .int .u64 10000000000000000000])).modify 1 (layA (bytesA Go.Pinned.utf8FirstZ))).modify 2 (layA (bytesA [128, 191, 160, 191, 128, 159, 144, 191, 128, 143, 0, 0, 0, 0, 0, 0, 0, 0, 0, 0, 0, 0, 0, 0, 0, 0, 0, 0, 0, 0, 0, 0]))).modify 3 (layA (bytesA [0, 1, 28, 2, 29, 14, 24, 3, 30, 22, 20, 15, 25, 17, 4, 8, 31, 27, 13, 23, 21, 19, 16, 7, 26, 12, 18, 6, 11, 5, 10, 9]))).modify 4 (layA (bytesA [0, 1, 56, 2, 57, 49, 28, 3, 61, 58, 42, 50, 38, 29, 17, 4, 62, 47, 59, 36, 45, 43, 51, 22, 53, 39, 33, 30, 24, 18, 12, 5, 63, 55, 48, 27, 60, 41, 37, 16, 46, 35, 44, 21, 52, 32, 23, 11, 54, 26, 40, 15, 34, 20, 31, 10, 25, 14, 19, 9, 13, 8, 7, 6])) }
end Go.Proofs.YtcndkhgbgjnclaaGreatDoor.nn
/- How the arguments of the laws read: strings and numbers. -/
namespace Go.Proofs.YtcndkhgbgjnclaaGreatDoor.nn
open Go.ChangeShapes Go.WideShapes Go.ChangeAt Go.RowKit

theorem Tryz.own : ownKnob Tryz.prog.godebug = none := by kernel_rfl
theorem Tryz.laidOut : laidOutB Tryz.prog = true := by kernel_rfl
theorem wf_i64 {n : Int} (h : (Lit.int .i64 n).wf = true) : -9223372036854775808 ≤ n ∧ n ≤ 9223372036854775807 := by
  have h1 : IntKind.i64.min = -9223372036854775808 := rfl
  have h2 : IntKind.i64.max = 9223372036854775807 := rfl
  simp only [Lit.wf, Bool.and_eq_true, decide_eq_true_eq] at h
  omega
theorem wf_u8 {n : Int} (h : (Lit.int .u8 n).wf = true) : 0 ≤ n ∧ n < ((256 : Nat) : Int) := by
  have h1 : IntKind.u8.min = 0 := rfl
  have h2 : IntKind.u8.max = 255 := rfl
  simp only [Lit.wf, Bool.and_eq_true, decide_eq_true_eq] at h
  omega
theorem wf_u16 {n : Int} (h : (Lit.int .u16 n).wf = true) : 0 ≤ n ∧ n < ((65536 : Nat) : Int) := by
  have h1 : IntKind.u16.min = 0 := rfl
  have h2 : IntKind.u16.max = 65535 := rfl
  simp only [Lit.wf, Bool.and_eq_true, decide_eq_true_eq] at h
  omega
theorem wf_u64 {n : Int} (h : (Lit.int .u64 n).wf = true) : 0 ≤ n ∧ n < ((18446744073709551616 : Nat) : Int) := by
  have h1 : IntKind.u64.min = 0 := rfl
  have h2 : IntKind.u64.max = 18446744073709551615 := rfl
  simp only [Lit.wf, Bool.and_eq_true, decide_eq_true_eq] at h
  omega
theorem size_reach {s : ByteArray} (h : s.data.toList.length ≤ reachBytes) : s.size ≤ 140737488351232 := h
end Go.Proofs.YtcndkhgbgjnclaaGreatDoor.nn
