/- Joined texts: Shape2, Shape3, Shape4, Shape5, Shape6, Shape7, Shape8, Shape9, FbNum2, ShapeNum, ShapeNum2, FbitsReal, FbitsReal2, FdD, FdNear. -/
import Derived.Great.Walk
import Derived.KernelRfl
import Derived.Deep.WholeRow
import Derived.Deep.CutBlock
import Derived.Test.YtcndkhgbgjnclaaShelf
import Derived.Lib.MinMax
import Derived.Test.YtcndkhgbgjnclaaJc
/- The real fbits: split and join of a shape. -/
namespace Go.Proofs.Ytcndkhgbgjnclaa.nn
open Go.RowKit

def lim (k : Nat) : Nat := if k = 16 then 65536 else if k = 32 then 4294967296 else 18446744073709551616
theorem ret_spl {a c : Bool} {i j m n : Int} (h1 : a = c) (h2 : i = j) (h3 : m = n) : Ending.returned (.tuple #[.bool a, .int .i64 i, .int .u64 m]) = .returned (.tuple #[.bool c, .int .i64 j, .int .u64 n]) := by rw [h1, h2, h3]
theorem ret_u64 {a b : Int} (h : a = b) : Ending.returned (.int .u64 a) = .returned (.int .u64 b) := by rw [h]
theorem ne_nat_div {x d : Nat} (hx : x < 2 * d) : ((x : Int) / (d : Int) != 0) = decide (x / d = 1) := by
  rw [← Int.natCast_ediv]
  have hd : 0 < d := by omega
  have h2 : x / d < 2 := Nat.div_lt_of_lt_mul (by omega)
  generalize x / d = q at h2 ⊢
  by_cases h : q = 1
  · rw [h]; rfl
  · have h0 : q = 0 := by omega
    rw [decide_eq_false h, h0]
    rfl
set_option maxRecDepth 100000 in
set_option maxHeartbeats 1000000 in
theorem split_16 (x : Nat) (w : World) (hx : x < 65536) : Calls Try.prog 49 #[sv 16, .int .u64 (x : Int)] w fun e w' => e = .returned (.tuple #[.bool (sg 16 x), .int .i64 (ex 16 x : Int), .int .u64 (fr 16 x : Int)]) ∧ Below w.heap.size w w' := by
  have hk : kOk 16 := by unfold kOk; omega
  have hd : ((x : Int) / 32768 != 0) = sg 16 x := by
    unfold sg
    rw [show xb 16 + fb 16 = 15 from rfl, show (2 : Nat) ^ 15 = 32768 from rfl]
    exact ne_nat_div (d := 32768) (by omega)
  have hm : bits .and .i64 ((x : Int) / 1024) 31 = (ex 16 x : Int) := by
    unfold ex
    rw [show xb 16 = 5 from rfl, show fb 16 = 10 from rfl, show (2 : Nat) ^ 10 = 1024 from rfl]
    rw [show ((x : Int) / 1024) = ((x / 1024 : Nat) : Int) by omega]
    exact (i64_and_nat (x / 1024) 31 (by omega) (by decide)).trans (by rw [and_mask (x / 1024) 5])
  have hf : bits .and .u64 (x : Int) 1023 = (fr 16 x : Int) := by
    unfold fr
    rw [show fb 16 = 10 from rfl]
    exact (u64_and_nat x 1023 (by omega) (by decide)).trans (by rw [and_mask x 10])
  have hw : IntKind.i64.wrap ((x : Int) / 1024) = (x : Int) / 1024 := IntWalk.i64_in _ (by omega)
  have HD := Lib.hid hd
  have HM := Lib.hid hm
  have HF := Lib.hid hf
  have hO : ∀ W, Bs w 16 W → Calls Try.prog 41 #[sv 16] W fun e w' => e = .returned (.int .i64 31) ∧ Bs w 16 w' := fun W hW => (ones_any 16 W hk).mono fun e w' ⟨he, hb⟩ => ⟨he, hW.on hb⟩
  have hI : ∀ W, Bs w 16 W → Calls Try.prog 31 #[sv 16] W fun e w' => e = .returned (.int .u64 1024) ∧ Bs w 16 w' := fun W hW => (hidden_any 16 W hk).mono fun e w' ⟨he, hb⟩ => ⟨he, hW.on hb⟩
  rw [show sv 16 = .agg #[.int .i64 16, .int .i64 5, .int .i64 10] from rfl] at hO hI ⊢
  have HO := Lib.hid hO
  have HI := Lib.hid hI
  have HB : Hid (∀ T, Bs w 16 (w.alloc (.cells #[.int .i64 16, .int .i64 5, .int .i64 10] T))) := Lib.hid (Bs.new w 16)
  have HL : Hid (∀ W, Bs w 16 W → W.cell? ⟨w.heap.size, 0, none⟩ = some (.int .i64 16) ∧ W.cell? ⟨w.heap.size, 1, none⟩ = some (.int .i64 5) ∧ W.cell? ⟨w.heap.size, 2, none⟩ = some (.int .i64 10) ∧ Bs w 16 W) := Lib.hid fun W hW => hW.all
  clear hd hm hf hO hI hk
  go_enter Try.func49, Try.ntmps49
  go_wp2_with fail
  have hb0 := HB.out 40
  generalize w.alloc _ = W0 at hb0 ⊢
  have hb1 := hb0.drew
  have hb := HL.out _ hb1
  go_region_held3 (fun W => W.cell? ⟨w.heap.size, 0, none⟩ = some (.int .i64 16) ∧ W.cell? ⟨w.heap.size, 1, none⟩ = some (.int .i64 5) ∧ W.cell? ⟨w.heap.size, 2, none⟩ = some (.int .i64 10) ∧ Bs w 16 W) (first | exact HL.out _ ‹_› | exact HL.out _ (And.right ‹_›))
    (first | (go_at_call 41; with_reducible refine (HO.out _ ?_).mono ?_; (first | assumption | exact And.right ‹_›); rintro e w' ⟨rfl, hk5⟩))
  go_wp2_with fail
  with_reducible refine (HI.out _ (by assumption)).mono ?_
  rintro e w2 ⟨rfl, hk6⟩
  go_wp2_with fail
  exact bodyPost_ret (v := .tuple #[.bool ((x : Int) / 32768 != 0), .int .i64 (bits .and .i64 ((x : Int) / 1024) 31), .int .u64 (bits .and .u64 (x : Int) 1023)]) (by simp [results, Try.results49, go_sem]) rfl ⟨ret_spl HD.out HM.out HF.out, hk6.b⟩

set_option maxRecDepth 100000 in
set_option maxHeartbeats 1000000 in
theorem split_32 (x : Nat) (w : World) (hx : x < 4294967296) : Calls Try.prog 49 #[sv 32, .int .u64 (x : Int)] w fun e w' => e = .returned (.tuple #[.bool (sg 32 x), .int .i64 (ex 32 x : Int), .int .u64 (fr 32 x : Int)]) ∧ Below w.heap.size w w' := by
  have hk : kOk 32 := by unfold kOk; omega
  have hd : ((x : Int) / 2147483648 != 0) = sg 32 x := by
    unfold sg
    rw [show xb 32 + fb 32 = 31 from rfl, show (2 : Nat) ^ 31 = 2147483648 from rfl]
    exact ne_nat_div (d := 2147483648) (by omega)
  have hm : bits .and .i64 ((x : Int) / 8388608) 255 = (ex 32 x : Int) := by
    unfold ex
    rw [show xb 32 = 8 from rfl, show fb 32 = 23 from rfl, show (2 : Nat) ^ 23 = 8388608 from rfl]
    rw [show ((x : Int) / 8388608) = ((x / 8388608 : Nat) : Int) by omega]
    exact (i64_and_nat (x / 8388608) 255 (by omega) (by decide)).trans (by rw [and_mask (x / 8388608) 8])
  have hf : bits .and .u64 (x : Int) 8388607 = (fr 32 x : Int) := by
    unfold fr
    rw [show fb 32 = 23 from rfl]
    exact (u64_and_nat x 8388607 (by omega) (by decide)).trans (by rw [and_mask x 23])
  have hw : IntKind.i64.wrap ((x : Int) / 8388608) = (x : Int) / 8388608 := IntWalk.i64_in _ (by omega)
  have HD := Lib.hid hd
  have HM := Lib.hid hm
  have HF := Lib.hid hf
  have hO : ∀ W, Bs w 32 W → Calls Try.prog 41 #[sv 32] W fun e w' => e = .returned (.int .i64 255) ∧ Bs w 32 w' := fun W hW => (ones_any 32 W hk).mono fun e w' ⟨he, hb⟩ => ⟨he, hW.on hb⟩
  have hI : ∀ W, Bs w 32 W → Calls Try.prog 31 #[sv 32] W fun e w' => e = .returned (.int .u64 8388608) ∧ Bs w 32 w' := fun W hW => (hidden_any 32 W hk).mono fun e w' ⟨he, hb⟩ => ⟨he, hW.on hb⟩
  rw [show sv 32 = .agg #[.int .i64 32, .int .i64 8, .int .i64 23] from rfl] at hO hI ⊢
  have HO := Lib.hid hO
  have HI := Lib.hid hI
  have HB : Hid (∀ T, Bs w 32 (w.alloc (.cells #[.int .i64 32, .int .i64 8, .int .i64 23] T))) := Lib.hid (Bs.new w 32)
  have HL : Hid (∀ W, Bs w 32 W → W.cell? ⟨w.heap.size, 0, none⟩ = some (.int .i64 32) ∧ W.cell? ⟨w.heap.size, 1, none⟩ = some (.int .i64 8) ∧ W.cell? ⟨w.heap.size, 2, none⟩ = some (.int .i64 23) ∧ Bs w 32 W) := Lib.hid fun W hW => hW.all
  clear hd hm hf hO hI hk
  go_enter Try.func49, Try.ntmps49
  go_wp2_with fail
  have hb0 := HB.out 40
  generalize w.alloc _ = W0 at hb0 ⊢
  have hb1 := hb0.drew
  have hb := HL.out _ hb1
  go_region_held3 (fun W => W.cell? ⟨w.heap.size, 0, none⟩ = some (.int .i64 32) ∧ W.cell? ⟨w.heap.size, 1, none⟩ = some (.int .i64 8) ∧ W.cell? ⟨w.heap.size, 2, none⟩ = some (.int .i64 23) ∧ Bs w 32 W) (first | exact HL.out _ ‹_› | exact HL.out _ (And.right ‹_›))
    (first | (go_at_call 41; with_reducible refine (HO.out _ ?_).mono ?_; (first | assumption | exact And.right ‹_›); rintro e w' ⟨rfl, hk5⟩))
  go_wp2_with fail
  with_reducible refine (HI.out _ (by assumption)).mono ?_
  rintro e w2 ⟨rfl, hk6⟩
  go_wp2_with fail
  exact bodyPost_ret (v := .tuple #[.bool ((x : Int) / 2147483648 != 0), .int .i64 (bits .and .i64 ((x : Int) / 8388608) 255), .int .u64 (bits .and .u64 (x : Int) 8388607)]) (by simp [results, Try.results49, go_sem]) rfl ⟨ret_spl HD.out HM.out HF.out, hk6.b⟩
set_option maxRecDepth 100000 in
set_option maxHeartbeats 1000000 in
theorem split_64 (x : Nat) (w : World) (hx : x < 18446744073709551616) : Calls Try.prog 49 #[sv 64, .int .u64 (x : Int)] w fun e w' => e = .returned (.tuple #[.bool (sg 64 x), .int .i64 (ex 64 x : Int), .int .u64 (fr 64 x : Int)]) ∧ Below w.heap.size w w' := by
  have hk : kOk 64 := by unfold kOk; omega
  have hd : ((x : Int) / 9223372036854775808 != 0) = sg 64 x := by
    unfold sg
    rw [show xb 64 + fb 64 = 63 from rfl, show (2 : Nat) ^ 63 = 9223372036854775808 from rfl]
    exact ne_nat_div (d := 9223372036854775808) (by omega)
  have hm : bits .and .i64 ((x : Int) / 4503599627370496) 2047 = (ex 64 x : Int) := by
    unfold ex
    rw [show xb 64 = 11 from rfl, show fb 64 = 52 from rfl, show (2 : Nat) ^ 52 = 4503599627370496 from rfl]
    rw [show ((x : Int) / 4503599627370496) = ((x / 4503599627370496 : Nat) : Int) by omega]
    exact (i64_and_nat (x / 4503599627370496) 2047 (by omega) (by decide)).trans (by rw [and_mask (x / 4503599627370496) 11])
  have hf : bits .and .u64 (x : Int) 4503599627370495 = (fr 64 x : Int) := by
    unfold fr
    rw [show fb 64 = 52 from rfl]
    exact (u64_and_nat x 4503599627370495 (by omega) (by decide)).trans (by rw [and_mask x 52])
  have hw : IntKind.i64.wrap ((x : Int) / 4503599627370496) = (x : Int) / 4503599627370496 := IntWalk.i64_in _ (by omega)
  have HD := Lib.hid hd
  have HM := Lib.hid hm
  have HF := Lib.hid hf
  have hO : ∀ W, Bs w 64 W → Calls Try.prog 41 #[sv 64] W fun e w' => e = .returned (.int .i64 2047) ∧ Bs w 64 w' := fun W hW => (ones_any 64 W hk).mono fun e w' ⟨he, hb⟩ => ⟨he, hW.on hb⟩
  have hI : ∀ W, Bs w 64 W → Calls Try.prog 31 #[sv 64] W fun e w' => e = .returned (.int .u64 4503599627370496) ∧ Bs w 64 w' := fun W hW => (hidden_any 64 W hk).mono fun e w' ⟨he, hb⟩ => ⟨he, hW.on hb⟩
  rw [show sv 64 = .agg #[.int .i64 64, .int .i64 11, .int .i64 52] from rfl] at hO hI ⊢
  have HO := Lib.hid hO
  have HI := Lib.hid hI
  have HB : Hid (∀ T, Bs w 64 (w.alloc (.cells #[.int .i64 64, .int .i64 11, .int .i64 52] T))) := Lib.hid (Bs.new w 64)
  have HL : Hid (∀ W, Bs w 64 W → W.cell? ⟨w.heap.size, 0, none⟩ = some (.int .i64 64) ∧ W.cell? ⟨w.heap.size, 1, none⟩ = some (.int .i64 11) ∧ W.cell? ⟨w.heap.size, 2, none⟩ = some (.int .i64 52) ∧ Bs w 64 W) := Lib.hid fun W hW => hW.all
  clear hd hm hf hO hI hk
  go_enter Try.func49, Try.ntmps49
  go_wp2_with fail
  have hb0 := HB.out 40
  generalize w.alloc _ = W0 at hb0 ⊢
  have hb1 := hb0.drew
  have hb := HL.out _ hb1
  go_region_held3 (fun W => W.cell? ⟨w.heap.size, 0, none⟩ = some (.int .i64 64) ∧ W.cell? ⟨w.heap.size, 1, none⟩ = some (.int .i64 11) ∧ W.cell? ⟨w.heap.size, 2, none⟩ = some (.int .i64 52) ∧ Bs w 64 W) (first | exact HL.out _ ‹_› | exact HL.out _ (And.right ‹_›))
    (first | (go_at_call 41; with_reducible refine (HO.out _ ?_).mono ?_; (first | assumption | exact And.right ‹_›); rintro e w' ⟨rfl, hk5⟩))
  go_wp2_with fail
  with_reducible refine (HI.out _ (by assumption)).mono ?_
  rintro e w2 ⟨rfl, hk6⟩
  go_wp2_with fail
  exact bodyPost_ret (v := .tuple #[.bool ((x : Int) / 9223372036854775808 != 0), .int .i64 (bits .and .i64 ((x : Int) / 4503599627370496) 2047), .int .u64 (bits .and .u64 (x : Int) 4503599627370495)]) (by simp [results, Try.results49, go_sem]) rfl ⟨ret_spl HD.out HM.out HF.out, hk6.b⟩
theorem or_at16 {c : Nat} (h : c < 32768) : bits .or .u64 (c : Int) 32768 = ((c + 32768 : Nat) : Int) := by
  have := u64_or_nat c 32768 (by omega) (by decide)
  rw [Nat.or_comm, or_add 32768 c 15 (by decide) (by omega), Nat.add_comm] at this
  exact this
theorem or_at32 {c : Nat} (h : c < 2147483648) : bits .or .u64 (c : Int) 2147483648 = ((c + 2147483648 : Nat) : Int) := by
  have := u64_or_nat c 2147483648 (by omega) (by decide)
  rw [Nat.or_comm, or_add 2147483648 c 31 (by decide) (by omega), Nat.add_comm] at this
  exact this
theorem or_at64 {c : Nat} (h : c < 9223372036854775808) : bits .or .u64 (c : Int) 9223372036854775808 = ((c + 9223372036854775808 : Nat) : Int) := by
  have := u64_or_nat c 9223372036854775808 (by omega) (by decide)
  rw [Nat.or_comm, or_add 9223372036854775808 c 63 (by decide) (by omega), Nat.add_comm] at this
  exact this
set_option maxRecDepth 100000 in
set_option maxHeartbeats 1000000 in
theorem join_16 (neg : Bool) (x m : Nat) (w : World) (hx : x < 32) (hm : m < 1024) :
    Calls Try.prog 26 #[sv 16, .bool neg, .int .i64 (x : Int), .int .u64 (m : Int)] w fun e w' => e = .returned (.int .u64 (kv 5 10 neg x m : Int)) ∧ Below w.heap.size w w' := by
  have t1 : bits .or .u64 ((x : Int) * 1024) (m : Int) = (x : Int) * 1024 + (m : Int) := by
    have h := u64_join (x * 1024) m 10 (by omega) (by omega) (by omega)
    have e1 : (x : Int) * 1024 = ((x * 1024 : Nat) : Int) := by omega
    rw [e1, h]
    omega
  have t2 : bits .or .u64 ((x : Int) * 1024 + (m : Int)) 32768 = (x : Int) * 1024 + (m : Int) + 32768 := by
    have h := or_at16 (c := x * 1024 + m) (by omega)
    have e1 : (x : Int) * 1024 + (m : Int) = ((x * 1024 + m : Nat) : Int) := by omega
    rw [e1, h]
    omega
  rw [show sv 16 = .agg #[.int .i64 16, .int .i64 5, .int .i64 10] from rfl]
  have HB : Hid (∀ T, Bs w 16 (w.alloc (.cells #[.int .i64 16, .int .i64 5, .int .i64 10] T))) := Lib.hid (Bs.new w 16)
  cases neg with
  | false =>
    have e : kv 5 10 false x m = x * 1024 + m := by unfold kv; rw [if_neg (by decide), show (2 : Nat) ^ 10 = 1024 by decide, Nat.zero_add]
    rw [e]
    clear e t2
    go_enter Try.func26, Try.ntmps26
    go_wp2_with fail
    go_ret
    exact ⟨ret_u (by clear t1; omega), (HB.out _).b⟩
  | true =>
    have e : kv 5 10 true x m = 32768 + x * 1024 + m := by unfold kv; rw [if_pos rfl, show 5 + 10 = 15 by decide, show (2 : Nat) ^ 15 = 32768 by decide, show (2 : Nat) ^ 10 = 1024 by decide]
    rw [e]
    clear e
    go_enter Try.func26, Try.ntmps26
    go_wp2_with fail
    go_ret
    exact ⟨ret_u (by clear t1 t2; omega), (HB.out _).b⟩
set_option maxRecDepth 100000 in
set_option maxHeartbeats 1000000 in
theorem join_32 (neg : Bool) (x m : Nat) (w : World) (hx : x < 256) (hm : m < 8388608) :
    Calls Try.prog 26 #[sv 32, .bool neg, .int .i64 (x : Int), .int .u64 (m : Int)] w fun e w' => e = .returned (.int .u64 (kv 8 23 neg x m : Int)) ∧ Below w.heap.size w w' := by
  have t1 : bits .or .u64 ((x : Int) * 8388608) (m : Int) = (x : Int) * 8388608 + (m : Int) := by
    have h := u64_join (x * 8388608) m 23 (by omega) (by omega) (by omega)
    have e1 : (x : Int) * 8388608 = ((x * 8388608 : Nat) : Int) := by omega
    rw [e1, h]
    omega
  have t2 : bits .or .u64 ((x : Int) * 8388608 + (m : Int)) 2147483648 = (x : Int) * 8388608 + (m : Int) + 2147483648 := by
    have h := or_at32 (c := x * 8388608 + m) (by omega)
    have e1 : (x : Int) * 8388608 + (m : Int) = ((x * 8388608 + m : Nat) : Int) := by omega
    rw [e1, h]
    omega
  rw [show sv 32 = .agg #[.int .i64 32, .int .i64 8, .int .i64 23] from rfl]
  have HB : Hid (∀ T, Bs w 32 (w.alloc (.cells #[.int .i64 32, .int .i64 8, .int .i64 23] T))) := Lib.hid (Bs.new w 32)
  cases neg with
  | false =>
    have e : kv 8 23 false x m = x * 8388608 + m := by unfold kv; rw [if_neg (by decide), show (2 : Nat) ^ 23 = 8388608 by decide, Nat.zero_add]
    rw [e]
    clear e t2
    go_enter Try.func26, Try.ntmps26
    go_wp2_with fail
    go_ret
    exact ⟨ret_u (by clear t1; omega), (HB.out _).b⟩
  | true =>
    have e : kv 8 23 true x m = 2147483648 + x * 8388608 + m := by unfold kv; rw [if_pos rfl, show 8 + 23 = 31 by decide, show (2 : Nat) ^ 31 = 2147483648 by decide, show (2 : Nat) ^ 23 = 8388608 by decide]
    rw [e]
    clear e
    go_enter Try.func26, Try.ntmps26
    go_wp2_with fail
    go_ret
    exact ⟨ret_u (by clear t1 t2; omega), (HB.out _).b⟩
set_option maxRecDepth 100000 in
set_option maxHeartbeats 1000000 in
theorem join_64 (neg : Bool) (x m : Nat) (w : World) (hx : x < 2048) (hm : m < 4503599627370496) :
    Calls Try.prog 26 #[sv 64, .bool neg, .int .i64 (x : Int), .int .u64 (m : Int)] w fun e w' => e = .returned (.int .u64 (kv 11 52 neg x m : Int)) ∧ Below w.heap.size w w' := by
  have t1 : bits .or .u64 ((x : Int) * 4503599627370496) (m : Int) = (x : Int) * 4503599627370496 + (m : Int) := by
    have h := u64_join (x * 4503599627370496) m 52 (by omega) (by omega) (by omega)
    have e1 : (x : Int) * 4503599627370496 = ((x * 4503599627370496 : Nat) : Int) := by omega
    rw [e1, h]
    omega
  have t2 : bits .or .u64 ((x : Int) * 4503599627370496 + (m : Int)) 9223372036854775808 = (x : Int) * 4503599627370496 + (m : Int) + 9223372036854775808 := by
    have h := or_at64 (c := x * 4503599627370496 + m) (by omega)
    have e1 : (x : Int) * 4503599627370496 + (m : Int) = ((x * 4503599627370496 + m : Nat) : Int) := by omega
    rw [e1, h]
    omega
  rw [show sv 64 = .agg #[.int .i64 64, .int .i64 11, .int .i64 52] from rfl]
  have HB : Hid (∀ T, Bs w 64 (w.alloc (.cells #[.int .i64 64, .int .i64 11, .int .i64 52] T))) := Lib.hid (Bs.new w 64)
  cases neg with
  | false =>
    have e : kv 11 52 false x m = x * 4503599627370496 + m := by unfold kv; rw [if_neg (by decide), show (2 : Nat) ^ 52 = 4503599627370496 by decide, Nat.zero_add]
    rw [e]
    clear e t2
    go_enter Try.func26, Try.ntmps26
    go_wp2_with fail
    go_ret
    exact ⟨ret_u (by clear t1; omega), (HB.out _).b⟩
  | true =>
    have e : kv 11 52 true x m = 9223372036854775808 + x * 4503599627370496 + m := by unfold kv; rw [if_pos rfl, show 11 + 52 = 63 by decide, show (2 : Nat) ^ 63 = 9223372036854775808 by decide, show (2 : Nat) ^ 52 = 4503599627370496 by decide]
    rw [e]
    clear e
    go_enter Try.func26, Try.ntmps26
    go_wp2_with fail
    go_ret
    exact ⟨ret_u (by clear t1 t2; omega), (HB.out _).b⟩

theorem split_any (k x : Nat) (w : World) (hk : kOk k) (hx : x < lim k) : Calls Try.prog 49 #[sv k, .int .u64 (x : Int)] w fun e w' => e = .returned (.tuple #[.bool (sg k x), .int .i64 (ex k x : Int), .int .u64 (fr k x : Int)]) ∧ Below w.heap.size w w' := by
  rcases hk with rfl | rfl | rfl
  · exact split_16 x w hx
  · exact split_32 x w hx
  · exact split_64 x w hx
theorem join_any (k : Nat) (neg : Bool) (x m : Nat) (w : World) (hk : kOk k) (hx : x ≤ onz k) (hm : m < hdn k) :
    Calls Try.prog 26 #[sv k, .bool neg, .int .i64 (x : Int), .int .u64 (m : Int)] w fun e w' => e = .returned (.int .u64 (kv (xb k) (fb k) neg x m : Int)) ∧ Below w.heap.size w w' := by
  have hf := hk.facts
  rcases hk with rfl | rfl | rfl
  · exact join_16 neg x m w (by omega) (by omega)
  · exact join_32 neg x m w (by omega) (by omega)
  · exact join_64 neg x m w (by omega) (by omega)
end Go.Proofs.Ytcndkhgbgjnclaa.nn
/- The real fbits: shift. -/
namespace Go.Proofs.Ytcndkhgbgjnclaa.nn
open Go.RowKit

/-- m times 2^n: what is whole and has no more than 64 bits -/
def sOk (m : Nat) (n : Int) : Bool := if n < 0 then decide (m % 2 ^ (-n).toNat = 0) else decide (m * 2 ^ n.toNat < 18446744073709551616)
def sV (m : Nat) (n : Int) : Nat := if n < 0 then m / 2 ^ (-n).toNat else m * 2 ^ n.toNat % 18446744073709551616
theorem p64 : (2 : Nat) ^ 64 = 18446744073709551616 := by decide
theorem ret_sh {a c : Int} {b d : Bool} (h1 : a = c) (h2 : b = d) : Ending.returned (.tuple #[.int .u64 a, .bool b]) = .returned (.tuple #[.int .u64 c, .bool d]) := by rw [h1, h2]
theorem wrap_u64_nat (a : Nat) : IntKind.u64.wrap (a : Int) = ((a % 18446744073709551616 : Nat) : Int) := by
  rw [IntKind.wrap_u64]
  omega
section
variable {m d : Nat}
theorem big_pow (h : 64 ≤ d) : 18446744073709551616 ≤ 2 ^ d := by rw [← p64]; exact Nat.pow_le_pow_right (by decide) h
theorem down_min (hm : m < 18446744073709551616) : m / 2 ^ min d 64 = m / 2 ^ d ∧ m % 2 ^ min d 64 = m % 2 ^ d := by
  rcases Nat.le_total d 64 with h | h
  · rw [Nat.min_eq_left h]; exact ⟨rfl, rfl⟩
  · have h1 := big_pow h
    rw [Nat.min_eq_right h, p64, Nat.div_eq_of_lt hm, Nat.div_eq_of_lt (by omega), Nat.mod_eq_of_lt hm, Nat.mod_eq_of_lt (by omega)]
    exact ⟨rfl, rfl⟩
theorem beq_nat {a b : Nat} : ((a : Int) == (b : Int)) = decide (a = b) := by
  by_cases h : a = b
  · rw [h, decide_eq_true rfl]; simp
  · rw [decide_eq_false h]; simp; omega
theorem down_v (hm : m < 18446744073709551616) (h1 : 1 ≤ d) : (m : Int) / 2 ^ min d 64 = (sV m (-(d : Int)) : Int) ∧ (IntKind.u64.wrap ((m : Int) / 2 ^ min d 64 * 2 ^ min d 64) == (m : Int)) = sOk m (-(d : Int)) := by
  obtain ⟨a1, a2⟩ := down_min (d := d) hm
  have e1 : (m : Int) / 2 ^ min d 64 = ((m / 2 ^ min d 64 : Nat) : Int) := by simp
  have e2 : (m : Int) / 2 ^ min d 64 * 2 ^ min d 64 = ((m / 2 ^ min d 64 * 2 ^ min d 64 : Nat) : Int) := by simp
  have h2 : m / 2 ^ min d 64 * 2 ^ min d 64 ≤ m := Nat.div_mul_le_self _ _
  have h3 := Nat.div_add_mod m (2 ^ min d 64)
  rw [e2, wrap_u64_nat, Nat.mod_eq_of_lt (by omega), e1]
  unfold sV sOk
  rw [if_pos (by omega), if_pos (by omega), show (-(-(d : Int))).toNat = d by omega, ← a1, ← a2, beq_nat]
  refine ⟨rfl, ?_⟩
  rw [Nat.mul_comm] at h3
  generalize m / 2 ^ min d 64 * 2 ^ min d 64 = a at h2 h3 ⊢
  generalize m % 2 ^ min d 64 = b at h3 ⊢
  by_cases hb : b = 0
  · rw [decide_eq_true hb, decide_eq_true (by omega)]
  · rw [decide_eq_false hb, decide_eq_false (by omega)]
theorem up_v (hm : m < 18446744073709551616) : IntKind.u64.wrap ((m : Int) * 2 ^ min d 64) = (sV m (d : Int) : Int) ∧ (IntKind.u64.wrap ((m : Int) * 2 ^ min d 64) / 2 ^ min d 64 == (m : Int)) = sOk m (d : Int) := by
  have e1 : (m : Int) * 2 ^ min d 64 = ((m * 2 ^ min d 64 : Nat) : Int) := by simp
  have e2 : ((m * 2 ^ min d 64 % 18446744073709551616 : Nat) : Int) / 2 ^ min d 64 = ((m * 2 ^ min d 64 % 18446744073709551616 / 2 ^ min d 64 : Nat) : Int) := by simp
  rw [e1, wrap_u64_nat, e2, beq_nat]
  unfold sV sOk
  rw [if_neg (by omega), if_neg (by omega), Int.toNat_natCast]
  rcases Nat.lt_or_ge d 64 with h | h
  · rw [Nat.min_eq_left (by omega)]
    refine ⟨rfl, ?_⟩
    have hp := Nat.two_pow_pos d
    by_cases hb : m * 2 ^ d < 18446744073709551616
    · rw [decide_eq_true hb, Nat.mod_eq_of_lt hb, Nat.mul_div_cancel _ hp, decide_eq_true rfl]
    · rw [decide_eq_false hb, decide_eq_false]
      intro hc
      have h2 := Nat.div_mul_le_self (m * 2 ^ d % 18446744073709551616) (2 ^ d)
      rw [hc] at h2
      have h3 := Nat.mod_lt (m * 2 ^ d) (show 18446744073709551616 > 0 by decide)
      omega
  · have h1 := big_pow h
    obtain ⟨c, rfl⟩ : ∃ c, d = 64 + c := ⟨d - 64, by omega⟩
    rw [Nat.min_eq_right h, p64, Nat.mul_mod_left, Nat.pow_add, p64, ← Nat.mul_assoc, Nat.mul_right_comm, Nat.mul_mod_left, Nat.zero_div]
    refine ⟨rfl, ?_⟩
    have hp := Nat.two_pow_pos c
    rcases Nat.eq_zero_or_pos m with h0 | h0
    · subst h0; rw [Nat.zero_mul, Nat.zero_mul]; rfl
    · have h2 : 1 ≤ m * 2 ^ c := Nat.mul_pos h0 hp
      rw [decide_eq_false (by omega), decide_eq_false (by omega)]
end
set_option maxRecDepth 100000 in
set_option maxHeartbeats 1000000 in
theorem shift_down (m d : Nat) (w : World) (hm : m < 18446744073709551616) (h1 : 1 ≤ d) (h2 : d ≤ 5000) :
    Calls Try.prog 30 #[.int .u64 (m : Int), .int .i64 (-(d : Int))] w fun e w' => e = .returned (.tuple #[.int .u64 (sV m (-(d : Int)) : Int), .bool (sOk m (-(d : Int)))]) ∧ Below w.heap.size w w' := by
  have HV := Lib.hid (down_v hm h1)
  obtain ⟨V, hV⟩ : ∃ V, sV m (-(d : Int)) = V := ⟨_, rfl⟩
  obtain ⟨O, hO⟩ : ∃ O, sOk m (-(d : Int)) = O := ⟨_, rfl⟩
  rw [hV, hO] at HV ⊢
  clear hV hO
  have q1 : decide (-(d : Int) < 0) = true := decide_eq_true (by omega)
  go_enter Try.func30, Try.ntmps30
  go_wp2_with fail
  go_quiet (fail)
  go_wp2_with fail
  go_ret2
  exact ⟨ret_sh HV.out.1 HV.out.2, drewN_below (Below.refl _ _) nq⟩
set_option maxRecDepth 100000 in
set_option maxHeartbeats 1000000 in
theorem shift_up (m d : Nat) (w : World) (hm : m < 18446744073709551616) (h2 : d ≤ 5000) :
    Calls Try.prog 30 #[.int .u64 (m : Int), .int .i64 (d : Int)] w fun e w' => e = .returned (.tuple #[.int .u64 (sV m (d : Int) : Int), .bool (sOk m (d : Int))]) ∧ Below w.heap.size w w' := by
  have HV := Lib.hid (up_v (d := d) hm)
  obtain ⟨V, hV⟩ : ∃ V, sV m (d : Int) = V := ⟨_, rfl⟩
  obtain ⟨O, hO⟩ : ∃ O, sOk m (d : Int) = O := ⟨_, rfl⟩
  rw [hV, hO] at HV ⊢
  clear hV hO
  have q1 : decide ((d : Int) < 0) = false := decide_eq_false (by omega)
  go_enter Try.func30, Try.ntmps30
  go_wp2_with fail
  go_quiet (fail)
  go_wp2_with fail
  go_ret2
  exact ⟨ret_sh HV.out.1 HV.out.2, drewN_below (Below.refl _ _) nq⟩
theorem shift_any (m : Nat) (n : Int) (w : World) (hm : m < 18446744073709551616) (h1 : -5000 ≤ n) (h2 : n ≤ 5000) :
    Calls Try.prog 30 #[.int .u64 (m : Int), .int .i64 n] w fun e w' => e = .returned (.tuple #[.int .u64 (sV m n : Int), .bool (sOk m n)]) ∧ Below w.heap.size w w' := by
  by_cases h : n < 0
  · obtain ⟨d, rfl⟩ : ∃ d : Nat, n = -(d : Int) := ⟨(-n).toNat, by omega⟩
    exact shift_down m d w hm (by omega) (by omega)
  · obtain ⟨d, rfl⟩ : ∃ d : Nat, n = (d : Int) := ⟨n.toNat, by omega⟩
    exact shift_up m d w hm (by omega)
end Go.Proofs.Ytcndkhgbgjnclaa.nn
/- The real fbits: class and amount. -/
namespace Go.Proofs.Ytcndkhgbgjnclaa.nn
open Go.RowKit

theorem lim_lt {k x : Nat} (h : x < lim k) : x < 18446744073709551616 := by
  unfold lim at h
  split at h
  · omega
  · split at h <;> omega
set_option maxRecDepth 100000 in
set_option maxHeartbeats 2000000 in
theorem class_walk (k x : Nat) (w : World) (S : Bool) (X M : Nat) (hk : kOk k) (_ : M < 18446744073709551616) (_ : X < 4096)
    (HS : Hid (∀ W, Calls Try.prog 49 #[sv k, .int .u64 (x : Int)] W fun e w' => e = .returned (.tuple #[.bool S, .int .i64 (X : Int), .int .u64 (M : Int)]) ∧ Below W.heap.size W w')) :
    Calls Try.prog 38 #[sv k, .int .u64 (x : Int)] w fun e w' => e = .returned (.int .i64 (cl5 (xb k) X M : Int)) ∧ Below w.heap.size w w' := by
  obtain ⟨R, hR⟩ : ∃ R, cl5 (xb k) X M = R := ⟨_, rfl⟩
  rw [hR]
  unfold cl5 at hR
  rw [show 2 ^ xb k - 1 = onz k from rfl] at hR
  have HO := Lib.hid (fun W => ones_any k W hk)
  have HB := Lib.hid (Bs.new w k)
  have hT := hk.facts
  have hT2 : onz k ≤ 2047 := by omega
  unfold sv at HO HS ⊢
  obtain ⟨T, hTT⟩ : ∃ T, onz k = T := ⟨_, rfl⟩
  rw [hTT] at HO hR hT2
  clear hT hTT
  by_cases h1 : X = T
  · have q1 : ((X : Int) == (T : Int)) = true := by rw [h1]; simp
    rw [if_pos h1] at hR
    by_cases h2 : M = 0
    · rw [if_pos h2] at hR
      have q2 : ((M : Int) != 0) = false := by rw [h2]; rfl
      subst hR
      clear h1 h2
      go_enter Try.func38, Try.ntmps38
      go_wp2_with fail
      refine (HS.out _).mono ?_
      rintro e w1 ⟨rfl, hb⟩
      have H1 := Lib.hid ((HB.out _).on hb)
      have hc := H1.out.all
      clear hb
      go_wp2_with fail
      refine (HO.out _).mono ?_
      rintro e w2 ⟨rfl, hb⟩
      have H2 := Lib.hid (H1.out.on hb)
      have hc2 := H2.out.all
      clear hb hc
      go_wp2_with fail
      refine (HO.out _).mono ?_
      rintro e w3 ⟨rfl, hb⟩
      have H3 := Lib.hid (H2.out.on hb)
      clear hb hc2
      go_wp2_with fail
      go_ret
      exact ⟨rfl, H3.out.b⟩
    · rw [if_neg h2] at hR
      have q2 : ((M : Int) != 0) = true := by simp; omega
      subst hR
      clear h1 h2
      go_enter Try.func38, Try.ntmps38
      go_wp2_with fail
      refine (HS.out _).mono ?_
      rintro e w1 ⟨rfl, hb⟩
      have H1 := Lib.hid ((HB.out _).on hb)
      have hc := H1.out.all
      clear hb
      go_wp2_with fail
      refine (HO.out _).mono ?_
      rintro e w2 ⟨rfl, hb⟩
      have H2 := Lib.hid (H1.out.on hb)
      have hc2 := H2.out.all
      clear hb hc
      go_wp2_with fail
      go_ret
      exact ⟨rfl, H2.out.b⟩
  · have q1 : ((X : Int) == (T : Int)) = false := by simp; omega
    rw [if_neg h1] at hR
    obtain ⟨B1, hB1⟩ : ∃ B1, ((X : Int) != 0) = B1 := ⟨_, rfl⟩
    obtain ⟨B2, hB2⟩ : ∃ B2, ((M : Int) != 0) = B2 := ⟨_, rfl⟩
    have HR : Hid (R = if B1 then 2 else if B2 then 1 else 0) := Lib.hid (by
      rw [← hR, ← hB1, ← hB2]
      by_cases c1 : X = 0
      · by_cases c2 : M = 0
        · simp [c1, c2]
        · simp [c1, c2]
      · simp [c1])
    clear h1 hR
    cases B1 <;> cases B2
    all_goals
      go_enter Try.func38, Try.ntmps38
      go_wp2_with fail
      refine (HS.out _).mono ?_
      rintro e w1 ⟨rfl, hb⟩
      have H1 := Lib.hid ((HB.out _).on hb)
      have hc := H1.out.all
      clear hb
      go_wp2_with fail
      refine (HO.out _).mono ?_
      rintro e w2 ⟨rfl, hb⟩
      have H2 := Lib.hid (H1.out.on hb)
      have hc2 := H2.out.all
      clear hb hc
      go_wp2_with fail
      refine (HO.out _).mono ?_
      rintro e w3 ⟨rfl, hb⟩
      have H3 := Lib.hid (H2.out.on hb)
      clear hb hc2
      go_wp2_with fail
      go_ret
      exact ⟨by rw [HR.out]; rfl, H3.out.b⟩
theorem class_any (k x : Nat) (w : World) (hk : kOk k) (hx : x < lim k) : Calls Try.prog 38 #[sv k, .int .u64 (x : Int)] w fun e w' => e = .returned (.int .i64 (clk k x : Int)) ∧ Below w.heap.size w w' := by
  have h2 := fr_lt (w := k) (x := x)
  have h1 := ex_lt (w := k) (x := x)
  have hf := hk.facts
  rw [show 2 ^ fb k = hdn k from rfl] at h2
  have h3 : ex k x ≤ onz k := by unfold onz; omega
  exact class_walk k x w (sg k x) (ex k x) (fr k x) hk (by omega) (by omega) (Lib.hid fun W => split_any k x W hk hx)

/-- m and e of a finite float's parts -/
def aM (k X M : Nat) : Nat := if X = 0 then M else M + hdn k
def aE (k X : Nat) : Int := if X = 0 then 1 - (bia k : Int) - (fb k : Int) else (X : Int) - (bia k : Int) - (fb k : Int)
theorem or_hdn {k M : Nat} (hk : kOk k) (hM : M < hdn k) : bits .or .u64 (M : Int) (hdn k : Int) = ((M + hdn k : Nat) : Int) := by
  have hf := hk.facts
  have h := u64_or_nat M (hdn k) (by omega) (by omega)
  have e : hdn k = 2 ^ fb k := rfl
  rw [Nat.or_comm, or_add (hdn k) M (fb k) (by rw [e]; exact Nat.mod_self _) (by rw [← e]; exact hM), Nat.add_comm] at h
  exact h
end Go.Proofs.Ytcndkhgbgjnclaa.nn
/- The real fbits: the table of shapes, the widest, the shape of a width. -/
namespace Go.Proofs.Ytcndkhgbgjnclaa.nn
open Go.RowKit Go.Great

def shT : Array Value := #[.int .i64 16, .int .i64 5, .int .i64 10, .int .i64 32, .int .i64 8, .int .i64 23, .int .i64 64, .int .i64 11, .int .i64 52]
set_option maxRecDepth 100000 in
set_option maxHeartbeats 1000000 in
theorem shapes_any (w : World) : Calls Try.prog 25 #[] w fun e w' => e = .returned (.agg shT) ∧ Below w.heap.size w w' := by
  have HB := Lib.hid (fun o => (Below.refl w.heap.size w).alloc (Nat.le_refl _) o)
  go_enter Try.func25, Try.ntmps25
  go_wp2_with fail
  exact bodyPost_ret (v := .agg shT) (by simp [results, Try.results25, go_sem, shT]) rfl ⟨rfl, HB.out _⟩
theorem hsz1 (w : World) (o : Obj) : (w.alloc o).heap.size = w.heap.size + 1 := by simp
/-- a result of a struct of three numbers: its block, of a world that calls have changed -/
structure Rs3 (w : World) (T : TypeId) (W : World) : Prop where
  blk : W.heap[w.heap.size]? = some (.cells #[.int .i64 0, .int .i64 0, .int .i64 0] T (0, 0))
  b : Below w.heap.size w W
  z : w.heap.size < W.heap.size
theorem Rs3.new (w : World) (T : TypeId) : Rs3 w T (w.alloc (.cells #[.int .i64 0, .int .i64 0, .int .i64 0] T)) :=
  ⟨heap_alloc_last _ _, (Below.refl _ _).alloc (Nat.le_refl _) _, by rw [hsz1]; omega⟩
theorem Rs3.on {w W W' : World} {T : TypeId} (h : Rs3 w T W) (hB : Below W.heap.size W W') : Rs3 w T W' :=
  ⟨(hB.block _ h.z).trans h.blk, h.b.trans (hB.mono (Nat.le_of_lt h.z)), Nat.lt_of_lt_of_le h.z hB.size⟩
theorem Rs3.all {w W : World} {T : TypeId} (h : Rs3 w T W) : W.cell? ⟨w.heap.size, 0, none⟩ = some (.int .i64 0) ∧ W.cell? ⟨w.heap.size, 1, none⟩ = some (.int .i64 0) ∧ W.cell? ⟨w.heap.size, 2, none⟩ = some (.int .i64 0) ∧ (∀ i, W.frozen? ⟨w.heap.size, i, none⟩ = false) :=
  ⟨cell_of_row _ _ 0 _ _ _ h.blk, cell_of_row _ _ 1 _ _ _ h.blk, cell_of_row _ _ 2 _ _ _ h.blk, fun i => by have := h.blk; simp [World.frozen?, this]⟩
set_option maxRecDepth 100000 in
set_option maxHeartbeats 1000000 in
theorem widest_any (w : World) : Calls Try.prog 13 #[] w fun e w' => e = .returned (sv 64) ∧ Below w.heap.size w w' := by
  have HB := Lib.hid (Rs3.new w 40)
  rw [show sv 64 = .agg #[.int .i64 64, .int .i64 11, .int .i64 52] from rfl]
  go_enter Try.func13, Try.ntmps13
  go_wp2_with fail
  refine (shapes_any _).mono ?_
  rintro e w1 ⟨rfl, hb⟩
  have H1 := Lib.hid (HB.out.on hb)
  obtain ⟨c0, c1, c2, f0⟩ := H1.out.all
  have hz := H1.out.z
  clear hb
  unfold shT
  go_wp2_with fail
  have hne : ¬ w.heap.size = w1.heap.size := by omega
  have hblk := H1.out.blk
  refine bodyPost_ret (v := .agg #[.int .i64 64, .int .i64 11, .int .i64 52]) (by simp [results, Try.results13, go_sem, World.cell?, World.setCell, World.alloc, Array.getElem?_push, Array.getElem?_modify, hblk, hne]) rfl ⟨rfl, ?_⟩
  exact (((H1.out.b.setCell (Nat.le_refl _) _).setCell (Nat.le_refl _) _).setCell (Nat.le_refl _) _).alloc (by simp [World.setCell]; omega) _

/-- row j of the table -/
def tW : Nat → Nat | 0 => 16 | 1 => 32 | _ => 64
set_option maxRecDepth 100000 in
theorem ix3 (j : Nat) (h : j < 3) (w : World) : (Instr.index 54 (.agg shT) (.int .i64 (j : Int))).run Try.prog w = .ok (.agg #[.int .i64 (tW j : Int), .int .i64 (xb (tW j) : Int), .int .i64 (fb (tW j) : Int)]) w := by
  match j, h with
  | 0, _ => exact (by kernel_rfl : (Instr.index 54 (.agg shT) (.int .i64 0)).run Try.prog w = .ok (.agg #[.int .i64 16, .int .i64 5, .int .i64 10]) w)
  | 1, _ => exact (by kernel_rfl : (Instr.index 54 (.agg shT) (.int .i64 1)).run Try.prog w = .ok (.agg #[.int .i64 32, .int .i64 8, .int .i64 23]) w)
  | 2, _ => exact (by kernel_rfl : (Instr.index 54 (.agg shT) (.int .i64 2)).run Try.prog w = .ok (.agg #[.int .i64 64, .int .i64 11, .int .i64 52]) w)
def soV (k : Int) : Value := if wOk k then sv k.toNat else .agg #[.int .i64 0, .int .i64 0, .int .i64 0]
theorem tW_ok (j : Nat) : wOk (tW j) := by
  unfold tW wOk
  split <;> simp
theorem tW_all {k : Int} (h : ∀ i, i < 3 → (tW i : Int) ≠ k) : ¬ wOk k := by
  have h0 := h 0 (by omega)
  have h1 := h 1 (by omega)
  have h2 := h 2 (by omega)
  simp only [tW] at h0 h1 h2
  unfold wOk
  omega
set_option maxRecDepth 100000 in
set_option maxHeartbeats 1000000 in
theorem shapeOf_any (k : Int) (w : World) : Calls Try.prog 48 #[.int .i64 k] w fun e w' => e = .returned (.tuple #[soV k, .bool (decide (wOk k))]) ∧ Below w.heap.size w w' := by
  obtain ⟨V, hV⟩ : ∃ V, soV k = V := ⟨_, rfl⟩
  obtain ⟨O, hO⟩ : ∃ O, decide (wOk k) = O := ⟨_, rfl⟩
  rw [hV, hO]
  have HV := Lib.hid (And.intro hV hO)
  clear hV hO
  have HB := Lib.hid (Rs3.new w 40)
  go_enter Try.func48, Try.ntmps48
  go_wp2_with fail
  refine (shapes_any _).mono ?_
  rintro e w1 ⟨rfl, hb⟩
  have H1 := Lib.hid (HB.out.on hb)
  clear hb
  go_wp2_with fail
  go_loopw [7] (fun s7 wr => ∃ j : Nat, j ≤ 3 ∧ s7 = .int .i64 (j : Int) ∧ Hid (∀ i, i < j → (tW i : Int) ≠ k) ∧ Hid (Rs3 w 40 wr)) (fun s7 _ => (3 - intOf s7).toNat)
  case atStart => exact ⟨0, by omega, rfl, Lib.hid (fun i hi => absurd hi (by omega)), H1⟩
  case round =>
    obtain ⟨j, hj, rfl, hno, hR⟩ := hrel
    obtain ⟨c0, c1, c2, f0⟩ := hR.out.all
    have hz := hR.out.z
    have hlt : ∀ o, w.heap.size < (wr.alloc o).heap.size := fun o => by rw [hsz1]; omega
    by_cases hj3 : j < 3
    · have hix := ix3 j hj3
      have HW := Lib.hid (And.intro (tW_ok j) (show (tW j : Int).toNat = tW j from Int.toNat_natCast _))
      obtain ⟨K, hK⟩ : ∃ K, tW j = K := ⟨_, rfl⟩
      rw [hK] at hix HW
      have HKJ := Lib.hid hK
      clear hK
      by_cases he : (K : Int) = k
      · have q1 : ((K : Int) == k) = true := by simp [he]
        have HE := Lib.hid he
        clear he
        go_wp2_with fail
        have hne : ¬ w.heap.size = wr.heap.size := by omega
        have hblk := hR.out.blk
        refine bodyPost_ret (v := .tuple #[.agg #[.int .i64 (K : Int), .int .i64 (xb K : Int), .int .i64 (fb K : Int)], .bool true]) (by simp [results, Try.results48, go_sem, World.cell?, World.setCell, World.alloc, Array.getElem?_push, Array.getElem?_modify, hblk, hne]) rfl ⟨?_, ?_⟩
        · rw [← HV.out.1, ← HV.out.2]
          unfold soV
          rw [← HE.out, if_pos HW.out.1, HW.out.2, decide_eq_true HW.out.1]
          rfl
        · exact (((hR.out.b.setCell (Nat.le_refl _) _).setCell (Nat.le_refl _) _).setCell (Nat.le_refl _) _).alloc (by simp [World.setCell]; omega) _
      · have q1 : ((K : Int) == k) = false := by simp [he]
        have HN2 : Hid (∀ i, i < j + 1 → (tW i : Int) ≠ k) := Lib.hid fun i hi => by
          by_cases h : i < j
          · exact hno.out i h
          · have e : i = j := by omega
            rw [e, HKJ.out]
            exact he
        clear he
        go_wp2_with fail
        go_roundw
        case rel => exact ⟨j + 1, by omega, by go_num, HN2, Lib.hid (hR.out.on ((Below.refl _ _).alloc (Nat.le_refl _) _))⟩
        case measure => simp [intOf]; omega
    · obtain rfl : j = 3 := by omega
      have HN := Lib.hid (tW_all hno.out)
      clear hno
      go_wp2_with fail
      have hblk := hR.out.blk
      refine bodyPost_ret (v := .tuple #[.agg #[.int .i64 0, .int .i64 0, .int .i64 0], .bool false]) (by simp [results, Try.results48, go_sem, World.cell?, World.setCell, Array.getElem?_modify, hblk]) rfl ⟨?_, ?_⟩
      · rw [← HV.out.1, ← HV.out.2]
        unfold soV
        rw [if_neg HN.out, decide_eq_false HN.out]
      · exact ((hR.out.b.setCell (Nat.le_refl _) _).setCell (Nat.le_refl _) _).setCell (Nat.le_refl _) _
end Go.Proofs.Ytcndkhgbgjnclaa.nn
/- The real fbits: the shape for a width and bits; Class, Parts. -/
namespace Go.Proofs.Ytcndkhgbgjnclaa.nn
open Go.RowKit Go.Great

def z3 : Value := .agg #[.int .i64 0, .int .i64 0, .int .i64 0]
def sfV (k : Int) (x : Nat) : Value := if fits k x then sv k.toNat else z3
def SfAns (k : Int) (x : Nat) (W : World) (e : Ending) (W' : World) : Prop := e = .returned (.tuple #[sfV k x, .int .i64 (paE k x : Int)]) ∧ Below W.heap.size W W'
set_option maxRecDepth 100000 in
set_option maxHeartbeats 1000000 in
theorem shapeFor_no (k : Int) (x : Nat) (w : World) (hk : ¬ wOk k) : Calls Try.prog 37 #[.int .i64 k, .int .u64 (x : Int)] w (SfAns k x w) := by
  have HNO : Hid (¬ fits k x) := Lib.hid fun h => hk h.1
  have HS : Hid (∀ W, Calls Try.prog 48 #[.int .i64 k] W fun e w' => e = .returned (.tuple #[.agg #[.int .i64 0, .int .i64 0, .int .i64 0], .bool false]) ∧ Below W.heap.size W w') := Lib.hid fun W => by
    have h := shapeOf_any k W
    unfold soV at h
    rw [if_neg hk, decide_eq_false hk] at h
    exact h
  clear hk
  have HB := Lib.hid (Rs3.new w 40)
  go_enter Try.func37, Try.ntmps37
  go_wp2_with fail
  refine (HS.out _).mono ?_
  rintro e w1 ⟨rfl, hb⟩
  have H1 := Lib.hid (HB.out.on hb)
  obtain ⟨c0, c1, c2, f0⟩ := H1.out.all
  have hz := H1.out.z
  have hlt : ∀ o, w.heap.size < (w1.alloc o).heap.size := fun o => by rw [hsz1]; omega
  clear hb
  go_wp2_with fail
  have hne : ¬ w.heap.size = w1.heap.size := by omega
  have hblk := H1.out.blk
  refine bodyPost_ret (v := .tuple #[.agg #[.int .i64 0, .int .i64 0, .int .i64 0], .int .i64 1]) (by simp [results, Try.results37, go_sem, World.cell?, World.setCell, World.alloc, Array.getElem?_push, Array.getElem?_modify, hblk, hne]) rfl ⟨?_, ?_⟩
  · unfold sfV paE
    rw [if_neg HNO.out, if_neg HNO.out]
    rfl
  · exact (((H1.out.b.setCell (Nat.le_refl _) _).setCell (Nat.le_refl _) _).setCell (Nat.le_refl _) _).alloc (by simp [World.setCell]; omega) _
set_option maxRecDepth 100000 in
set_option maxHeartbeats 1000000 in
theorem shapeFor_16_yes (x : Nat) (w : World) (hx : x < 18446744073709551616) (h : x < 65536) : Calls Try.prog 37 #[.int .i64 16, .int .u64 (x : Int)] w (SfAns ((16 : Nat) : Int) x w) := by
  have HF : Hid (fits ((16 : Nat) : Int) x) := Lib.hid (⟨by unfold wOk; omega, fun _ => h⟩)
  have q1 : ((x : Int) / 65536 != 0) = false := by simp; omega
  clear h
  have HS : Hid (∀ W, Calls Try.prog 48 #[.int .i64 16] W fun e w' => e = .returned (.tuple #[.agg #[.int .i64 16, .int .i64 5, .int .i64 10], .bool true]) ∧ Below W.heap.size W w') := Lib.hid fun W => shapeOf_any 16 W
  have HB := Lib.hid (Rs3.new w 40)
  go_enter Try.func37, Try.ntmps37
  go_wp2_with fail
  refine (HS.out _).mono ?_
  rintro e w1 ⟨rfl, hb⟩
  have H1 := Lib.hid (HB.out.on hb)
  obtain ⟨c0, c1, c2, f0⟩ := H1.out.all
  have hz := H1.out.z
  have hlt : ∀ o, w.heap.size < (w1.alloc o).heap.size := fun o => by rw [hsz1]; omega
  clear hb
  go_wp2_with fail
  have hne : ¬ w.heap.size = w1.heap.size := by omega
  have hblk := H1.out.blk
  refine bodyPost_ret (v := .tuple #[.agg #[.int .i64 16, .int .i64 5, .int .i64 10], .int .i64 0]) (by simp [results, Try.results37, go_sem, World.cell?, World.setCell, World.alloc, Array.getElem?_push, Array.getElem?_modify, hblk, hne]) rfl ⟨?_, ?_⟩
  · unfold sfV paE
    rw [if_pos HF.out, if_pos HF.out]
    rfl
  · exact (((H1.out.b.setCell (Nat.le_refl _) _).setCell (Nat.le_refl _) _).setCell (Nat.le_refl _) _).alloc (by simp [World.setCell]; omega) _
set_option maxRecDepth 100000 in
set_option maxHeartbeats 1000000 in
theorem shapeFor_16_no (x : Nat) (w : World) (hx : x < 18446744073709551616) (h : ¬ x < 65536) : Calls Try.prog 37 #[.int .i64 16, .int .u64 (x : Int)] w (SfAns ((16 : Nat) : Int) x w) := by
  have HF : Hid (¬ fits ((16 : Nat) : Int) x) := Lib.hid (fun h' => h (h'.2 (by decide)))
  have q1 : ((x : Int) / 65536 != 0) = true := by simp; omega
  clear h
  have HS : Hid (∀ W, Calls Try.prog 48 #[.int .i64 16] W fun e w' => e = .returned (.tuple #[.agg #[.int .i64 16, .int .i64 5, .int .i64 10], .bool true]) ∧ Below W.heap.size W w') := Lib.hid fun W => shapeOf_any 16 W
  have HB := Lib.hid (Rs3.new w 40)
  go_enter Try.func37, Try.ntmps37
  go_wp2_with fail
  refine (HS.out _).mono ?_
  rintro e w1 ⟨rfl, hb⟩
  have H1 := Lib.hid (HB.out.on hb)
  obtain ⟨c0, c1, c2, f0⟩ := H1.out.all
  have hz := H1.out.z
  have hlt : ∀ o, w.heap.size < (w1.alloc o).heap.size := fun o => by rw [hsz1]; omega
  clear hb
  go_wp2_with fail
  have hne : ¬ w.heap.size = w1.heap.size := by omega
  have hblk := H1.out.blk
  refine bodyPost_ret (v := .tuple #[.agg #[.int .i64 0, .int .i64 0, .int .i64 0], .int .i64 1]) (by simp [results, Try.results37, go_sem, World.cell?, World.setCell, World.alloc, Array.getElem?_push, Array.getElem?_modify, hblk, hne]) rfl ⟨?_, ?_⟩
  · unfold sfV paE
    rw [if_neg HF.out, if_neg HF.out]
    rfl
  · exact (((H1.out.b.setCell (Nat.le_refl _) _).setCell (Nat.le_refl _) _).setCell (Nat.le_refl _) _).alloc (by simp [World.setCell]; omega) _
set_option maxRecDepth 100000 in
set_option maxHeartbeats 1000000 in
theorem shapeFor_32_yes (x : Nat) (w : World) (hx : x < 18446744073709551616) (h : x < 4294967296) : Calls Try.prog 37 #[.int .i64 32, .int .u64 (x : Int)] w (SfAns ((32 : Nat) : Int) x w) := by
  have HF : Hid (fits ((32 : Nat) : Int) x) := Lib.hid (⟨by unfold wOk; omega, fun _ => h⟩)
  have q1 : ((x : Int) / 4294967296 != 0) = false := by simp; omega
  clear h
  have HS : Hid (∀ W, Calls Try.prog 48 #[.int .i64 32] W fun e w' => e = .returned (.tuple #[.agg #[.int .i64 32, .int .i64 8, .int .i64 23], .bool true]) ∧ Below W.heap.size W w') := Lib.hid fun W => shapeOf_any 32 W
  have HB := Lib.hid (Rs3.new w 40)
  go_enter Try.func37, Try.ntmps37
  go_wp2_with fail
  refine (HS.out _).mono ?_
  rintro e w1 ⟨rfl, hb⟩
  have H1 := Lib.hid (HB.out.on hb)
  obtain ⟨c0, c1, c2, f0⟩ := H1.out.all
  have hz := H1.out.z
  have hlt : ∀ o, w.heap.size < (w1.alloc o).heap.size := fun o => by rw [hsz1]; omega
  clear hb
  go_wp2_with fail
  have hne : ¬ w.heap.size = w1.heap.size := by omega
  have hblk := H1.out.blk
  refine bodyPost_ret (v := .tuple #[.agg #[.int .i64 32, .int .i64 8, .int .i64 23], .int .i64 0]) (by simp [results, Try.results37, go_sem, World.cell?, World.setCell, World.alloc, Array.getElem?_push, Array.getElem?_modify, hblk, hne]) rfl ⟨?_, ?_⟩
  · unfold sfV paE
    rw [if_pos HF.out, if_pos HF.out]
    rfl
  · exact (((H1.out.b.setCell (Nat.le_refl _) _).setCell (Nat.le_refl _) _).setCell (Nat.le_refl _) _).alloc (by simp [World.setCell]; omega) _
set_option maxRecDepth 100000 in
set_option maxHeartbeats 1000000 in
theorem shapeFor_32_no (x : Nat) (w : World) (hx : x < 18446744073709551616) (h : ¬ x < 4294967296) : Calls Try.prog 37 #[.int .i64 32, .int .u64 (x : Int)] w (SfAns ((32 : Nat) : Int) x w) := by
  have HF : Hid (¬ fits ((32 : Nat) : Int) x) := Lib.hid (fun h' => h (h'.2 (by decide)))
  have q1 : ((x : Int) / 4294967296 != 0) = true := by simp; omega
  clear h
  have HS : Hid (∀ W, Calls Try.prog 48 #[.int .i64 32] W fun e w' => e = .returned (.tuple #[.agg #[.int .i64 32, .int .i64 8, .int .i64 23], .bool true]) ∧ Below W.heap.size W w') := Lib.hid fun W => shapeOf_any 32 W
  have HB := Lib.hid (Rs3.new w 40)
  go_enter Try.func37, Try.ntmps37
  go_wp2_with fail
  refine (HS.out _).mono ?_
  rintro e w1 ⟨rfl, hb⟩
  have H1 := Lib.hid (HB.out.on hb)
  obtain ⟨c0, c1, c2, f0⟩ := H1.out.all
  have hz := H1.out.z
  have hlt : ∀ o, w.heap.size < (w1.alloc o).heap.size := fun o => by rw [hsz1]; omega
  clear hb
  go_wp2_with fail
  have hne : ¬ w.heap.size = w1.heap.size := by omega
  have hblk := H1.out.blk
  refine bodyPost_ret (v := .tuple #[.agg #[.int .i64 0, .int .i64 0, .int .i64 0], .int .i64 1]) (by simp [results, Try.results37, go_sem, World.cell?, World.setCell, World.alloc, Array.getElem?_push, Array.getElem?_modify, hblk, hne]) rfl ⟨?_, ?_⟩
  · unfold sfV paE
    rw [if_neg HF.out, if_neg HF.out]
    rfl
  · exact (((H1.out.b.setCell (Nat.le_refl _) _).setCell (Nat.le_refl _) _).setCell (Nat.le_refl _) _).alloc (by simp [World.setCell]; omega) _
set_option maxRecDepth 100000 in
set_option maxHeartbeats 1000000 in
theorem shapeFor_64_yes (x : Nat) (w : World) (hx : x < 18446744073709551616) (_ : x < 18446744073709551616) : Calls Try.prog 37 #[.int .i64 64, .int .u64 (x : Int)] w (SfAns ((64 : Nat) : Int) x w) := by
  have HF : Hid (fits ((64 : Nat) : Int) x) := Lib.hid (⟨by unfold wOk; omega, fun h => absurd h (by decide)⟩)
  have q1 : ((x : Int) / 18446744073709551616 != 0) = false := by simp; omega
  have HS : Hid (∀ W, Calls Try.prog 48 #[.int .i64 64] W fun e w' => e = .returned (.tuple #[.agg #[.int .i64 64, .int .i64 11, .int .i64 52], .bool true]) ∧ Below W.heap.size W w') := Lib.hid fun W => shapeOf_any 64 W
  have HB := Lib.hid (Rs3.new w 40)
  go_enter Try.func37, Try.ntmps37
  go_wp2_with fail
  refine (HS.out _).mono ?_
  rintro e w1 ⟨rfl, hb⟩
  have H1 := Lib.hid (HB.out.on hb)
  obtain ⟨c0, c1, c2, f0⟩ := H1.out.all
  have hz := H1.out.z
  have hlt : ∀ o, w.heap.size < (w1.alloc o).heap.size := fun o => by rw [hsz1]; omega
  clear hb
  go_wp2_with fail
  have hne : ¬ w.heap.size = w1.heap.size := by omega
  have hblk := H1.out.blk
  refine bodyPost_ret (v := .tuple #[.agg #[.int .i64 64, .int .i64 11, .int .i64 52], .int .i64 0]) (by simp [results, Try.results37, go_sem, World.cell?, World.setCell, World.alloc, Array.getElem?_push, Array.getElem?_modify, hblk, hne]) rfl ⟨?_, ?_⟩
  · unfold sfV paE
    rw [if_pos HF.out, if_pos HF.out]
    rfl
  · exact (((H1.out.b.setCell (Nat.le_refl _) _).setCell (Nat.le_refl _) _).setCell (Nat.le_refl _) _).alloc (by simp [World.setCell]; omega) _

theorem shapeFor_any (k : Int) (x : Nat) (w : World) (hx : x < 18446744073709551616) : Calls Try.prog 37 #[.int .i64 k, .int .u64 (x : Int)] w (SfAns k x w) := by
  by_cases hk : wOk k
  · unfold wOk at hk
    rcases hk with rfl | rfl | rfl
    · by_cases h : x < 65536
      · exact shapeFor_16_yes x w hx h
      · exact shapeFor_16_no x w hx h
    · by_cases h : x < 4294967296
      · exact shapeFor_32_yes x w hx h
      · exact shapeFor_32_no x w hx h
    · exact shapeFor_64_yes x w hx hx
  · exact shapeFor_no k x w hk
theorem fits.facts {k : Int} {x : Nat} (h : fits k x) (hx : x < 18446744073709551616) : kOk k.toNat ∧ x < lim k.toNat := by
  obtain ⟨h1, h2⟩ := h
  unfold wOk at h1
  rcases h1 with rfl | rfl | rfl
  · exact ⟨.inl rfl, h2 (by decide)⟩
  · exact ⟨.inr (.inl rfl), h2 (by decide)⟩
  · exact ⟨.inr (.inr rfl), hx⟩
/-- the two ways of shapeFor -/
theorem shapeFor_yes {k : Int} {x : Nat} (W : World) (hx : x < 18446744073709551616) (h : fits k x) : Calls Try.prog 37 #[.int .i64 k, .int .u64 (x : Int)] W fun e w' => e = .returned (.tuple #[sv k.toNat, .int .i64 0]) ∧ Below W.heap.size W w' := by
  have := shapeFor_any k x W hx
  unfold SfAns sfV paE at this
  rw [if_pos h, if_pos h] at this
  exact this
theorem shapeFor_not {k : Int} {x : Nat} (W : World) (hx : x < 18446744073709551616) (h : ¬ fits k x) : Calls Try.prog 37 #[.int .i64 k, .int .u64 (x : Int)] W fun e w' => e = .returned (.tuple #[z3, .int .i64 1]) ∧ Below W.heap.size W w' := by
  have := shapeFor_any k x W hx
  unfold SfAns sfV paE at this
  rw [if_neg h, if_neg h] at this
  exact this
set_option maxRecDepth 100000 in
set_option maxHeartbeats 1000000 in
theorem fclass_any (k : Int) (x : Nat) (w : World) (hx : x < 18446744073709551616) : Calls Try.prog 22 #[.int .i64 k, .int .u64 (x : Int)] w (ClAns k x w) := by
  unfold ClAns
  by_cases hf : fits k x
  · have HS := Lib.hid (fun W => shapeFor_yes W hx hf)
    obtain ⟨hk, hl⟩ := hf.facts hx
    have e3 : paE k x = 0 := by unfold paE; rw [if_pos hf]
    have e4 : clC k x = clk k.toNat x := by unfold clC; rw [if_pos hf]; rfl
    rw [e3, e4]
    have HC := Lib.hid (fun W => class_any k.toNat x W hk hl)
    clear e3 e4 hf hk hl
    obtain ⟨R, hR⟩ : ∃ R, clk k.toNat x = R := ⟨_, rfl⟩
    rw [hR] at HC ⊢
    clear hR
    obtain ⟨K, hK⟩ : ∃ K, k.toNat = K := ⟨_, rfl⟩
    rw [hK] at HC HS
    clear hK
    unfold sv at HS HC
    go_enter Try.func22, Try.ntmps22
    go_wp2_with fail
    with_reducible refine (HS.out _).mono ?_
    rintro e w1 ⟨rfl, hb⟩
    have H1 := Lib.hid hb
    clear hb
    go_wp2_with fail
    with_reducible refine (HC.out _).mono ?_
    rintro e w2 ⟨rfl, hb⟩
    have H2 := Lib.hid ((H1.out.alloc H1.out.size _).trans (hb.mono (Nat.le_trans H1.out.size (by simp))))
    clear hb
    go_wp2_with fail
    go_ret2
    exact ⟨rfl, H2.out⟩
  · have HS := Lib.hid (fun W => shapeFor_not W hx hf)
    have e3 : paE k x = 1 := by unfold paE; rw [if_neg hf]
    have e4 : clC k x = 0 := by unfold clC; rw [if_neg hf]
    rw [e3, e4]
    clear e3 e4 hf
    unfold z3 at HS
    go_enter Try.func22, Try.ntmps22
    go_wp2_with fail
    with_reducible refine (HS.out _).mono ?_
    rintro e w1 ⟨rfl, hb⟩
    have H1 := Lib.hid hb
    clear hb
    go_wp2_with fail
    go_ret2
    exact ⟨rfl, H1.out.alloc H1.out.size _⟩
end Go.Proofs.Ytcndkhgbgjnclaa.nn
/- The real fbits: compose: the bits of m times 2^e. -/
namespace Go.Proofs.Ytcndkhgbgjnclaa.nn
open Go.RowKit

theorem bitLen_log2 : ∀ (f x : Nat), 0 < x → x < 2 ^ f → f ≤ 64 → Lib.bitLen x = x.log2 + 1
  | 0, x, h0, h, _ => by rw [Nat.pow_zero] at h; omega
  | f + 1, x, h0, h, hf => by
    have hx : x < 2 ^ 64 := Nat.lt_of_lt_of_le h (Nat.pow_le_pow_right (by decide) hf)
    rw [Lib.bitLen_half x (by omega) hx]
    by_cases h1 : x < 2
    · obtain rfl : x = 1 := by omega
      decide
    · have h2 : 2 ^ 1 ≤ x := by omega
      have h3 := log2_div h2
      have h4 : 1 ≤ x.log2 := (Nat.le_log2 (by omega)).2 h2
      rw [show (2 : Nat) ^ 1 = 2 by decide] at h3
      rw [bitLen_log2 f (x / 2) (by omega) (by rw [Nat.pow_succ] at h; omega) (by omega), h3]
      omega
section
variable {m a b : Nat} {n : Int}
theorem sV_lt (h : m < 2 ^ a) (hb : (a : Int) + n ≤ (b : Int)) : sV m n < 2 ^ b := by
  unfold sV
  by_cases hn : n < 0
  · rw [if_pos hn]
    obtain ⟨d, rfl⟩ : ∃ d : Nat, n = -(d : Int) := ⟨(-n).toNat, by omega⟩
    rw [show (-(-(d : Int))).toNat = d by omega]
    refine Nat.div_lt_of_lt_mul ?_
    rw [← Nat.pow_add]
    exact Nat.lt_of_lt_of_le h (Nat.pow_le_pow_right (by decide) (by omega))
  · rw [if_neg hn]
    obtain ⟨d, rfl⟩ : ∃ d : Nat, n = (d : Int) := ⟨n.toNat, by omega⟩
    rw [Int.toNat_natCast]
    refine Nat.lt_of_le_of_lt (Nat.mod_le _ _) ?_
    refine Nat.lt_of_lt_of_le (Nat.mul_lt_mul_of_pos_right h (Nat.two_pow_pos d)) ?_
    rw [← Nat.pow_add]
    exact Nat.pow_le_pow_right (by decide) (by omega)
theorem sV_ge (h : 2 ^ a ≤ m) (hb : (a : Int) + n = (b : Int)) (hO : sOk m n = true) : 2 ^ b ≤ sV m n := by
  unfold sOk at hO
  unfold sV
  by_cases hn : n < 0
  · rw [if_pos hn]
    obtain ⟨d, rfl⟩ : ∃ d : Nat, n = -(d : Int) := ⟨(-n).toNat, by omega⟩
    rw [show (-(-(d : Int))).toNat = d by omega]
    refine (Nat.le_div_iff_mul_le (Nat.two_pow_pos d)).2 ?_
    rw [← Nat.pow_add, show b + d = a by omega]
    exact h
  · rw [if_neg hn] at hO ⊢
    obtain ⟨d, rfl⟩ : ∃ d : Nat, n = (d : Int) := ⟨n.toNat, by omega⟩
    rw [Int.toNat_natCast] at hO ⊢
    rw [Nat.mod_eq_of_lt (of_decide_eq_true hO), show b = a + d by omega, Nat.pow_add]
    exact Nat.mul_le_mul_right _ h
end
/-- the unit that m times 2^e is counted in -/
def unt (k m : Nat) (e : Int) : Int := max ((m.log2 : Int) + e - (fb k : Int)) (1 - (bia k : Int) - (fb k : Int))
def cmO (k m : Nat) (e : Int) : Bool := if m = 0 then true else decide ((m.log2 : Int) + e ≤ (bia k : Int)) && sOk m (e - unt k m e)
def cmU (k m : Nat) (e : Int) : Nat := sV m (e - unt k m e)
def cmV (k : Nat) (neg : Bool) (m : Nat) (e : Int) : Nat :=
  if cmO k m e then (if m = 0 then kv (xb k) (fb k) neg 0 0 else if cmU k m e < hdn k then kv (xb k) (fb k) neg 0 (cmU k m e) else kv (xb k) (fb k) neg ((m.log2 : Int) + e + (bia k : Int)).toNat (cmU k m e - hdn k)) else 0
theorem kOk.bt {k : Nat} (h : kOk k) : onz k = 2 * bia k + 1 := by have := h.facts; omega
theorem cmU_lt {k m : Nat} {e : Int} (_ : 0 < m) : cmU k m e < 2 ^ (fb k + 1) := by
  unfold cmU unt
  refine sV_lt (Nat.lt_log2_self (n := m)) ?_
  omega
theorem cmU_low {k m : Nat} {e : Int} (_ : 0 < m) (h : (m.log2 : Int) + e < 1 - (bia k : Int)) : cmU k m e < 2 ^ fb k := by
  unfold cmU unt
  refine sV_lt (Nat.lt_log2_self (n := m)) ?_
  omega
theorem cmU_high {k m : Nat} {e : Int} (h0 : 0 < m) (h : 1 - (bia k : Int) ≤ (m.log2 : Int) + e) (hO : sOk m (e - unt k m e) = true) : 2 ^ fb k ≤ cmU k m e := by
  unfold cmU
  refine sV_ge (Nat.log2_self_le (by omega)) ?_ hO
  unfold unt
  omega
end Go.Proofs.Ytcndkhgbgjnclaa.nn
/- The walk of the real compose. -/
namespace Go.Proofs.Ytcndkhgbgjnclaa.nn
open Go.RowKit

theorem ret_ub {a c : Int} {b d : Bool} (h1 : a = c) (h2 : b = d) : Ending.returned (.tuple #[.int .u64 a, .bool b]) = .returned (.tuple #[.int .u64 c, .bool d]) := by rw [h1, h2]
set_option maxRecDepth 100000 in
set_option maxHeartbeats 1000000 in
theorem compose_zero (k : Nat) (neg : Bool) (e : Int) (w : World) (hk : kOk k) :
    Calls Try.prog 14 #[sv k, .bool neg, .int .u64 0, .int .i64 e] w fun r w' => r = .returned (.tuple #[.int .u64 (kv (xb k) (fb k) neg 0 0 : Int), .bool true]) ∧ Below w.heap.size w w' := by
  have hf := hk.facts
  have hJ : ∀ W, Calls Try.prog 26 #[sv k, .bool neg, .int .i64 0, .int .u64 0] W fun r w' => r = .returned (.int .u64 (kv (xb k) (fb k) neg 0 0 : Int)) ∧ Below W.heap.size W w' := fun W => join_any k neg 0 0 W hk (by omega) (by omega)
  obtain ⟨r, hr⟩ : ∃ r, kv (xb k) (fb k) neg 0 0 = r := ⟨_, rfl⟩
  rw [hr] at hJ ⊢
  have HJ := Lib.hid hJ
  clear hr hJ
  have HB := Lib.hid (Bs.new w k)
  unfold sv at HJ ⊢
  clear hf
  go_enter Try.func14, Try.ntmps14
  go_wp2_with fail
  with_reducible refine (HJ.out _).mono ?_
  rintro e w1 ⟨rfl, hb⟩
  have H1 := Lib.hid ((HB.out _).on hb)
  clear hb
  go_wp2_with fail
  go_ret2
  exact ⟨rfl, H1.out.b⟩
/-- all numbers named: P the bits of m, U the unit below which none is -/
theorem compose_walk (k m P B F H : Nat) (neg : Bool) (e U V : Int) (u r rr : Nat) (O R : Bool) (w : World) (_ : kOk k) (hm : 0 < m) (hm2 : m < 18446744073709551616) (he : -2000 ≤ e) (he2 : e ≤ 2000) (hP : P ≤ 65) (hP1 : 1 ≤ P) (hB : B ≤ 1023) (hF : F ≤ 52) (hFf : fb k = F) (hU : -1100 ≤ U) (hU2 : U ≤ 0) (hH : H < 18446744073709551616)
    (hV : max ((P : Int) - 1 + e - (F : Int)) U = V)
    (HL : Hid (∀ W, Calls Try.prog 27 #[.int .u64 (m : Int)] W fun r w' => r = .returned (.int .i64 (P : Int)) ∧ W = w'))
    (HBi : Hid (∀ W, Bs w k W → Calls Try.prog 28 #[sv k] W fun e w' => e = .returned (.int .i64 (B : Int)) ∧ Bs w k w'))
    (HUn : Hid (∀ W, Bs w k W → Calls Try.prog 29 #[sv k] W fun e w' => e = .returned (.int .i64 U) ∧ Bs w k w'))
    (HHi : Hid (∀ W, Bs w k W → Calls Try.prog 31 #[sv k] W fun e w' => e = .returned (.int .u64 (H : Int)) ∧ Bs w k w'))
    (HS : Hid (∀ W, Calls Try.prog 30 #[.int .u64 (m : Int), .int .i64 (e - V)] W fun r w' => r = .returned (.tuple #[.int .u64 (u : Int), .bool O]) ∧ Below W.heap.size W w'))
    (hu : u < 18446744073709551616)
    (HJ : Hid (∀ (X M : Nat) (W : World), ((O = true ∧ u < H ∧ X = 0 ∧ M = u) ∨ (O = true ∧ H ≤ u ∧ (P : Int) - 1 + e ≤ B ∧ (X : Int) = (P : Int) - 1 + e + B ∧ M = u - H)) → Bs w k W → Calls Try.prog 26 #[sv k, .bool neg, .int .i64 (X : Int), .int .u64 (M : Int)] W fun e w' => e = .returned (.int .u64 (r : Int)) ∧ Bs w k w'))
    (hR : R = (decide ((P : Int) - 1 + e ≤ B) && O))
    (HRR : Hid (rr = if R then r else 0))
    (hX : H ≤ u → O = true → (P : Int) - 1 + e ≤ B → 0 ≤ (P : Int) - 1 + e + B) :
    Calls Try.prog 14 #[sv k, .bool neg, .int .u64 (m : Int), .int .i64 e] w fun x w' => x = .returned (.tuple #[.int .u64 (rr : Int), .bool R]) ∧ Below w.heap.size w w' := by
  have HB0 := Lib.hid (Bs.new w k)
  have q0 : ((m : Int) == 0) = false := by simp; omega
  have HX := Lib.hid hX
  have hVb : -1100 ≤ V ∧ V ≤ 2064 := by omega
  obtain ⟨hVb1, hVb2⟩ := hVb
  have HJ0 : Hid (O = true → u < H → ∀ W, Bs w k W → Calls Try.prog 26 #[sv k, .bool neg, .int .i64 0, .int .u64 (u : Int)] W fun e w' => e = .returned (.int .u64 (r : Int)) ∧ Bs w k w') := Lib.hid fun h1 h2 W => HJ.out 0 u W (.inl ⟨h1, h2, rfl, rfl⟩)
  have HJ1 : Hid (O = true → H ≤ u → (P : Int) - 1 + e ≤ B → ∀ W, Bs w k W → Calls Try.prog 26 #[sv k, .bool neg, .int .i64 ((P : Int) - 1 + e + (B : Int)), .int .u64 ((u : Int) - (H : Int))] W fun e w' => e = .returned (.int .u64 (r : Int)) ∧ Bs w k w') := Lib.hid fun h1 h2 h3 W => by
    have h4 := HX.out h2 h1 h3
    obtain ⟨X, hX'⟩ : ∃ X : Nat, (X : Int) = (P : Int) - 1 + e + (B : Int) := ⟨((P : Int) - 1 + e + (B : Int)).toNat, by omega⟩
    have := HJ.out X (u - H) W (.inr ⟨h1, h2, h3, hX', rfl⟩)
    rw [hX', show ((u - H : Nat) : Int) = (u : Int) - (H : Int) by omega] at this
    exact this
  unfold sv at HBi HUn HHi HJ0 HJ1 ⊢
  rw [hFf] at HB0 HBi HUn HHi HJ0 HJ1 ⊢
  have HA : Hid (∀ W, Bs w k W → W.cell? ⟨w.heap.size, 0, none⟩ = some (.int .i64 (k : Int)) ∧ W.cell? ⟨w.heap.size, 1, none⟩ = some (.int .i64 (xb k : Int)) ∧ W.cell? ⟨w.heap.size, 2, none⟩ = some (.int .i64 (F : Int)) ∧ Bs w k W) := Lib.hid fun W hW => by
    have := hW.all
    rw [hFf] at this
    exact this
  by_cases hle : (P : Int) - 1 + e ≤ B
  · have HLE := Lib.hid hle
    have q1 : decide ((B : Int) < (P : Int) - 1 + e) = false := decide_eq_false (by omega)
    rw [decide_eq_true hle, Bool.true_and] at hR
    subst hR
    clear HJ HX hX hFf hle
    go_enter Try.func14, Try.ntmps14
    go_wp2_with fail
    with_reducible refine (HL.out _).mono ?_
    rintro r1 w1 ⟨rfl, rfl⟩
    go_wp2_with fail
    with_reducible refine (HBi.out _ (HB0.out _)).mono ?_
    rintro r1 w1 ⟨rfl, h1⟩
    have q2 : IntKind.i64.wrap ((P : Int) - 1 + e - (F : Int)) = (P : Int) - 1 + e - (F : Int) := IntWalk.i64_in _ (by omega)
    go_wp2_with fail
    have hb1 := h1.drew
    have hb := HA.out _ hb1
    go_region_held3 (fun W => W.cell? ⟨w.heap.size, 0, none⟩ = some (.int .i64 (k : Int)) ∧ W.cell? ⟨w.heap.size, 1, none⟩ = some (.int .i64 (xb k : Int)) ∧ W.cell? ⟨w.heap.size, 2, none⟩ = some (.int .i64 (F : Int)) ∧ Bs w k W) (first | exact HA.out _ ‹_› | exact HA.out _ (And.right ‹_›))
      (first | (go_at_call 29; with_reducible refine (HUn.out _ ?_).mono ?_; (first | assumption | exact And.right ‹_›); rintro e w' ⟨rfl, hk5⟩))
    clear hb hb1 q2 h1
    have H5 := Lib.hid hk5
    clear hk5
    go_wp2_with fail
    with_reducible refine (HS.out _).mono ?_
    rintro r1 w2 ⟨rfl, hb⟩
    have h6 := H5.out.on hb
    have hc6 := HA.out _ h6
    clear hb
    cases R with
    | false =>
      go_wp2_with fail
      go_ret2
      exact ⟨by rw [HRR.out]; rfl, h6.b⟩
    | true =>
      by_cases hlt : u < H
      · have q5 : decide (u < H) = true := decide_eq_true hlt
        have HJ2 := Lib.hid (HJ0.out rfl hlt)
        clear hlt
        go_wp2_with fail
        with_reducible refine (HHi.out _ h6).mono ?_
        rintro r1 w3 ⟨rfl, h7⟩
        have hc7 := HA.out _ h7
        clear hc6 h6
        go_wp2_with fail
        with_reducible refine (HJ2.out _ h7).mono ?_
        rintro r1 w4 ⟨rfl, h8⟩
        clear hc7 h7
        go_wp2_with fail
        go_ret2
        exact ⟨by rw [HRR.out]; rfl, h8.b⟩
      · have q5 : decide (u < H) = false := decide_eq_false hlt
        have HJ2 := Lib.hid (HJ1.out rfl (by omega) HLE.out)
        have hx0 := HLE.out
        have q6 : IntKind.i64.wrap ((P : Int) - 1 + e + (B : Int)) = (P : Int) - 1 + e + (B : Int) := IntWalk.i64_in _ (by omega)
        have q7 : IntKind.u64.wrap ((u : Int) - (H : Int)) = (u : Int) - (H : Int) := by rw [IntKind.wrap_u64]; omega
        clear hlt hx0
        go_wp2_with fail
        with_reducible refine (HHi.out _ h6).mono ?_
        rintro r1 w3 ⟨rfl, h7⟩
        clear hc6 h6
        go_wp2_with fail
        have hb1 := h7.drew
        have hb := HA.out _ hb1
        go_region_held3 (fun W => W.cell? ⟨w.heap.size, 0, none⟩ = some (.int .i64 (k : Int)) ∧ W.cell? ⟨w.heap.size, 1, none⟩ = some (.int .i64 (xb k : Int)) ∧ W.cell? ⟨w.heap.size, 2, none⟩ = some (.int .i64 (F : Int)) ∧ Bs w k W) (first | exact HA.out _ ‹_› | exact HA.out _ (And.right ‹_›))
          (first
            | (go_at_call 28; with_reducible refine (HBi.out _ ?_).mono ?_; (first | assumption | exact And.right ‹_›); rintro e w' ⟨rfl, hk6⟩)
            | (go_at_call 31; with_reducible refine (HHi.out _ ?_).mono ?_; (first | assumption | exact And.right ‹_›); rintro e w' ⟨rfl, hk6⟩)
            | (go_at_call 26; with_reducible refine (HJ2.out _ ?_).mono ?_; (first | assumption | exact And.right ‹_›); rintro e w' ⟨rfl, hk6⟩))
        clear hb hb1 q6 q7 h7
        go_wp2_with fail
        go_ret2
        exact ⟨by rw [HRR.out]; rfl, (by assumption : Bs w k _).b⟩
  · have q1 : decide ((B : Int) < (P : Int) - 1 + e) = true := decide_eq_true (by omega)
    rw [decide_eq_false hle, Bool.false_and] at hR
    subst hR
    clear hV HJ HX hX hle hFf
    go_enter Try.func14, Try.ntmps14
    go_wp2_with fail
    with_reducible refine (HL.out _).mono ?_
    rintro r1 w1 ⟨rfl, rfl⟩
    go_wp2_with fail
    with_reducible refine (HBi.out _ (HB0.out _)).mono ?_
    rintro r1 w1 ⟨rfl, h1⟩
    have H1 := Lib.hid h1
    clear h1
    go_wp2_with fail
    go_ret2
    exact ⟨by rw [HRR.out]; rfl, H1.out.b⟩
end Go.Proofs.Ytcndkhgbgjnclaa.nn
/- The real fbits: compose of any; the walk of convert. -/
namespace Go.Proofs.Ytcndkhgbgjnclaa.nn
open Go.RowKit

theorem compose_any (k : Nat) (neg : Bool) (m : Nat) (e : Int) (w : World) (hk : kOk k) (hm2 : m < 18446744073709551616) (he : -2000 ≤ e) (he2 : e ≤ 2000) :
    Calls Try.prog 14 #[sv k, .bool neg, .int .u64 (m : Int), .int .i64 e] w fun r w' => r = .returned (.tuple #[.int .u64 (cmV k neg m e : Int), .bool (cmO k m e)]) ∧ Below w.heap.size w w' := by
  have hf := hk.facts
  by_cases h0 : m = 0
  · subst h0
    have e1 : cmO k 0 e = true := if_pos rfl
    have e2 : cmV k neg 0 e = kv (xb k) (fb k) neg 0 0 := by unfold cmV; rw [e1, if_pos rfl, if_pos rfl]
    rw [e1, e2]
    exact compose_zero k neg e w hk
  · have h1 : 0 < m := by omega
    have hl : m.log2 < 64 := (Nat.log2_lt h0).2 (by rw [p64]; exact hm2)
    have hbl := bitLen_log2 64 m h1 (by rw [p64]; exact hm2) (by omega)
    have hu1 := cmU_lt (k := k) (e := e) h1
    have hH : hdn k = 2 ^ fb k := rfl
    have hH2 : 2 ^ (fb k + 1) = 2 * hdn k := by rw [hH, Nat.pow_succ, Nat.mul_comm]
    rw [hH2] at hu1
    have hlow : hdn k ≤ cmU k m e → 1 - (bia k : Int) ≤ (m.log2 : Int) + e := fun h => by
      by_cases h' : (m.log2 : Int) + e < 1 - (bia k : Int)
      · have := cmU_low h1 h'; rw [← hH] at this; omega
      · omega
    refine compose_walk k m (m.log2 + 1) (bia k) (fb k) (hdn k) neg e (1 - (bia k : Int) - (fb k : Int)) (unt k m e) (cmU k m e)
      (if cmU k m e < hdn k then kv (xb k) (fb k) neg 0 (cmU k m e) else kv (xb k) (fb k) neg ((m.log2 : Int) + e + (bia k : Int)).toNat (cmU k m e - hdn k)) (cmV k neg m e) (sOk m (e - unt k m e)) (cmO k m e) w hk h1 hm2 he he2
      (by omega) (by omega) (by omega) (by omega) rfl (by omega) (by omega) (by omega) ?_ ?_ ?_ ?_ ?_ ?_ (by omega) ?_ ?_ ?_ ?_
    · unfold unt; omega
    · refine Lib.hid fun W => (Go.Proofs.Try.bits_Len64 (m : Int) W (by omega) (by omega)).mono ?_
      rintro r w' ⟨rfl, rfl⟩
      exact ⟨by rw [Int.toNat_natCast, hbl], rfl⟩
    · exact Lib.hid fun W hW => (bias_any k W hk).mono fun e w' ⟨he, hb⟩ => ⟨he, hW.on hb⟩
    · exact Lib.hid fun W hW => (leastUnit_any k W hk).mono fun e w' ⟨he, hb⟩ => ⟨he, hW.on hb⟩
    · exact Lib.hid fun W hW => (hidden_any k W hk).mono fun e w' ⟨he, hb⟩ => ⟨he, hW.on hb⟩
    · exact Lib.hid fun W => shift_any m (e - unt k m e) W hm2 (by unfold unt; omega) (by unfold unt; omega)
    · refine Lib.hid fun X M W h hW => ?_
      rcases h with ⟨hO, hlt, rfl, rfl⟩ | ⟨hO, hge, hle, hX, rfl⟩
      · rw [if_pos hlt]
        exact (join_any k neg 0 _ W hk (by omega) hlt).mono fun e w' ⟨he, hb⟩ => ⟨he, hW.on hb⟩
      · rw [if_neg (by omega), show ((m.log2 : Int) + e + (bia k : Int)).toNat = X by omega]
        exact (join_any k neg X _ W hk (by have := hk.bt; omega) (by omega)).mono fun e w' ⟨he, hb⟩ => ⟨he, hW.on hb⟩
    · unfold cmO
      rw [if_neg h0, show ((m.log2 + 1 : Nat) : Int) - 1 + e = (m.log2 : Int) + e by omega]
    · refine Lib.hid ?_
      unfold cmV
      rw [if_neg h0]
    · intro h2 _ _
      have := hlow h2
      omega
/-- the worlds behind a call's two boxed shapes -/
structure Bs2 (w : World) (k j : Nat) (W : World) : Prop where
  c0 : W.cell? ⟨w.heap.size, 0, none⟩ = some (.int .i64 (k : Int))
  c1 : W.cell? ⟨w.heap.size, 1, none⟩ = some (.int .i64 (xb k : Int))
  c2 : W.cell? ⟨w.heap.size, 2, none⟩ = some (.int .i64 (fb k : Int))
  d0 : W.cell? ⟨w.heap.size + 1, 0, none⟩ = some (.int .i64 (j : Int))
  d1 : W.cell? ⟨w.heap.size + 1, 1, none⟩ = some (.int .i64 (xb j : Int))
  d2 : W.cell? ⟨w.heap.size + 1, 2, none⟩ = some (.int .i64 (fb j : Int))
  b : Below w.heap.size w W
  z : w.heap.size + 1 < W.heap.size
theorem Bs2.new (w : World) (k j : Nat) (T : TypeId) : Bs2 w k j ((w.alloc (.cells #[.int .i64 (k : Int), .int .i64 (xb k : Int), .int .i64 (fb k : Int)] T)).alloc (.cells #[.int .i64 (j : Int), .int .i64 (xb j : Int), .int .i64 (fb j : Int)] T)) := by
  have h := Bs.new w k T
  have h2 := Bs.new (w.alloc (.cells #[.int .i64 (k : Int), .int .i64 (xb k : Int), .int .i64 (fb k : Int)] T)) j T
  have hz : (w.alloc (.cells #[.int .i64 (k : Int), .int .i64 (xb k : Int), .int .i64 (fb k : Int)] T)).heap.size = w.heap.size + 1 := by simp
  have h3 := h.on h2.b
  obtain ⟨x0, x1, x2, _, x4⟩ := h2
  rw [hz] at x0 x1 x2 x4
  exact ⟨h3.c0, h3.c1, h3.c2, x0, x1, x2, h3.b, x4⟩
theorem Bs2.on {w W W' : World} {k j : Nat} (h : Bs2 w k j W) (hB : Below W.heap.size W W') : Bs2 w k j W' := by
  have hz := h.z
  have hz1 : w.heap.size < W.heap.size := by omega
  exact ⟨(hB.cell (p := ⟨_, _, none⟩) hz1).trans h.c0, (hB.cell (p := ⟨_, _, none⟩) hz1).trans h.c1, (hB.cell (p := ⟨_, _, none⟩) hz1).trans h.c2, (hB.cell (p := ⟨_, _, none⟩) hz).trans h.d0, (hB.cell (p := ⟨_, _, none⟩) hz).trans h.d1, (hB.cell (p := ⟨_, _, none⟩) hz).trans h.d2, h.b.trans (hB.mono (by omega)), Nat.lt_of_lt_of_le hz hB.size⟩
theorem Bs2.drew {w W : World} {k j : Nat} (h : Bs2 w k j W) : Bs2 w k j W.drew := h.on (Below.drew (Below.refl _ _))
theorem Bs2.all {w W : World} {k j : Nat} (h : Bs2 w k j W) : W.cell? ⟨w.heap.size, 0, none⟩ = some (.int .i64 (k : Int)) ∧ W.cell? ⟨w.heap.size, 1, none⟩ = some (.int .i64 (xb k : Int)) ∧ W.cell? ⟨w.heap.size, 2, none⟩ = some (.int .i64 (fb k : Int)) ∧
    W.cell? ⟨w.heap.size + 1, 0, none⟩ = some (.int .i64 (j : Int)) ∧ W.cell? ⟨w.heap.size + 1, 1, none⟩ = some (.int .i64 (xb j : Int)) ∧ W.cell? ⟨w.heap.size + 1, 2, none⟩ = some (.int .i64 (fb j : Int)) ∧ Bs2 w k j W := ⟨h.c0, h.c1, h.c2, h.d0, h.d1, h.d2, h⟩
/-- what convert answers -/
def cvO (k j x : Nat) : Bool := if ex k x = onz k then sOk (fr k x) ((fb j : Int) - (fb k : Int)) else cmO j (aM k (ex k x) (fr k x)) (aE k (ex k x))
def cvV (k j x : Nat) : Nat := if ex k x = onz k then (if cvO k j x then kv (xb j) (fb j) (sg k x) (onz j) (sV (fr k x) ((fb j : Int) - (fb k : Int))) else 0) else cmV j (sg k x) (aM k (ex k x) (fr k x)) (aE k (ex k x))
theorem cl5_inf {k X M : Nat} : (3 ≤ cl5 (xb k) X M ↔ X = onz k) ∧ cl5 (xb k) X M < 5 := by
  unfold cl5
  rw [show 2 ^ xb k - 1 = onz k from rfl]
  by_cases h : X = onz k
  · rw [if_pos h]
    split <;> exact ⟨⟨fun _ => h, fun _ => by omega⟩, by omega⟩
  · rw [if_neg h]
    split
    · exact ⟨⟨fun h2 => absurd h2 (by omega), fun h2 => absurd h2 h⟩, by omega⟩
    · split <;> exact ⟨⟨fun h2 => absurd h2 (by omega), fun h2 => absurd h2 h⟩, by omega⟩
theorem aM_lt {k X M : Nat} (hk : kOk k) (hM : M < hdn k) : aM k X M < 9007199254740992 := by
  have := hk.facts
  unfold aM
  split <;> omega
theorem aE_le {k X : Nat} (hk : kOk k) (hX : X ≤ onz k) : -1074 ≤ aE k X ∧ aE k X ≤ 972 := by
  have := hk.facts
  unfold aE
  split <;> omega
end Go.Proofs.Ytcndkhgbgjnclaa.nn
/- Plain facts of floats as bits: there and back, order, whole numbers. -/
namespace Go.Proofs.Ytcndkhgbgjnclaa.nn

theorem wd_16 (x : Nat) : wdV 16 x = jv (sg 16 x) (wX 15 32 10 (ex 16 x) (fr 16 x)) (wM 32 10 (ex 16 x) (fr 16 x)) := by
  have h1 := ex_lt (w := 16) (x := x)
  rw [show (2 : Nat) ^ xb 16 = 32 from rfl] at h1
  unfold wdV clk cl5 wX wM wdm
  rw [show (2 : Nat) ^ xb 16 - 1 = 31 from rfl, show bia 16 = 15 from rfl, show fb 16 = 10 from rfl, show 32 - 1 = 31 from rfl]
  by_cases c1 : ex 16 x = 31
  · simp only [c1, if_true, true_or]
    by_cases c2 : fr 16 x = 0 <;> simp [c2]
  · simp only [c1, if_false, false_or]
    by_cases c2 : 0 < ex 16 x
    · simp [c2]
    · simp only [c2, if_false]
      by_cases c3 : 0 < fr 16 x
      · simp [c3]
      · simp [c3]
theorem wd_32 (x : Nat) : wdV 32 x = jv (sg 32 x) (wX 127 256 23 (ex 32 x) (fr 32 x)) (wM 256 23 (ex 32 x) (fr 32 x)) := by
  have h1 := ex_lt (w := 32) (x := x)
  rw [show (2 : Nat) ^ xb 32 = 256 from rfl] at h1
  unfold wdV clk cl5 wX wM wdm
  rw [show (2 : Nat) ^ xb 32 - 1 = 255 from rfl, show bia 32 = 127 from rfl, show fb 32 = 23 from rfl, show 256 - 1 = 255 from rfl]
  by_cases c1 : ex 32 x = 255
  · simp only [c1, if_true, true_or]
    by_cases c2 : fr 32 x = 0 <;> simp [c2]
  · simp only [c1, if_false, false_or]
    by_cases c2 : 0 < ex 32 x
    · simp [c2]
    · simp only [c2, if_false]
      by_cases c3 : 0 < fr 32 x
      · simp [c3]
      · simp [c3]
theorem wd_64 {x : Nat} (hx : x < 18446744073709551616) : wdV 64 x = x := by
  have hj := parts_jv hx
  unfold wdV clk cl5 wdm
  rw [show (2 : Nat) ^ xb 64 - 1 = 2047 from rfl, show bia 64 = 1023 from rfl, show 52 - fb 64 = 0 from rfl, Nat.pow_zero, Nat.mul_one]
  by_cases c1 : ex 64 x = 2047
  · simp only [c1, if_true]
    rw [c1] at hj
    by_cases c2 : fr 64 x = 0
    · simp [c2]; rw [c2] at hj; exact hj
    · simp [c2]; exact hj
  · simp only [c1, if_false]
    by_cases c2 : 0 < ex 64 x
    · simp [c2]; exact hj
    · simp only [c2, if_false]
      have c0 : ex 64 x = 0 := by omega
      by_cases c3 : 0 < fr 64 x
      · simp [c3]
      · have c4 : fr 64 x = 0 := by omega
        simp [c4]
        rw [c0, c4] at hj
        exact hj

theorem fits16 {x : Nat} : fits 16 x ↔ x < 65536 := ⟨fun h => h.2 (by decide), fun h => ⟨by unfold wOk; omega, fun _ => h⟩⟩
theorem fits32 {x : Nat} : fits 32 x ↔ x < 4294967296 := ⟨fun h => h.2 (by decide), fun h => ⟨by unfold wOk; omega, fun _ => h⟩⟩
theorem wi_ok {k : Int} {x : Nat} (h : fits k x) : wiV k x = wdV k.toNat x := if_pos h
theorem nr_ok {k : Int} {x : Nat} (hk : wOk k) (h : k ≠ 64) : nrO k x = nwO (xb k.toNat) (fb k.toNat) (ex 64 x) (fr 64 x) ∧ nrV k x = nwA (xb k.toNat) (fb k.toNat) (sg 64 x) (ex 64 x) (fr 64 x) := by
  unfold nrO nrV
  rw [if_pos hk, if_pos hk, if_neg h, if_neg h]
  exact ⟨rfl, rfl⟩
theorem cl_ok {k : Int} {x : Nat} (h : fits k x) : clC k x = cl5 (xb k.toNat) (ex k.toNat x) (fr k.toNat x) := if_pos h

/-- bits that are widened are narrowed to themselves -/
theorem wi_back {k : Int} {b : Nat} (h : fits k b) (hb : b < 18446744073709551616) : wiV k b < 18446744073709551616 ∧ nrO k (wiV k b) = true ∧ nrV k (wiV k b) = b := by
  have hk := h.1
  unfold wOk at hk
  rw [wi_ok h]
  rcases hk with rfl | rfl | rfl
  · have hX := ex_lt (w := 16) (x := b)
    have hM := fr_lt (w := 16) (x := b)
    rw [show (2 : Nat) ^ xb 16 = 32 from rfl] at hX
    rw [show fb 16 = 10 from rfl] at hM
    obtain ⟨a1, a2⟩ := wd16.wide hX hM
    obtain ⟨b1, b2⟩ := wd16.back hX hM (sg 16 b)
    obtain ⟨j1, j2, j3, j4⟩ := jv_parts (S := sg 16 b) (by omega) a2 (X := wX 15 32 10 (ex 16 b) (fr 16 b))
    obtain ⟨n1, n2⟩ := nr_ok (k := 16) (x := wdV 16 b) (by unfold wOk; omega) (by decide)
    rw [show Int.toNat 16 = 16 from rfl, show xb 16 = 5 from rfl, show fb 16 = 10 from rfl] at n1 n2
    rw [show Int.toNat 16 = 16 from rfl, n1, n2, wd_16, j1, j2, j3]
    exact ⟨j4, b1, b2.trans (parts_kv16 (fits16.1 h))⟩
  · have hX := ex_lt (w := 32) (x := b)
    have hM := fr_lt (w := 32) (x := b)
    rw [show (2 : Nat) ^ xb 32 = 256 from rfl] at hX
    rw [show fb 32 = 23 from rfl] at hM
    obtain ⟨a1, a2⟩ := wd32.wide hX hM
    obtain ⟨b1, b2⟩ := wd32.back hX hM (sg 32 b)
    obtain ⟨j1, j2, j3, j4⟩ := jv_parts (S := sg 32 b) (by omega) a2 (X := wX 127 256 23 (ex 32 b) (fr 32 b))
    obtain ⟨n1, n2⟩ := nr_ok (k := 32) (x := wdV 32 b) (by unfold wOk; omega) (by decide)
    rw [show Int.toNat 32 = 32 from rfl, show xb 32 = 8 from rfl, show fb 32 = 23 from rfl] at n1 n2
    rw [show Int.toNat 32 = 32 from rfl, n1, n2, wd_32, j1, j2, j3]
    exact ⟨j4, b1, b2.trans (parts_kv32 (fits32.1 h))⟩
  · rw [show Int.toNat 64 = 64 from rfl, wd_64 hb]
    exact ⟨hb, rfl, rfl⟩
/-- bits that are narrowed are widened to themselves -/
theorem nr_forth {k : Int} {x : Nat} (hk : wOk k) (hx : x < 18446744073709551616) (hO : nrO k x = true) : nrV k x < 18446744073709551616 ∧ fits k (nrV k x) ∧ wiV k (nrV k x) = x ∧ (clC k (nrV k x) = clC 64 x ∨ clC k (nrV k x) = 1 ∧ clC 64 x = 2) := by
  have hX := ex_lt (w := 64) (x := x)
  have hM := fr_lt (w := 64) (x := x)
  rw [show (2 : Nat) ^ xb 64 = 2048 from rfl] at hX
  rw [show (2 : Nat) ^ fb 64 = 4503599627370496 from rfl] at hM
  have hc := cl_ok (fits64 x)
  rw [show Int.toNat 64 = 64 from rfl, show xb 64 = 11 from rfl] at hc
  have hj := parts_jv hx
  unfold wOk at hk
  rcases hk with rfl | rfl | rfl
  · obtain ⟨n1, n2⟩ := nr_ok (k := 16) (x := x) (by unfold wOk; omega) (by decide)
    rw [show Int.toNat 16 = 16 from rfl, show xb 16 = 5 from rfl, show fb 16 = 10 from rfl] at n1 n2
    rw [n1] at hO
    obtain ⟨X, M, x1, x2, x3, x4, x5, x6⟩ := wd16.forth (by omega) hM hO
    obtain ⟨k1, k2, k3, k4⟩ := kv_parts16 (S := sg 64 x) x1 x2
    have hV : nrV 16 x = kv 5 10 (sg 64 x) X M := n2.trans (x3 _)
    rw [hV]
    have hf := fits16.2 k4
    refine ⟨by omega, hf, ?_, ?_⟩
    · rw [wi_ok hf, show Int.toNat 16 = 16 from rfl, wd_16, k1, k2, k3, x4, x5]; exact hj
    · rw [cl_ok hf, hc, show Int.toNat 16 = 16 from rfl, k2, k3]; exact x6
  · obtain ⟨n1, n2⟩ := nr_ok (k := 32) (x := x) (by unfold wOk; omega) (by decide)
    rw [show Int.toNat 32 = 32 from rfl, show xb 32 = 8 from rfl, show fb 32 = 23 from rfl] at n1 n2
    rw [n1] at hO
    obtain ⟨X, M, x1, x2, x3, x4, x5, x6⟩ := wd32.forth (by omega) hM hO
    obtain ⟨k1, k2, k3, k4⟩ := kv_parts32 (S := sg 64 x) x1 x2
    have hV : nrV 32 x = kv 8 23 (sg 64 x) X M := n2.trans (x3 _)
    rw [hV]
    have hf := fits32.2 k4
    refine ⟨by omega, hf, ?_, ?_⟩
    · rw [wi_ok hf, show Int.toNat 32 = 32 from rfl, wd_32, k1, k2, k3, x4, x5]; exact hj
    · rw [cl_ok hf, hc, show Int.toNat 32 = 32 from rfl, k2, k3]; exact x6
  · have hV : nrV 64 x = x := rfl
    rw [hV]
    exact ⟨hx, fits64 x, by rw [wi_ok (fits64 x)]; exact wd_64 hx, .inl rfl⟩

/-! order -/
section
variable {E F B T X M X' M' : Nat}
set_option maxRecDepth 100000 in
theorem Wd.val_lt (h : Wd E F B T) (hX : X < T - 1) (hM : M < 2 ^ F) : wX B T F X M * 4503599627370496 + wM T F X M < (X + 1024 - B) * 4503599627370496 := by
  have hB := h.b
  have hbt := h.bt
  have hF := h.f
  by_cases c2 : 0 < X
  · have hw := (h.wide (X := X) (by omega) hM).2
    have e1 : wX B T F X M = X + 1023 - B := by unfold wX; rw [if_neg (by omega), if_pos c2]
    rw [e1, show X + 1024 - B = X + 1023 - B + 1 by omega, Nat.succ_mul]
    exact Nat.add_lt_add_left hw _
  · obtain rfl : X = 0 := by omega
    by_cases c3 : 0 < M
    · obtain ⟨s1, s2, _⟩ := h.small hM c3
      have hw := (h.wide (X := 0) (by omega) hM).2
      have n3 := nrm_pos s1 s2
      have n4 := h.nrm_le hM c3
      have e1 : wX B T F 0 M = 1024 - B - nrm (M * 2 ^ (52 - F)) := by unfold wX; rw [if_neg (by omega), if_neg c2, if_pos c3]
      rw [e1]
      omega
    · have e1 : wX B T F 0 M = 0 := by unfold wX; rw [if_neg (by omega), if_neg c2, if_neg c3]
      have e2 : wM T F 0 M = 0 := by unfold wM; rw [if_neg (by omega), if_neg c3]
      rw [e1, e2, Nat.zero_mul, Nat.zero_add]
      exact Nat.mul_pos (by omega) (by decide)
set_option maxRecDepth 100000 in
theorem Wd.mono (h : Wd E F B T) (hX' : X' < T) (hM : M < 2 ^ F) (hM' : M' < 2 ^ F) (hi : X' = T - 1 → M' = 0) (hl : X < X' ∨ X = X' ∧ M < M') :
    wX B T F X M * 4503599627370496 + wM T F X M < wX B T F X' M' * 4503599627370496 + wM T F X' M' := by
  have hB := h.b
  have hbt := h.bt
  have hF := h.f
  have hp := Nat.two_pow_pos (52 - F)
  rcases hl with hl | ⟨rfl, hl⟩
  · have h1 := h.val_lt (X := X) (by omega) hM
    have h2 : X' + 1023 - B ≤ wX B T F X' M' := by
      unfold wX
      split
      · omega
      · rw [if_pos (by omega)]; exact Nat.le_refl _
    have h3 : (X + 1024 - B) * 4503599627370496 ≤ wX B T F X' M' * 4503599627370496 := Nat.mul_le_mul_right _ (by omega)
    exact Nat.lt_of_lt_of_le h1 (Nat.le_trans h3 (Nat.le_add_right _ _))
  · have c1 : X ≠ T - 1 := fun h => by have := hi h; omega
    have hN : M * 2 ^ (52 - F) < M' * 2 ^ (52 - F) := Nat.mul_lt_mul_of_pos_right hl hp
    by_cases c2 : 0 < X
    · have e1 : ∀ m, wX B T F X m = X + 1023 - B := fun m => by unfold wX; rw [if_neg c1, if_pos c2]
      have e2 : ∀ m, wM T F X m = m * 2 ^ (52 - F) := fun m => if_pos (.inr c2)
      rw [e1, e1, e2, e2]
      omega
    · obtain rfl : X = 0 := by omega
      have c3' : 0 < M' := by omega
      obtain ⟨s1', s2', _⟩ := h.small hM' c3'
      obtain ⟨m1', m2'⟩ := nrm_hi s1' s2'
      have n4' := h.nrm_le hM' c3'
      have e1' : wX B T F 0 M' = 1024 - B - nrm (M' * 2 ^ (52 - F)) := by unfold wX; rw [if_neg c1, if_neg c2, if_pos c3']
      have e2' : wM T F 0 M' = M' * 2 ^ (52 - F) * 2 ^ nrm (M' * 2 ^ (52 - F)) - 4503599627370496 := by unfold wM; rw [if_neg (by omega), if_pos c3']
      rw [e1', e2']
      by_cases c3 : 0 < M
      · obtain ⟨s1, s2, _⟩ := h.small hM c3
        obtain ⟨m1, m2⟩ := nrm_hi s1 s2
        have n4 := h.nrm_le hM c3
        have e1 : wX B T F 0 M = 1024 - B - nrm (M * 2 ^ (52 - F)) := by unfold wX; rw [if_neg c1, if_neg c2, if_pos c3]
        have e2 : wM T F 0 M = M * 2 ^ (52 - F) * 2 ^ nrm (M * 2 ^ (52 - F)) - 4503599627370496 := by unfold wM; rw [if_neg (by omega), if_pos c3]
        rw [e1, e2]
        obtain ⟨N, hNN⟩ : ∃ N, M * 2 ^ (52 - F) = N := ⟨_, rfl⟩
        obtain ⟨N', hNN'⟩ : ∃ N', M' * 2 ^ (52 - F) = N' := ⟨_, rfl⟩
        rw [hNN] at m1 m2 n4 hN s1 s2 ⊢
        rw [hNN'] at m1' m2' n4' hN s1' s2' ⊢
        have ht : nrm N' ≤ nrm N := by
          rcases Nat.lt_or_ge (nrm N) (nrm N') with h1 | h1
          · have h2 := (nrm_lt s1' s2').1 h1
            have h3 : N * 2 ^ nrm N < N' * 2 ^ nrm N := Nat.mul_lt_mul_of_pos_right hN (Nat.two_pow_pos _)
            omega
          · exact h1
        rcases Nat.lt_or_ge (nrm N') (nrm N) with h1 | h1
        · have h2 : (1024 - B - nrm N + 1) * 4503599627370496 ≤ (1024 - B - nrm N') * 4503599627370496 := Nat.mul_le_mul_right _ (by omega)
          rw [Nat.succ_mul] at h2
          obtain ⟨a, ha⟩ : ∃ a, (1024 - B - nrm N) * 4503599627370496 = a := ⟨_, rfl⟩
          obtain ⟨a', ha'⟩ : ∃ a', (1024 - B - nrm N') * 4503599627370496 = a' := ⟨_, rfl⟩
          rw [ha, ha'] at h2 ⊢
          clear ha ha'
          omega
        · have h2 : nrm N = nrm N' := by omega
          have h3 : N * 2 ^ nrm N < N' * 2 ^ nrm N := Nat.mul_lt_mul_of_pos_right hN (Nat.two_pow_pos _)
          rw [h2] at h3 m1 m2 ⊢
          omega
      · have e1 : wX B T F 0 M = 0 := by unfold wX; rw [if_neg c1, if_neg c2, if_neg c3]
        have e2 : wM T F 0 M = 0 := by unfold wM; rw [if_neg (by omega), if_neg c3]
        rw [e1, e2, Nat.zero_mul, Nat.zero_add]
        exact Nat.lt_of_lt_of_le (Nat.mul_pos (by omega) (by decide)) (Nat.le_add_right _ _)
end
theorem lex16 {x y : Nat} (h : x < y) (hy : y ≤ 31744) : (ex 16 x < ex 16 y ∨ ex 16 x = ex 16 y ∧ fr 16 x < fr 16 y) ∧ (ex 16 y = 31 → fr 16 y = 0) ∧ sg 16 x = false ∧ sg 16 y = false := by
  unfold ex fr sg
  rw [show xb 16 + fb 16 = 15 from rfl, show fb 16 = 10 from rfl, show xb 16 = 5 from rfl, show (2 : Nat) ^ 15 = 32768 by decide, show (2 : Nat) ^ 10 = 1024 by decide, show (2 : Nat) ^ 5 = 32 by decide]
  refine ⟨by omega, by omega, decide_eq_false (by omega), decide_eq_false (by omega)⟩
theorem lex32 {x y : Nat} (h : x < y) (hy : y ≤ 2139095040) : (ex 32 x < ex 32 y ∨ ex 32 x = ex 32 y ∧ fr 32 x < fr 32 y) ∧ (ex 32 y = 255 → fr 32 y = 0) ∧ sg 32 x = false ∧ sg 32 y = false := by
  unfold ex fr sg
  rw [show xb 32 + fb 32 = 31 from rfl, show fb 32 = 23 from rfl, show xb 32 = 8 from rfl, show (2 : Nat) ^ 31 = 2147483648 by decide, show (2 : Nat) ^ 23 = 8388608 by decide, show (2 : Nat) ^ 8 = 256 by decide]
  refine ⟨by omega, by omega, decide_eq_false (by omega), decide_eq_false (by omega)⟩
theorem jv_false (X M : Nat) : jv false X M = X * 4503599627370496 + M := by unfold jv; simp
theorem wi_mono16 {x y : Nat} (h : x < y) (hy : y ≤ 31744) : wiV 16 x < wiV 16 y := by
  obtain ⟨h1, h2, h3, h4⟩ := lex16 h hy
  have e1 := ex_lt (w := 16) (x := y)
  have f1 := fr_lt (w := 16) (x := x)
  have f2 := fr_lt (w := 16) (x := y)
  rw [wi_ok (fits16.2 (by omega)), wi_ok (fits16.2 (by omega)), show Int.toNat 16 = 16 from rfl, wd_16, wd_16, h3, h4, jv_false, jv_false]
  exact wd16.mono e1 f1 f2 h2 h1
theorem wi_mono32 {x y : Nat} (h : x < y) (hy : y ≤ 2139095040) : wiV 32 x < wiV 32 y := by
  obtain ⟨h1, h2, h3, h4⟩ := lex32 h hy
  have e1 := ex_lt (w := 32) (x := y)
  have f1 := fr_lt (w := 32) (x := x)
  have f2 := fr_lt (w := 32) (x := y)
  rw [wi_ok (fits32.2 (by omega)), wi_ok (fits32.2 (by omega)), show Int.toNat 32 = 32 from rfl, wd_32, wd_32, h3, h4, jv_false, jv_false]
  exact wd32.mono e1 f1 f2 h2 h1

/-! whole numbers -/
theorem fi_xa {v : Nat} {neg : Bool} (hv : v ≠ 0) (hO : fiO v = true) (hb : v ≤ 2 ^ 64) :
    ∃ q, xaO (fiV neg v) = true ∧ xaS (fiV neg v) = neg ∧ xaM (fiV neg v) = q ∧ xaE (fiV neg v) = (v.log2 : Int) - 52 ∧ v.log2 ≤ 64 ∧ q * 2 ^ v.log2 = v * 2 ^ 52 ∧ 2 ^ 52 ≤ q ∧ q < 2 ^ 53 ∧ fiV neg v < 18446744073709551616 := by
  have hl : v.log2 ≤ 64 := by
    rcases Nat.lt_or_ge 64 v.log2 with h | h
    · have h1 := Nat.log2_self_le hv
      have h2 : 2 ^ 65 ≤ 2 ^ v.log2 := pow_up h
      omega
    · exact h
  obtain ⟨q, hq⟩ : ∃ q, v * 2 ^ 52 / 2 ^ v.log2 = q := ⟨_, rfl⟩
  have he : q * 2 ^ v.log2 = v * 2 ^ 52 := by rw [← hq]; exact Nat.div_mul_cancel (Nat.dvd_of_mod_eq_zero (of_decide_eq_true hO))
  have hp := Nat.two_pow_pos v.log2
  have q1 : 2 ^ 52 ≤ q := by
    have h1 : 2 ^ v.log2 * 2 ^ 52 ≤ v * 2 ^ 52 := Nat.mul_le_mul_right _ (Nat.log2_self_le hv)
    exact Nat.le_of_mul_le_mul_right (by rw [he, Nat.mul_comm]; exact h1) hp
  have q2 : q < 2 ^ 53 := by
    have h1 : v * 2 ^ 52 < 2 ^ (v.log2 + 1) * 2 ^ 52 := Nat.mul_lt_mul_of_pos_right Nat.lt_log2_self (Nat.two_pow_pos _)
    rw [← he, Nat.pow_succ, Nat.mul_assoc, show 2 * 2 ^ 52 = 2 ^ 53 by decide, Nat.mul_comm] at h1
    exact Nat.lt_of_mul_lt_mul_left h1
  have hV := fi_some (neg := neg) hv hO
  rw [hq, b52] at hV
  rw [b52] at q1
  rw [p53] at q2
  obtain ⟨j1, j2, j3, j4⟩ := jv_parts (S := neg) (X := 1023 + v.log2) (M := q - 4503599627370496) (by omega) (by omega)
  refine ⟨q, ?_, ?_, ?_, ?_, hl, he, by rw [b52]; exact q1, by rw [p53]; exact q2, by rw [hV]; exact j4⟩
  · unfold xaO; rw [hV, j2]; exact decide_eq_true (by omega)
  · unfold xaS; rw [hV, j2, if_neg (by omega)]; exact j1
  · unfold xaM hid52; rw [hV, j2, j3, if_neg (by omega), if_neg (by omega)]; omega
  · unfold xaE; rw [hV, j2, if_neg (by omega), if_neg (by omega)]; omega
theorem xa_zero : xaO 0 = true ∧ xaS 0 = false ∧ xaM 0 = 0 ∧ xaE 0 = -1074 := by decide
/-- a whole number that has bits is that of its bits -/
theorem fi_int {n : Nat} {neg : Bool} (hn : n < 18446744073709551616) (hO : fiO (fiN neg n) = true) : inR (fiV neg (fiN neg n)) = (neg, n, true) := by
  obtain ⟨v, hv⟩ : ∃ v, fiN neg n = v := ⟨_, rfl⟩
  have hv2 : v = n + neg.toNat := hv.symm
  rw [hv] at hO ⊢
  have p64 : (2 : Nat) ^ 64 = 18446744073709551616 := by decide
  by_cases h0 : v = 0
  · subst h0
    have h1 : n = 0 := by omega
    have h2 : neg = false := by
      cases neg
      · rfl
      · rw [Bool.toNat_true] at hv2; omega
    subst h1 h2
    decide
  · have hb : v ≤ 2 ^ 64 := by rw [p64, hv2]; cases neg <;> simp <;> omega
    obtain ⟨q, a1, a2, a3, a4, a5, a6, a7, a8, _⟩ := fi_xa (neg := neg) h0 hO hb
    unfold inR iR hid52
    rw [a1, a2, a3, a4]
    rw [b52] at a7
    rw [if_neg (by simp; omega), if_neg (by omega)]
    obtain ⟨k, hk⟩ : ∃ k, v.log2 = k := ⟨_, rfl⟩
    rw [hk] at a4 a5 a6 ⊢
    have hle : 2 ^ k ≤ v := by rw [← hk]; exact Nat.log2_self_le h0
    by_cases c1 : neg = true ∧ (k : Int) - 52 = 12 ∧ q = 4503599627370496
    · rw [if_pos c1]
      obtain ⟨rfl, c2, rfl⟩ := c1
      obtain rfl : k = 64 := by omega
      rw [b52, p64] at a6
      rw [Bool.toNat_true] at hv2
      rw [show n = 18446744073709551615 by omega]
    · rw [if_neg c1]
      by_cases c2 : 11 < (k : Int) - 52
      · exfalso
        obtain rfl : k = 64 := by omega
        rw [b52, p64] at a6
        rw [p64] at hle hb
        cases neg
        · rw [Bool.toNat_false] at hv2; omega
        · exact c1 ⟨rfl, by omega, by omega⟩
      · rw [if_neg c2]
        by_cases c3 : (0 : Int) ≤ (k : Int) - 52
        · rw [if_pos c3]
          obtain ⟨d, rfl⟩ : ∃ d, k = 52 + d := ⟨k - 52, by omega⟩
          have e1 : (((52 + d : Nat) : Int) - 52).toNat = d := by omega
          have e2 : q * 2 ^ d = v := by
            rw [Nat.pow_add, ← Nat.mul_assoc, Nat.mul_right_comm] at a6
            exact Nat.eq_of_mul_eq_mul_right (Nat.two_pow_pos 52) a6
          rw [e1, e2, hv2, Nat.add_sub_cancel]
        · rw [if_neg c3]
          obtain ⟨d, hd⟩ : ∃ d, 52 = k + d := ⟨52 - k, by omega⟩
          have e1 : min (-((k : Int) - 52)).toNat 64 = d := by omega
          have e2 : q = v * 2 ^ d := by
            have e3 : v * 2 ^ 52 = v * 2 ^ d * 2 ^ k := by rw [Nat.mul_assoc, ← Nat.pow_add, show d + k = 52 by omega]
            rw [e3] at a6
            exact Nat.eq_of_mul_eq_mul_right (Nat.two_pow_pos k) a6
          rw [e1, e2, Nat.mul_mod_left, if_pos rfl, Nat.mul_div_cancel _ (Nat.two_pow_pos d), hv2, Nat.add_sub_cancel]
end Go.Proofs.Ytcndkhgbgjnclaa.nn
/- Plain facts: what compose and convert answer is what the document's Widen, Narrow and FromInt answer. -/
namespace Go.Proofs.Ytcndkhgbgjnclaa.nn

/-- m times 2^e is m' times 2^e' -/
def Sm (m : Nat) (e : Int) (m' : Nat) (e' : Int) : Prop := ∃ a b : Nat, e - (a : Int) = e' - (b : Int) ∧ m * 2 ^ a = m' * 2 ^ b
section
variable {m m' m'' : Nat} {e e' e'' : Int}
theorem Sm.refl (m : Nat) (e : Int) : Sm m e m e := ⟨0, 0, rfl, rfl⟩
theorem Sm.symm (h : Sm m e m' e') : Sm m' e' m e := by
  obtain ⟨a, b, h1, h2⟩ := h
  exact ⟨b, a, h1.symm, h2.symm⟩
theorem Sm.trans (h : Sm m e m' e') (h' : Sm m' e' m'' e'') : Sm m e m'' e'' := by
  obtain ⟨a, b, h1, h2⟩ := h
  obtain ⟨c, d, h3, h4⟩ := h'
  refine ⟨a + c, d + b, by omega, ?_⟩
  rw [Nat.pow_add, Nat.pow_add, ← Nat.mul_assoc, h2, ← Nat.mul_assoc, ← h4, Nat.mul_right_comm]
theorem log2_mul {m a : Nat} (h : 0 < m) : (m * 2 ^ a).log2 = m.log2 + a := by
  have hp := Nat.two_pow_pos a
  have h1 : 2 ^ a ≤ m * 2 ^ a := Nat.le_mul_of_pos_left _ h
  have h2 := log2_div h1
  rw [Nat.mul_div_cancel _ hp] at h2
  have h3 : a ≤ (m * 2 ^ a).log2 := (Nat.le_log2 (by omega)).2 h1
  omega
theorem Sm.pos (h : Sm m e m' e') (h0 : 0 < m) : 0 < m' := by
  obtain ⟨a, b, _, h2⟩ := h
  rcases Nat.eq_zero_or_pos m' with h1 | h1
  · rw [h1, Nat.zero_mul] at h2
    have := Nat.mul_pos h0 (Nat.two_pow_pos a)
    omega
  · exact h1
theorem Sm.log (h : Sm m e m' e') (h0 : 0 < m) : (m.log2 : Int) + e = (m'.log2 : Int) + e' := by
  have hp := h.pos h0
  obtain ⟨a, b, h1, h2⟩ := h
  have l1 := log2_mul (a := a) h0
  have l2 := log2_mul (a := b) hp
  rw [h2, l2] at l1
  omega
/-- m shifted to another unit -/
theorem Sm.shift (h : Sm m e m' e') (hm : m' < 18446744073709551616) : sOk m (e - e') = true ∧ sV m (e - e') = m' := by
  obtain ⟨a, b, h1, h2⟩ := h
  unfold sOk sV
  by_cases hn : e - e' < 0
  · rw [if_pos hn, if_pos hn]
    obtain ⟨d, hd⟩ : ∃ d : Nat, (-(e - e')).toNat = d := ⟨_, rfl⟩
    rw [hd]
    obtain rfl : b = d + a := by omega
    rw [Nat.pow_add, ← Nat.mul_assoc] at h2
    have h3 := Nat.eq_of_mul_eq_mul_right (Nat.two_pow_pos a) h2
    rw [h3]
    exact ⟨decide_eq_true (Nat.mul_mod_left _ _), Nat.mul_div_cancel _ (Nat.two_pow_pos d)⟩
  · rw [if_neg hn, if_neg hn]
    obtain ⟨d, hd⟩ : ∃ d : Nat, (e - e').toNat = d := ⟨_, rfl⟩
    rw [hd]
    obtain rfl : a = d + b := by omega
    rw [Nat.pow_add, ← Nat.mul_assoc] at h2
    have h3 := Nat.eq_of_mul_eq_mul_right (Nat.two_pow_pos b) h2
    rw [h3]
    exact ⟨decide_eq_true hm, Nat.mod_eq_of_lt hm⟩
theorem Sm.of_shift {n : Int} (hO : sOk m n = true) : Sm m e (sV m n) (e - n) := by
  unfold sOk at hO
  unfold sV
  by_cases hn : n < 0
  · rw [if_pos hn] at hO ⊢
    refine ⟨0, (-n).toNat, by omega, ?_⟩
    rw [Nat.pow_zero, Nat.mul_one, Nat.div_mul_cancel (Nat.dvd_of_mod_eq_zero (of_decide_eq_true hO))]
  · rw [if_neg hn] at hO ⊢
    refine ⟨n.toNat, 0, by omega, ?_⟩
    rw [Nat.mod_eq_of_lt (of_decide_eq_true hO), Nat.pow_zero, Nat.mul_one]
end
section
variable {k m X M : Nat} {e : Int}
theorem log2_eq {m F : Nat} (h1 : 2 ^ F ≤ m) (h2 : m < 2 ^ (F + 1)) : m.log2 = F := by
  have hp := Nat.two_pow_pos F
  have h3 : F ≤ m.log2 := (Nat.le_log2 (by omega)).2 h1
  have h4 : m.log2 < F + 1 := (Nat.log2_lt (by omega)).2 h2
  omega
/-- what a shape has is found -/
theorem compose_yes (hk : kOk k) (h0 : 0 < m) (hX : X < onz k) (hM : M < hdn k) (h : Sm m e (aM k X M) (aE k X)) : cmO k m e = true ∧ ∀ neg, cmV k neg m e = kv (xb k) (fb k) neg X M := by
  have hf := hk.facts
  have hbt := hk.bt
  have hH : hdn k = 2 ^ fb k := rfl
  have hH2 : 2 ^ (fb k + 1) = 2 * hdn k := by rw [hH, Nat.pow_succ, Nat.mul_comm]
  have hlog := h.log h0
  have hpos := h.pos h0
  have hlt := aM_lt (X := X) hk hM
  have hsh := h.shift (by omega)
  have hu : unt k m e = aE k X ∧ (m.log2 : Int) + e ≤ (bia k : Int) ∧ (0 < X → ((m.log2 : Int) + e + (bia k : Int)).toNat = X) := by
    unfold unt
    rw [hlog]
    by_cases h1 : X = 0
    · subst h1
      have e1 : aM k 0 M = M := if_pos rfl
      have e2 : aE k 0 = 1 - (bia k : Int) - (fb k : Int) := if_pos rfl
      rw [e1] at hpos
      rw [e1, e2]
      have h2 : M.log2 < fb k := (Nat.log2_lt (by omega)).2 hM
      omega
    · have e1 : aM k X M = M + hdn k := if_neg h1
      have e2 : aE k X = (X : Int) - (bia k : Int) - (fb k : Int) := if_neg h1
      rw [e1, e2, log2_eq (F := fb k) (by omega) (by omega)]
      omega
  obtain ⟨u1, u2, u3⟩ := hu
  have hO : cmO k m e = true := by
    unfold cmO
    rw [if_neg (by omega), u1, hsh.1, decide_eq_true u2]
    rfl
  have hU : cmU k m e = aM k X M := by unfold cmU; rw [u1, hsh.2]
  refine ⟨hO, fun neg => ?_⟩
  unfold cmV
  rw [hO, if_pos rfl, if_neg (by omega), hU]
  by_cases h1 : X = 0
  · subst h1
    rw [show aM k 0 M = M from if_pos rfl, if_pos hM]
  · rw [show aM k X M = M + hdn k from if_neg h1, if_neg (by omega), u3 (by omega), Nat.add_sub_cancel]
/-- what is found, a shape has -/
theorem compose_has (hk : kOk k) (h0 : 0 < m) (hO : cmO k m e = true) : ∃ X M, X < onz k ∧ M < hdn k ∧ Sm m e (aM k X M) (aE k X) := by
  have hbt := hk.bt
  have hH : hdn k = 2 ^ fb k := rfl
  have hH2 : 2 ^ (fb k + 1) = 2 * hdn k := by rw [hH, Nat.pow_succ, Nat.mul_comm]
  unfold cmO at hO
  rw [if_neg (by omega), Bool.and_eq_true] at hO
  obtain ⟨h1, h2⟩ := hO
  have h1 := of_decide_eq_true h1
  have h3 := Sm.of_shift (m := m) (e := e) h2
  rw [show sV m (e - unt k m e) = cmU k m e from rfl, show e - (e - unt k m e) = unt k m e by omega] at h3
  have hl := cmU_lt (k := k) (e := e) h0
  by_cases c : 1 - (bia k : Int) ≤ (m.log2 : Int) + e
  · have h4 := cmU_high h0 c h2
    refine ⟨((m.log2 : Int) + e + (bia k : Int)).toNat, cmU k m e - hdn k, by omega, by omega, ?_⟩
    have e1 : ((m.log2 : Int) + e + (bia k : Int)).toNat ≠ 0 := by omega
    rw [show aM k ((m.log2 : Int) + e + (bia k : Int)).toNat (cmU k m e - hdn k) = cmU k m e - hdn k + hdn k from if_neg e1, show aE k ((m.log2 : Int) + e + (bia k : Int)).toNat = _ from if_neg e1, Nat.sub_add_cancel (by omega)]
    rw [show ((((m.log2 : Int) + e + (bia k : Int)).toNat : Nat) : Int) - (bia k : Int) - (fb k : Int) = unt k m e by unfold unt; omega]
    exact h3
  · have h4 := cmU_low h0 (show (m.log2 : Int) + e < 1 - (bia k : Int) by omega)
    refine ⟨0, cmU k m e, by omega, h4, ?_⟩
    rw [show aM k 0 (cmU k m e) = cmU k m e from if_pos rfl, show aE k 0 = _ from if_pos rfl, show 1 - (bia k : Int) - (fb k : Int) = unt k m e by unfold unt; omega]
    exact h3
end
theorem kv_jv (S : Bool) (X M : Nat) : kv (xb 64) (fb 64) S X M = jv S X M := by
  unfold kv jv
  rw [show xb 64 = 11 from rfl, show fb 64 = 52 from rfl, show 11 + 52 = 63 from rfl, show (2 : Nat) ^ 63 = 9223372036854775808 by decide, b52]
theorem k64 : kOk 64 := .inr (.inr rfl)
/-- the width's parts of a shape -/
theorem kOk.wd {k : Nat} (h : kOk k) (hn : k ≠ 64) : Wd (xb k) (fb k) (bia k) (onz k + 1) := by
  rcases h with rfl | rfl | rfl
  · exact wd16
  · exact wd32
  · exact absurd rfl hn
/-- the wider parts are the same number -/
theorem wide_same {k X M : Nat} (hk : kOk k) (hn : k ≠ 64) (hX : X < onz k) (hM : M < hdn k) :
    Sm (aM k X M) (aE k X) (aM 64 (wX (bia k) (onz k + 1) (fb k) X M) (wM (onz k + 1) (fb k) X M)) (aE 64 (wX (bia k) (onz k + 1) (fb k) X M)) ∧ wX (bia k) (onz k + 1) (fb k) X M < 2047 ∧ wM (onz k + 1) (fb k) X M < 4503599627370496 := by
  have hw := hk.wd hn
  have hF := hw.f
  have hB := hw.b
  have hbt := hk.bt
  have hH : hdn k = 2 ^ fb k := rfl
  have e64 : hdn 64 = 4503599627370496 := by decide
  have c1 : X ≠ onz k + 1 - 1 := by omega
  by_cases c2 : 0 < X
  · have e1 : wX (bia k) (onz k + 1) (fb k) X M = X + 1023 - bia k := by unfold wX; rw [if_neg c1, if_pos c2]
    have e2 : wM (onz k + 1) (fb k) X M = M * 2 ^ (52 - fb k) := if_pos (.inr c2)
    have hwd := hw.wide (X := X) (M := M) (by omega) hM
    refine ⟨?_, by omega, hwd.2⟩
    rw [e1, e2, show aM k X M = M + hdn k from if_neg (by omega), show aE k X = _ from if_neg (by omega), show aM 64 (X + 1023 - bia k) (M * 2 ^ (52 - fb k)) = _ from if_neg (by omega), show aE 64 (X + 1023 - bia k) = _ from if_neg (by omega)]
    refine ⟨52 - fb k, 0, by rw [show bia 64 = 1023 from rfl, show fb 64 = 52 from rfl]; omega, ?_⟩
    rw [Nat.pow_zero, Nat.mul_one, Nat.add_mul, hH, ← Nat.pow_add, show fb k + (52 - fb k) = 52 by omega]
    rfl
  · obtain rfl : X = 0 := by omega
    by_cases c3 : 0 < M
    · obtain ⟨s1, s2, _⟩ := hw.small hM c3
      obtain ⟨n1, n2⟩ := nrm_hi s1 s2
      have n3 := nrm_pos s1 s2
      have n4 := hw.nrm_le hM c3
      have e1 : wX (bia k) (onz k + 1) (fb k) 0 M = 1024 - bia k - nrm (M * 2 ^ (52 - fb k)) := by unfold wX; rw [if_neg c1, if_neg c2, if_pos c3]
      have e2 : wM (onz k + 1) (fb k) 0 M = M * 2 ^ (52 - fb k) * 2 ^ nrm (M * 2 ^ (52 - fb k)) - 4503599627370496 := by unfold wM; rw [if_neg (by omega), if_pos c3]
      rw [e1, e2]
      obtain ⟨t, ht⟩ : ∃ t, nrm (M * 2 ^ (52 - fb k)) = t := ⟨_, rfl⟩
      rw [ht] at n1 n2 n3 n4 ⊢
      refine ⟨?_, by omega, by omega⟩
      rw [show aM k 0 M = M from if_pos rfl, show aE k 0 = _ from if_pos rfl, show aM 64 (1024 - bia k - t) (M * 2 ^ (52 - fb k) * 2 ^ t - 4503599627370496) = _ from if_neg (by omega), show aE 64 (1024 - bia k - t) = _ from if_neg (by omega), e64]
      refine ⟨52 - fb k + t, 0, by rw [show bia 64 = 1023 from rfl, show fb 64 = 52 from rfl]; omega, ?_⟩
      rw [Nat.pow_zero, Nat.mul_one, Nat.sub_add_cancel n2, Nat.pow_add, ← Nat.mul_assoc]
    · obtain rfl : M = 0 := by omega
      have e1 : wX (bia k) (onz k + 1) (fb k) 0 0 = 0 := by unfold wX; rw [if_neg c1, if_neg c2, if_neg c2]
      have e2 : wM (onz k + 1) (fb k) 0 0 = 0 := by unfold wM; rw [if_neg (by omega), if_neg c2]
      rw [e1, e2]
      refine ⟨?_, by omega, by omega⟩
      rw [show aM k 0 0 = 0 from if_pos rfl, show aE k 0 = _ from if_pos rfl, show aM 64 0 0 = 0 from if_pos rfl, show aE 64 0 = -1074 from rfl]
      exact ⟨1075 - bia k - fb k, 0, by omega, by rw [Nat.zero_mul, Nat.zero_mul]⟩
/-- compose of nothing -/
theorem compose_none {k : Nat} {neg : Bool} {e : Int} : cmO k 0 e = true ∧ cmV k neg 0 e = kv (xb k) (fb k) neg 0 0 := by
  have e1 : cmO k 0 e = true := if_pos rfl
  exact ⟨e1, by unfold cmV; rw [e1, if_pos rfl, if_pos rfl]⟩
theorem aM_zero {k X M : Nat} (hk : kOk k) (h : aM k X M = 0) : X = 0 ∧ M = 0 := by
  have := hk.facts
  unfold aM at h
  split at h
  · exact ⟨by assumption, h⟩
  · omega
theorem one_way {X M X' M' : Nat} (h1 : X < 2047) (h2 : M < 4503599627370496) (h3 : X' < 2047) (h4 : M' < 4503599627370496) (h : Sm (aM 64 X M) (aE 64 X) (aM 64 X' M') (aE 64 X')) (h0 : 0 < aM 64 X M) : X = X' ∧ M = M' := by
  have a := (compose_yes k64 h0 h1 h2 (Sm.refl _ _)).2 false
  have b := (compose_yes k64 h0 h3 h4 h).2 false
  rw [a, kv_jv, kv_jv] at b
  have p1 := jv_parts (S := false) (X := X) (M := M) (by omega) h2
  have p2 := jv_parts (S := false) (X := X') (M := M') (by omega) h4
  rw [b] at p1
  exact ⟨p1.2.1.symm.trans p2.2.1, p1.2.2.1.symm.trans p2.2.2.1⟩
end Go.Proofs.Ytcndkhgbgjnclaa.nn
/- Plain facts: the real convert against the document's Widen and Narrow; compose against FromInt. -/
namespace Go.Proofs.Ytcndkhgbgjnclaa.nn

theorem widen_num {k x : Nat} (hk : kOk k) (hx : x < lim k) : cvO k 64 x = true ∧ cvV k 64 x = wdV k x := by
  have h2 : fr k x < hdn k := fr_lt (w := k) (x := x)
  have h1 := ex_lt (w := k) (x := x)
  have h3 : ex k x ≤ onz k := by unfold onz; omega
  have hf := hk.facts
  by_cases hn : k = 64
  · subst hn
    have hx' : x < 18446744073709551616 := hx
    rw [wd_64 hx']
    have hp := parts_jv hx'
    by_cases hi : ex 64 x = onz 64
    · have hz : Sm (fr 64 x) 0 (fr 64 x) 0 := Sm.refl _ _
      have hs := hz.shift (by omega)
      rw [show (0 : Int) - 0 = (fb 64 : Int) - (fb 64 : Int) by omega] at hs
      have e1 : cvO 64 64 x = true := by unfold cvO; rw [if_pos hi]; exact hs.1
      refine ⟨e1, ?_⟩
      unfold cvV
      rw [if_pos hi, e1, if_pos rfl, kv_jv, hs.2, ← hi]
      exact hp
    · unfold cvO cvV
      rw [if_neg hi, if_neg hi]
      rcases Nat.eq_zero_or_pos (aM 64 (ex 64 x) (fr 64 x)) with h0 | h0
      · obtain ⟨z1, z2⟩ := aM_zero hk h0
        rw [h0]
        refine ⟨(compose_none (neg := false)).1, ?_⟩
        rw [compose_none.2, kv_jv]
        rw [z1, z2] at hp
        exact hp
      · have hy := compose_yes hk h0 (by omega) h2 (Sm.refl _ _)
        refine ⟨hy.1, ?_⟩
        rw [hy.2, kv_jv]
        exact hp
  · have hw := hk.wd hn
    have hF := hw.f
    have hwd : wdV k x = jv (sg k x) (wX (bia k) (onz k + 1) (fb k) (ex k x) (fr k x)) (wM (onz k + 1) (fb k) (ex k x) (fr k x)) := by
      rcases hk with rfl | rfl | rfl
      · exact wd_16 x
      · exact wd_32 x
      · exact absurd rfl hn
    rw [hwd]
    by_cases hi : ex k x = onz k
    · have hl : fr k x * 2 ^ (52 - fb k) < 4503599627370496 := by
        rw [← b52, show 52 = fb k + (52 - fb k) by omega, Nat.pow_add, show fb k + (52 - fb k) - fb k = 52 - fb k by omega]
        exact Nat.mul_lt_mul_of_pos_right h2 (Nat.two_pow_pos _)
      have hz : Sm (fr k x) ((fb 64 : Int) - (fb k : Int)) (fr k x * 2 ^ (52 - fb k)) 0 := ⟨52 - fb k, 0, by rw [show fb 64 = 52 from rfl]; omega, by rw [Nat.pow_zero, Nat.mul_one]⟩
      have hs := hz.shift (by omega)
      rw [Int.sub_zero] at hs
      have e1 : cvO k 64 x = true := by unfold cvO; rw [if_pos hi]; exact hs.1
      refine ⟨e1, ?_⟩
      unfold cvV
      rw [if_pos hi, e1, if_pos rfl, kv_jv, hs.2]
      unfold wX wM
      rw [if_pos (by omega), if_pos (by omega)]
      rfl
    · obtain ⟨s1, s2, s3⟩ := wide_same hk hn (show ex k x < onz k by omega) h2
      unfold cvO cvV
      rw [if_neg hi, if_neg hi]
      rcases Nat.eq_zero_or_pos (aM k (ex k x) (fr k x)) with h0 | h0
      · obtain ⟨z1, z2⟩ := aM_zero hk h0
        rw [h0]
        refine ⟨(compose_none (neg := false)).1, ?_⟩
        rw [compose_none.2, kv_jv, z1, z2]
        unfold wX wM
        rw [if_neg (by omega), if_neg (by omega), if_neg (by omega), if_neg (by omega), if_neg (by omega)]
      · have hy := compose_yes k64 h0 s2 s3 s1
        refine ⟨hy.1, ?_⟩
        rw [hy.2, kv_jv]
theorem narrow_fin {j X' M' : Nat} (hj : kOk j) (hn : j ≠ 64) (hX : X' < 2047) (hM : M' < 4503599627370496) (S : Bool) :
    cmO j (aM 64 X' M') (aE 64 X') = nwO (xb j) (fb j) X' M' ∧ cmV j S (aM 64 X' M') (aE 64 X') = nwA (xb j) (fb j) S X' M' := by
  have hw := hj.wd hn
  have hbt := hj.bt
  rcases Nat.eq_zero_or_pos (aM 64 X' M') with h0 | h0
  · obtain ⟨rfl, rfl⟩ := aM_zero k64 h0
    rw [h0]
    have e1 : nwO (xb j) (fb j) 0 0 = true := by unfold nwO; dsimp only; rw [if_pos rfl]; rfl
    rw [e1, (compose_none (neg := false)).1, compose_none.2]
    refine ⟨rfl, ?_⟩
    unfold nwA nwV kv
    dsimp only
    rw [e1, if_pos rfl, if_pos rfl, Nat.zero_mul]
  · cases hO : nwO (xb j) (fb j) X' M' with
    | true =>
      obtain ⟨X, M, a1, a2, a3, a4, a5, _⟩ := hw.forth (by omega) hM hO
      have hX1 : X < onz j := by
        rcases Nat.lt_or_ge X (onz j) with h | h
        · exact h
        · have : X = onz j + 1 - 1 := by omega
          unfold wX at a4
          rw [if_pos this] at a4
          omega
      obtain ⟨s1, _, _⟩ := wide_same hj hn hX1 a2
      rw [a4, a5] at s1
      have hy := compose_yes hj h0 hX1 a2 s1.symm
      exact ⟨hy.1, by rw [hy.2, a3]⟩
    | false =>
      have hc : cmO j (aM 64 X' M') (aE 64 X') = false := by
        cases h : cmO j (aM 64 X' M') (aE 64 X') with
        | false => rfl
        | true =>
          obtain ⟨X, M, a1, a2, a3⟩ := compose_has hj h0 h
          obtain ⟨s1, s2, s3⟩ := wide_same hj hn a1 a2
          obtain ⟨w1, w2⟩ := one_way hX hM s2 s3 (a3.trans s1) h0
          have hb := (hw.back (X := X) (M := M) (by omega) a2 false).1
          rw [← w1, ← w2, hO] at hb
          exact absurd hb (by decide)
      refine ⟨hc, ?_⟩
      unfold cmV nwA
      rw [hc, hO]
      rfl
theorem narrow_num {j x : Nat} (hj : kOk j) (hx : x < 18446744073709551616) : cvO 64 j x = nrO (j : Int) x ∧ cvV 64 j x = nrV (j : Int) x := by
  by_cases hn : j = 64
  · subst hn
    have h := widen_num k64 (show x < lim 64 from hx)
    rw [wd_64 hx] at h
    exact h
  · have hok : wOk (j : Int) := by
      rcases hj with rfl | rfl | rfl
      · exact .inl rfl
      · exact .inr (.inl rfl)
      · exact .inr (.inr rfl)
    have hr := nr_ok (x := x) hok (by omega)
    rw [Int.toNat_natCast] at hr
    rw [hr.1, hr.2]
    have h1 := ex_lt (w := 64) (x := x)
    have h2 := fr_lt (w := 64) (x := x)
    rw [show 2 ^ xb 64 = 2048 from rfl] at h1
    rw [show 2 ^ fb 64 = 4503599627370496 from rfl] at h2
    by_cases hi : ex 64 x = onz 64
    · have hi' : ex 64 x = 2047 := hi
      have hF := (hj.wd hn).f
      obtain ⟨d, hd⟩ : ∃ d : Nat, 52 - fb j = d := ⟨_, rfl⟩
      have hneg : (fb j : Int) - (fb 64 : Int) = -(d : Int) := by rw [show fb 64 = 52 from rfl]; omega
      have e0 : sOk (fr 64 x) ((fb j : Int) - (fb 64 : Int)) = shOk (fr 64 x) d := by
        rw [hneg]; unfold sOk shOk
        rw [if_pos (by omega), show (-(-(d : Int))).toNat = d by omega]
      have e2 : nwO (xb j) (fb j) (ex 64 x) (fr 64 x) = shOk (fr 64 x) d := by
        unfold nwO; dsimp only
        rw [if_neg (by omega), if_pos hi', hd]
      have e1 : cvO 64 j x = shOk (fr 64 x) d := by unfold cvO; rw [if_pos hi, e0]
      refine ⟨e1.trans e2.symm, ?_⟩
      unfold cvV nwA
      rw [if_pos hi, e1, e2]
      cases hO : shOk (fr 64 x) d with
      | false => rfl
      | true =>
        rw [if_pos rfl, if_pos rfl]
        have e3 : sV (fr 64 x) ((fb j : Int) - (fb 64 : Int)) = shV (fr 64 x) d := by
          rw [hneg]; unfold sV shV
          rw [if_pos (by omega), show (-(-(d : Int))).toNat = d by omega, if_pos (of_decide_eq_true hO)]
        rw [e3]
        unfold kv nwV
        dsimp only
        rw [if_neg (show ¬ ex 64 x = 0 by omega), if_pos hi', hd, Nat.add_assoc]
        rfl
    · have hi' : ex 64 x ≠ 2047 := hi
      unfold cvO cvV
      rw [if_neg hi, if_neg hi]
      exact narrow_fin hj hn (by omega) h2 _
theorem fromInt_num {v : Nat} (neg : Bool) (hv : 0 < v) (hb : v < 18446744073709551616) : cmO 64 v 0 = fiO v ∧ cmV 64 neg v 0 = fiV neg v := by
  have hv0 : v ≠ 0 := by omega
  have hL : v.log2 < 64 := (Nat.log2_lt hv0).2 (by rw [p64]; exact hb)
  cases hO : fiO v with
  | true =>
    obtain ⟨q, _, _, _, _, _, a6, a7, a8, _⟩ := fi_xa (neg := neg) hv0 hO (by rw [p64]; omega)
    rw [b52] at a7
    rw [p53] at a8
    have hs : Sm v 0 (aM 64 (1023 + v.log2) (q - 4503599627370496)) (aE 64 (1023 + v.log2)) := by
      rw [show aM 64 (1023 + v.log2) (q - 4503599627370496) = _ from if_neg (by omega), show aE 64 (1023 + v.log2) = _ from if_neg (by omega), show hdn 64 = 4503599627370496 by decide, Nat.sub_add_cancel a7]
      exact ⟨52, v.log2, by rw [show bia 64 = 1023 from rfl, show fb 64 = 52 from rfl]; omega, a6.symm⟩
    have hy := compose_yes k64 hv (show 1023 + v.log2 < onz 64 by rw [show onz 64 = 2047 by decide]; omega) (show q - 4503599627370496 < hdn 64 by rw [show hdn 64 = 4503599627370496 by decide]; omega) hs
    refine ⟨hy.1, ?_⟩
    have hq : v * 2 ^ 52 / 2 ^ v.log2 = q := by rw [← a6, Nat.mul_div_cancel _ (Nat.two_pow_pos _)]
    rw [hy.2, kv_jv, fi_some hv0 hO, hq, b52]
  | false =>
    have hc : cmO 64 v 0 = false := by
      cases h : cmO 64 v 0 with
      | false => rfl
      | true =>
        obtain ⟨X, M, a1, a2, a, b, a3, a4⟩ := compose_has k64 hv h
        have hd : hdn 64 = 2 ^ 52 := by decide
        rw [hd] at a2
        by_cases hX : X = 0
        · subst hX
          rw [show aM 64 0 M = M from if_pos rfl] at a4
          rw [show aE 64 0 = -1074 from rfl] at a3
          obtain ⟨c, hc, rfl⟩ : ∃ c, 52 ≤ c ∧ a = c + b := ⟨1074, by omega, by omega⟩
          rw [Nat.pow_add, ← Nat.mul_assoc] at a4
          have a5 := Nat.eq_of_mul_eq_mul_right (Nat.two_pow_pos b) a4
          have a6 : 1 * 2 ^ c ≤ v * 2 ^ c := Nat.mul_le_mul_right _ hv
          have a7 : (2 : Nat) ^ 52 ≤ 2 ^ c := Nat.pow_le_pow_right (by decide) hc
          rw [Nat.one_mul] at a6
          rw [a5] at a6
          exact absurd a2 (Nat.not_lt.2 (Nat.le_trans a7 a6))
        · rw [show aM 64 X M = M + hdn 64 from if_neg hX, hd] at a4
          rw [show aE 64 X = (X : Int) - (bia 64 : Int) - (fb 64 : Int) from if_neg hX] at a3
          by_cases hab : a ≤ b
          · obtain ⟨t, rfl⟩ : ∃ t, b = t + a := ⟨b - a, by omega⟩
            rw [Nat.pow_add, ← Nat.mul_assoc] at a4
            have a5 := Nat.eq_of_mul_eq_mul_right (Nat.two_pow_pos a) a4
            have := (fi_up a5 (Nat.le_add_left _ _) (by rw [p53]; rw [b52] at a2 ⊢; omega)).1
            rw [hO] at this
            exact absurd this (by decide)
          · obtain ⟨t, rfl⟩ : ∃ t, a = t + b := ⟨a - b, by omega⟩
            rw [Nat.pow_add, ← Nat.mul_assoc] at a4
            have a5 := Nat.eq_of_mul_eq_mul_right (Nat.two_pow_pos b) a4
            have := (fi_down a5.symm (Nat.le_add_left _ _) (by rw [p53]; rw [b52] at a2 ⊢; omega)).1
            rw [hO] at this
            exact absurd this (by decide)
    refine ⟨hc, ?_⟩
    unfold cmV
    rw [hc, fi_none hv0 hO]
    rfl
end Go.Proofs.Ytcndkhgbgjnclaa.nn
/- The contracts of the real fbits: Widen, Narrow, Exact, FromInt. -/
namespace Go.Proofs.Ytcndkhgbgjnclaa.nn
open Go.RowKit

end Go.Proofs.Ytcndkhgbgjnclaa.nn
/- The contracts of the real fbits: Exact, FromInt, Int. -/
namespace Go.Proofs.Ytcndkhgbgjnclaa.nn
open Go.RowKit

theorem xa_amount (x : Nat) (h : ex 64 x ≠ 2047) : xaO x = true ∧ xaS x = sg 64 x ∧ xaM x = aM 64 (ex 64 x) (fr 64 x) ∧ xaE x = aE 64 (ex 64 x) := by
  unfold xaO xaS xaM xaE aM aE
  rw [if_neg h, if_neg h, if_neg h, decide_eq_true h]
  refine ⟨rfl, rfl, ?_, ?_⟩
  · by_cases h0 : ex 64 x = 0
    · rw [if_pos h0, if_pos h0]
    · rw [if_neg h0, if_neg h0]
      rfl
  · by_cases h0 : ex 64 x = 0
    · rw [if_pos h0, if_pos h0]
      rfl
    · rw [if_neg h0, if_neg h0, show bia 64 = 1023 from rfl, show fb 64 = 52 from rfl]
      omega
theorem xa_none (x : Nat) (h : ex 64 x = 2047) : xaO x = false ∧ xaS x = false ∧ xaM x = 0 ∧ xaE x = 0 := by
  unfold xaO xaS xaM xaE
  rw [if_pos h, if_pos h, if_pos h, decide_eq_false (by simp [h])]
  exact ⟨rfl, rfl, rfl, rfl⟩
/-! FromInt -/
set_option maxRecDepth 100000 in
set_option maxHeartbeats 1000000 in
theorem fromInt_walk (neg : Bool) (n v r : Nat) (O : Bool) (w : World) (hv : (v : Int) = (n : Int) + (if neg then 1 else 0)) (hv2 : v < 18446744073709551616)
    (HC : Hid (∀ W, Calls Try.prog 14 #[sv 64, .bool neg, .int .u64 (v : Int), .int .i64 0] W fun y w' => y = .returned (.tuple #[.int .u64 (r : Int), .bool O]) ∧ Below W.heap.size W w')) :
    Calls Try.prog 8 #[.bool neg, .int .u64 (n : Int)] w fun e W' => e = .returned (.tuple #[.int .u64 (r : Int), .bool O]) ∧ Below w.heap.size w W' := by
  have HW := Lib.hid (fun W => widest_any W)
  rw [show sv 64 = .agg #[.int .i64 64, .int .i64 11, .int .i64 52] from rfl] at HW HC
  cases neg with
  | false =>
    rw [if_neg (by decide), Int.add_zero] at hv
    rw [hv] at HC
    clear hv
    go_enter Try.func8, Try.ntmps8
    go_wp2_with fail
    with_reducible refine (HW.out _).mono ?_
    rintro r1 w1 ⟨rfl, hb⟩
    have H1 := Lib.hid hb
    clear hb
    go_wp2_with fail
    with_reducible refine (HC.out _).mono ?_
    rintro r1 w2 ⟨rfl, hb⟩
    have H2 := Lib.hid hb
    clear hb
    go_wp2_with fail
    go_ret2
    exact ⟨rfl, H1.out.trans (H2.out.mono H1.out.size)⟩
  | true =>
    rw [if_pos rfl] at hv
    rw [hv] at HC
    have q1 : ((n : Int) == 18446744073709551615) = false := by simp; omega
    have hn : (n : Int) < 18446744073709551615 := by omega
    clear hv
    go_enter Try.func8, Try.ntmps8
    go_wp2_with fail
    with_reducible refine (HW.out _).mono ?_
    rintro r1 w1 ⟨rfl, hb⟩
    have H1 := Lib.hid hb
    clear hb
    go_wp2_with fail
    with_reducible refine (HC.out _).mono ?_
    rintro r1 w2 ⟨rfl, hb⟩
    have H2 := Lib.hid hb
    clear hb
    go_wp2_with fail
    go_ret2
    exact ⟨rfl, H1.out.trans (H2.out.mono H1.out.size)⟩
theorem jv_least : jv true 1087 0 = 14118784831806504960 := by decide
set_option maxRecDepth 100000 in
theorem fromInt_top (n : Nat) (w : World) (h : n = 18446744073709551615) : Calls Try.prog 8 #[.bool true, .int .u64 (n : Int)] w fun e W' => e = .returned (.tuple #[.int .u64 14118784831806504960, .bool true]) ∧ w = W' := by
  have q1 : ((n : Int) == 18446744073709551615) = true := by simp; omega
  clear h
  go_enter Try.func8, Try.ntmps8
  go_wp2_with fail
  go_ret2
  exact ⟨rfl, rfl⟩
theorem ffromInt_any (neg : Bool) (n : Nat) (w : World) (hn : n < 18446744073709551616) :
    Calls Try.prog 8 #[.bool neg, .int .u64 (n : Int)] w fun e W' => e = .returned (.tuple #[.int .u64 (fiV neg (fiN neg n) : Int), .bool (fiO (fiN neg n))]) ∧ Below w.heap.size w W' := by
  by_cases ht : neg = true ∧ n = 18446744073709551615
  · obtain ⟨rfl, rfl⟩ := ht
    have e1 : fiN true 18446744073709551615 = 2 ^ 64 := by rw [p64]; rfl
    rw [e1, fi_big.1, fi_big.2, jv_least]
    refine (fromInt_top _ w rfl).mono ?_
    rintro e W' ⟨rfl, rfl⟩
    exact ⟨rfl, Below.refl _ _⟩
  · have hv : fiN neg n < 18446744073709551616 := by
      unfold fiN
      cases neg
      · exact hn
      · rw [Bool.toNat_true]
        have : n ≠ 18446744073709551615 := fun h => ht ⟨rfl, h⟩
        omega
    have hv1 : ((fiN neg n : Nat) : Int) = (n : Int) + (if neg then 1 else 0) := by unfold fiN; cases neg <;> simp
    refine fromInt_walk neg n (fiN neg n) _ _ w hv1 hv (Lib.hid fun W => ?_)
    have h := compose_any 64 neg (fiN neg n) 0 W k64 hv (by decide) (by decide)
    by_cases h0 : fiN neg n = 0
    · have hneg : neg = false := by
        cases neg
        · rfl
        · unfold fiN at h0; rw [Bool.toNat_true] at h0; omega
      subst hneg
      rw [h0] at h ⊢
      rw [(compose_none (neg := false)).1, (compose_none (neg := false)).2, kv_jv] at h
      rw [fi_zero.1, fi_zero.2]
      exact h
    · have hq := fromInt_num neg (show 0 < fiN neg n by omega) hv
      rw [hq.1, hq.2] at h
      exact h
end Go.Proofs.Ytcndkhgbgjnclaa.nn
/- The real fdec: nearest. -/
namespace Go.Proofs.Ytcndkhgbgjnclaa.nn
open Go.RowKit

/-- the bits of what is infinite -/
def inf : Nat := 2047 * h52
theorem inf_eq : inf = 9218868437227405312 := by decide
theorem cl_inf {x : Nat} (hx : x ≤ inf) : (x = inf → clC 64 x = 3) ∧ (x < inf → (clC 64 x : Int) ≠ 3) ∧ clC 64 x < 5 := by
  have e1 : clC 64 x = cls 64 (ex 64 x) (fr 64 x) := by unfold clC; rw [if_pos (fits64 x)]; rfl
  rw [inf_eq] at *
  have e2 : ex 64 x = x / 4503599627370496 % 2048 := rfl
  have e3 : fr 64 x = x % 4503599627370496 := rfl
  rw [e1]
  unfold cls
  rw [show (2 : Nat) ^ xb 64 - 1 = 2047 from rfl]
  refine ⟨fun h => ?_, fun h => ?_, ?_⟩
  · rw [if_pos (by omega), if_pos (by omega)]
  · rw [if_neg (by omega)]
    split
    · decide
    · split <;> decide
  · split
    · split <;> decide
    · split
      · decide
      · split <;> decide

theorem unit_of {X Y : Nat} {h u : Int} (hY : 0 < Y) (hh : HiIs X Y h) (hu : max (h - 52) (-1074) = u) : Unit X Y u := by
  rcases hh with ⟨h0, h1⟩ | ⟨_, h1, h2⟩
  · have hu' : u = -1074 := by omega
    refine ⟨by omega, .inl hu', fun g => ?_⟩
    unfold ge2 at g
    rw [h0, Nat.zero_mul] at g
    have := Nat.mul_pos hY (Nat.two_pow_pos (u + 53).toNat)
    omega
  · refine ⟨by omega, ?_, fun g => h2 (ge2_anti (by omega) g)⟩
    by_cases c : u = -1074
    · exact .inl c
    · exact .inr (by rw [show u + 52 = h by omega]; exact h1)
def neV (b : Nat) : Nat := if b < inf then b else 0
def NeAns (X Y : Nat) (w : World) (e : Ending) (w' : World) : Prop :=
  ∃ b, Near (X * 2 ^ e74) Y b ∧ e = .returned (.tuple #[.int .u64 (neV b : Int), .bool (decide (b < inf))]) ∧ Below w.heap.size w w'
theorem ne_yes {b : Nat} (h : b < inf) : neV b = b ∧ decide (b < inf) = true := ⟨if_pos h, decide_eq_true h⟩
theorem ne_no {b : Nat} (h : inf ≤ b) : neV b = 0 ∧ decide (b < inf) = false := ⟨if_neg (by omega), decide_eq_false (by omega)⟩

set_option maxRecDepth 100000 in
set_option maxHeartbeats 2000000 in
theorem nearest_any (v y : Value) (X Y : Nat) (w : World) (hv : N w v X) (hy : N w y Y) (hX : X < 2 ^ b20) (hY : Y < 2 ^ b20) (h0 : 0 < Y) :
    Calls Try.prog 10 #[v, y] w (NeAns X Y w) := by
  have HH := Lib.hid (highest_any v y X Y w hv hy hX hY h0)
  have HCl := Lib.hid (fun (b : Nat) (z : Int) (hz : z = (b : Int)) (hb : b < 18446744073709551616) W => by
    have := fclass_any 64 b W hb
    rw [← hz] at this
    exact this)
  have HV := Lib.hid (And.intro hv hy)
  have HX := Lib.hid (And.intro hX hY)
  clear hv hy hX hY
  go_enter Try.func10, Try.ntmps10
  go_wp2_with fail
  refine HH.out.mono ?_
  rintro e w1 ⟨h, rfl, hh1, hh2, hi, hb1⟩
  obtain ⟨u, hu⟩ : ∃ u, max (h - 52) (-1074) = u := ⟨_, rfl⟩
  have hU := unit_of h0 hi hu
  have HU := Lib.hid hU
  have HB1 := Lib.hid hb1
  have hlu := hU.least
  have hup : u ≤ 20001 := by omega
  obtain ⟨X', hX'⟩ : ∃ X', X' = X * 2 ^ (-u).toNat := ⟨_, rfl⟩
  obtain ⟨Y', hY'⟩ : ∃ Y', Y' = Y * 2 ^ u.toNat := ⟨_, rfl⟩
  obtain ⟨k, hk⟩ : ∃ k, (u + 1074).toNat = k := ⟨_, rfl⟩
  have k1 : u + 1074 = (k : Int) := by omega
  have HY0 : Hid (0 < Y') := Lib.hid (by rw [hY']; exact Nat.mul_pos h0 (Nat.two_pow_pos _))
  have key := fun up hq => near_unit h0 hU hX' hY' (up := up) hq
  rw [hk] at key
  obtain ⟨Q, hQ⟩ : ∃ Q, X' / Y' = Q := ⟨_, rfl⟩
  obtain ⟨R, hR⟩ : ∃ R, X' % Y' = R := ⟨_, rfl⟩
  have hRl : R < Y' := by rw [← hR]; exact Nat.mod_lt _ HY0.out
  rw [hQ, hR] at key
  obtain ⟨up, hup2⟩ : ∃ up, up = if Y' < 2 * R ∨ (2 * R = Y' ∧ Q % 2 = 1) then 1 else 0 := ⟨_, rfl⟩
  obtain ⟨q1, q2, near⟩ := key up hup2
  have hu01 : up ≤ 1 := by rw [hup2]; split <;> omega
  have HN := Lib.hid near
  clear key near hb1 hi hU
  by_cases hbig : 971 < u
  · have HE : Hid (inf ≤ k * h52 + (Q + up)) := Lib.hid (by
      have h52' : h52 = 4503599627370496 := rfl
      rw [inf_eq]
      rw [h52'] at q2 ⊢
      omega)
    clear q1 q2 hup2 hu01 hX' hY' hQ hR hRl hk k1
    go_wp2_with fail
    go_ret2
    refine ⟨_, HN.out, ?_, HB1.out⟩
    rw [(ne_no HE.out).1, (ne_no HE.out).2]
    rfl
  · have hXf : X * 2 ^ (-u).toNat < big := mul_fits (b := b20) HX.out.1 (by rw [b20_eq]; omega) (by rw [b131_eq, b20_eq]; omega)
    have hYf : Y * 2 ^ u.toNat < big := mul_fits (b := b20) HX.out.2 (by rw [b20_eq]; omega) (by rw [b131_eq, b20_eq]; omega)
    have hYf2 : Y' * 2 ^ 1 < big := by
      rw [hY', Nat.mul_assoc, ← Nat.pow_add]
      exact mul_fits (b := b20) HX.out.2 (by rw [b20_eq]; omega) (by rw [b131_eq, b20_eq]; omega)
    have hT := ftimesPower_any v y X Y (-u) w1 (HV.out.1.below HB1.out) (HV.out.2.below HB1.out) (by omega) (by omega) hXf (by rw [Int.neg_neg]; exact hYf)
    rw [Int.neg_neg, ← hX', ← hY'] at hT
    rw [← hX'] at hXf
    rw [← hY'] at hYf
    have HT := Lib.hid hT
    have HD := Lib.hid (fun W v1 u1 (h1 : N W v1 X') (h2 : N W u1 Y') => fdivide_any v1 u1 X' Y' W h1 h2 hXf hYf HY0.out)
    rw [hQ, hR] at HD
    have q1' : Q < 9007199254740992 := q1
    have HS := Lib.hid (fun W v1 (h1 : N W v1 Q) => fshort_any v1 Q W h1 (by omega))
    have HR2 := Lib.hid (fun W v1 (h1 : N W v1 R) => fshiftUp_any v1 R 1 W h1 (by omega) (by omega))
    have HC := Lib.hid (fun W v1 u1 (h1 : N W v1 (R * 2 ^ 1)) (h2 : N W u1 Y') => fcmp_any v1 u1 (R * 2 ^ 1) Y' W h1 h2)
    have hk2 : k ≤ 2045 := by omega
    obtain ⟨c, hc⟩ : ∃ c, cm (R * 2 ^ 1) Y' = c := ⟨_, rfl⟩
    have cases4 : (c = 1 ∧ up = 1) ∨ (c = 0 ∧ Q % 2 = 1 ∧ up = 1) ∨ (c = 0 ∧ Q % 2 = 0 ∧ up = 0) ∨ (c = -1 ∧ up = 0) := by
      rcases Nat.lt_trichotomy (R * 2 ^ 1) Y' with g | g | g
      · rw [cm_lt g] at hc
        rw [if_neg (by omega)] at hup2
        exact .inr (.inr (.inr ⟨hc.symm, hup2⟩))
      · rw [cm_eq g] at hc
        by_cases par : Q % 2 = 1
        · rw [if_pos (by omega)] at hup2
          exact .inr (.inl ⟨hc.symm, par, hup2⟩)
        · rw [if_neg (by omega)] at hup2
          exact .inr (.inr (.inl ⟨hc.symm, by omega, hup2⟩))
      · rw [cm_gt g] at hc
        rw [if_pos (by omega)] at hup2
        exact .inl ⟨hc.symm, hup2⟩
    rw [hc] at HC
    obtain ⟨b, hb⟩ : ∃ b, k * h52 + (Q + up) = b := ⟨_, rfl⟩
    rw [hb] at HN
    have hb2 : b = k * 4503599627370496 + (Q + up) := hb.symm
    have hb3 : b ≤ inf := by rw [inf_eq]; omega
    obtain ⟨ci, cl, c5⟩ := cl_inf hb3
    rw [inf_eq] at hb3
    clear q2 hup2 hX' hY' hQ hR hk hT hXf hYf hYf2 hRl hc hb q1
    have fin : Hid ((b = inf ∧ clC 64 b = 3) ∨ (b < inf ∧ (clC 64 b : Int) ≠ 3)) := Lib.hid (by
      rcases Nat.lt_or_ge b inf with g | g
      · exact .inr ⟨g, cl g⟩
      · have : b = inf := by rw [inf_eq] at g ⊢; omega
        exact .inl ⟨this, ci this⟩)
    have HK : Hid (∀ z : Int, z = (b : Int) → ∀ W, Calls Try.prog 22 #[.int .i64 64, .int .u64 z] W (ClAns 64 b W)) := Lib.hid (fun z hz W => HCl.out b z hz (by omega) W)
    clear ci cl HCl
    obtain ⟨C, hC⟩ : ∃ C, clC 64 b = C := ⟨_, rfl⟩
    unfold ClAns at HK
    rw [hC] at fin HK c5
    clear hC
    have k2 : u - -1074 = (k : Int) := by omega
    rcases cases4 with ⟨rfl, rfl⟩ | ⟨rfl, par, rfl⟩ | ⟨rfl, par, rfl⟩ | ⟨rfl, rfl⟩
    all_goals
      go_wp2_with fail
      refine HT.out.mono ?_
      rintro e w2 ⟨v2, y2, rfl, hN1, hN2, hb1⟩
      have HB2 := Lib.hid (HB1.out.trans (hb1.mono HB1.out.size))
      have HN2 := Lib.hid (And.intro hN1 hN2)
      clear hb1 hN1 hN2
      go_wp2_with fail
      refine (HD.out _ _ _ HN2.out.1 HN2.out.2).mono ?_
      rintro e w3 ⟨v3, y3, rfl, hN1, hN2, hb1⟩
      have HB3 := Lib.hid (HB2.out.trans (hb1.mono HB2.out.size))
      have HN3 := Lib.hid (And.intro (HN2.out.2.below hb1) (And.intro hN1 hN2))
      clear hb1 hN1 hN2
      go_wp2_with fail
      refine (HS.out _ _ HN3.out.2.1).mono ?_
      rintro e w' ⟨rfl, rfl⟩
      go_wp2_with fail
      refine (HR2.out _ _ HN3.out.2.2).mono ?_
      rintro e w4 ⟨v4, rfl, hN1, hb1⟩
      have HB4 := Lib.hid (HB3.out.trans (hb1.mono HB3.out.size))
      have HN4 := Lib.hid (And.intro (HN3.out.1.below hb1) hN1)
      clear hb1 hN1
      go_wp2_with fail
      refine (HC.out _ _ _ HN4.out.2 HN4.out.1).mono ?_
      rintro e w' ⟨rfl, j, rfl⟩
      go_wp2_with fail
      refine (HK.out _ (by omega) _).mono ?_
      rintro e w5 ⟨rfl, hb1⟩
      have HB5 := Lib.hid ((drew_below HB4.out j).trans (hb1.mono (by have := HB4.out.size; simp; omega)))
      clear hb1
      rcases fin.out with ⟨f1, f2⟩ | ⟨f1, f2⟩
      · have HE := Lib.hid (ne_no (Nat.le_of_eq f1.symm))
        clear f1
        obtain rfl : C = 3 := f2
        go_wp2_with fail
        go_ret2
        refine ⟨b, HN.out, ?_, HB5.out⟩
        rw [HE.out.1, HE.out.2]
        rfl
      · have HE := Lib.hid (ne_yes f1)
        have hne : ((C : Int) == 3) = false := by rw [beq_eq_false_iff_ne]; exact f2
        clear f1 f2
        go_wp2_with fail
        go_ret2
        refine ⟨b, HN.out, ?_, HB5.out⟩
        rw [HE.out.1, HE.out.2]
        exact ret_ub (by omega) rfl
end Go.Proofs.Ytcndkhgbgjnclaa.nn
/- Plain facts: each number has a nearest float. No program is named here. -/
namespace Go.Proofs.Ytcndkhgbgjnclaa.nn

theorem near_ex (X Y : Nat) (hY : 0 < Y) : ∃ b, Near X Y b := by
  obtain ⟨B, hB⟩ : ∃ B, 2 * h52 * Y = B := ⟨_, rfl⟩
  have h0 : 0 < h52 := by decide
  have hB0 : 0 < B := by rw [← hB]; exact Nat.mul_pos (by omega) hY
  have step : ∀ n, X < B * 2 ^ n → ∃ k, X < B * 2 ^ k ∧ (k = 0 ∨ B * 2 ^ (k - 1) ≤ X) := by
    intro n
    induction n with
    | zero => exact fun h => ⟨0, h, .inl rfl⟩
    | succ n ih =>
      intro h
      rcases Nat.lt_or_ge X (B * 2 ^ n) with g | g
      · exact ih g
      · exact ⟨n + 1, h, .inr (by rw [Nat.add_sub_cancel]; exact g)⟩
  obtain ⟨k, h1, h2⟩ := step X (by
    have h3 := Nat.lt_two_pow_self (n := X)
    have h4 : 1 * 2 ^ X ≤ B * 2 ^ X := Nat.mul_le_mul_right _ hB0
    omega)
  have hD : 0 < Y * 2 ^ k := Nat.mul_pos hY (Nat.two_pow_pos k)
  have hdm := Nat.div_add_mod X (Y * 2 ^ k)
  refine ⟨_, near_of (q := X / (Y * 2 ^ k)) (r := X % (Y * 2 ^ k)) (k := k) (up := _) hY (by rw [Nat.mul_comm]; exact hdm.symm) (Nat.mod_lt _ hD) ?_ ?_ rfl⟩
  · rw [Nat.div_lt_iff_lt_mul hD, ← Nat.mul_assoc, hB]
    exact h1
  · rcases h2 with h2 | h2
    · exact .inl h2
    · rcases Nat.eq_zero_or_pos k with h3 | h3
      · exact .inl h3
      · right
        rw [Nat.le_div_iff_mul_le hD]
        have e : B * 2 ^ (k - 1) = h52 * (Y * 2 ^ k) := by
          rw [← hB, show k = k - 1 + 1 by omega, Nat.add_sub_cancel, Nat.pow_succ, ← Nat.mul_assoc, ← Nat.mul_assoc, Nat.mul_right_comm 2 h52 Y, Nat.mul_comm (2 * Y) h52, Nat.mul_comm 2 Y, ← Nat.mul_assoc, Nat.mul_right_comm]
        rw [← e]
        exact h2
theorem ten_two (n : Nat) : 10 ^ n ≤ 2 ^ (4 * n) := by
  rw [Nat.pow_mul]
  exact Nat.pow_le_pow_left (by decide) n
end Go.Proofs.Ytcndkhgbgjnclaa.nn
