/- The real fbits: split and join of a shape. -/
import Derived.Test.YtkgejncolchobaaShape
import Derived.Test.YtkgejncolchobaaFbNum
namespace Go.Proofs.Ytkgejncolchobaa.nn
open Go.RowKit

def lim (k : Nat) : Nat := if k = 16 then 65536 else if k = 32 then 4294967296 else 18446744073709551616
theorem ret_spl {a c : Bool} {i j m n : Int} (h1 : a = c) (h2 : i = j) (h3 : m = n) : Ending.returned (.tuple #[.bool a, .int .i64 i, .int .u64 m]) = .returned (.tuple #[.bool c, .int .i64 j, .int .u64 n]) := by rw [h1, h2, h3]
theorem ret_u64 {a b : Int} (h : a = b) : Ending.returned (.int .u64 a) = .returned (.int .u64 b) := by rw [h]
theorem ne_nat_div {x d : Nat} (hx : x < 2 * d) : ((x : Int) / (d : Int) != 0) = decide (x / d = 1) := by
  rw [← Int.natCast_ediv]
  have hd : 0 < d := by omega
  have h2 : x / d < 2 := Nat.div_lt_of_lt_mul (by omega)
  generalize x / d = q at h2 ⊢
  by_cases h : q = 1
  · rw [h]; rfl
  · have h0 : q = 0 := by omega
    rw [decide_eq_false h, h0]
    rfl
set_option maxRecDepth 100000 in
set_option maxHeartbeats 1000000 in
theorem split_16 (x : Nat) (w : World) (hx : x < 65536) : Calls Try.prog 30 #[sv 16, .int .u64 (x : Int)] w fun e w' => e = .returned (.tuple #[.bool (sg 16 x), .int .i64 (ex 16 x : Int), .int .u64 (fr 16 x : Int)]) ∧ Below w.heap.size w w' := by
  have hk : kOk 16 := by unfold kOk; omega
  have hd : ((x : Int) / 32768 != 0) = sg 16 x := by
    unfold sg
    rw [show xb 16 + fb 16 = 15 from rfl, show (2 : Nat) ^ 15 = 32768 from rfl]
    exact ne_nat_div (d := 32768) (by omega)
  have hm : bits .and .i64 ((x : Int) / 1024) 31 = (ex 16 x : Int) := by
    unfold ex
    rw [show xb 16 = 5 from rfl, show fb 16 = 10 from rfl, show (2 : Nat) ^ 10 = 1024 from rfl]
    rw [show ((x : Int) / 1024) = ((x / 1024 : Nat) : Int) by omega]
    exact (i64_and_nat (x / 1024) 31 (by omega) (by decide)).trans (by rw [and_mask (x / 1024) 5])
  have hf : bits .and .u64 (x : Int) 1023 = (fr 16 x : Int) := by
    unfold fr
    rw [show fb 16 = 10 from rfl]
    exact (u64_and_nat x 1023 (by omega) (by decide)).trans (by rw [and_mask x 10])
  have hw : IntKind.i64.wrap ((x : Int) / 1024) = (x : Int) / 1024 := IntWalk.i64_in _ (by omega)
  have HD := Lib.hid hd
  have HM := Lib.hid hm
  have HF := Lib.hid hf
  have hO : ∀ W, Bs w 16 W → Calls Try.prog 40 #[sv 16] W fun e w' => e = .returned (.int .i64 31) ∧ Bs w 16 w' := fun W hW => (ones_any 16 W hk).mono fun e w' ⟨he, hb⟩ => ⟨he, hW.on hb⟩
  have hI : ∀ W, Bs w 16 W → Calls Try.prog 41 #[sv 16] W fun e w' => e = .returned (.int .u64 1024) ∧ Bs w 16 w' := fun W hW => (hidden_any 16 W hk).mono fun e w' ⟨he, hb⟩ => ⟨he, hW.on hb⟩
  rw [show sv 16 = .agg #[.int .i64 16, .int .i64 5, .int .i64 10] from rfl] at hO hI ⊢
  have HO := Lib.hid hO
  have HI := Lib.hid hI
  have HB : Hid (∀ T, Bs w 16 (w.alloc (.cells #[.int .i64 16, .int .i64 5, .int .i64 10] T))) := Lib.hid (Bs.new w 16)
  have HL : Hid (∀ W, Bs w 16 W → W.cell? ⟨w.heap.size, 0, none⟩ = some (.int .i64 16) ∧ W.cell? ⟨w.heap.size, 1, none⟩ = some (.int .i64 5) ∧ W.cell? ⟨w.heap.size, 2, none⟩ = some (.int .i64 10) ∧ Bs w 16 W) := Lib.hid fun W hW => hW.all
  clear hd hm hf hO hI hk
  go_enter Try.func30, Try.ntmps30
  go_wp2_with fail
  have hb0 := HB.out 58
  generalize w.alloc _ = W0 at hb0 ⊢
  have hb1 := hb0.drew
  have hb := HL.out _ hb1
  go_region_held3 (fun W => W.cell? ⟨w.heap.size, 0, none⟩ = some (.int .i64 16) ∧ W.cell? ⟨w.heap.size, 1, none⟩ = some (.int .i64 5) ∧ W.cell? ⟨w.heap.size, 2, none⟩ = some (.int .i64 10) ∧ Bs w 16 W) (first | exact HL.out _ ‹_› | exact HL.out _ (And.right ‹_›))
    (first | (go_at_call 40; with_reducible refine (HO.out _ ?_).mono ?_; (first | assumption | exact And.right ‹_›); rintro e w' ⟨rfl, hk5⟩))
  go_wp2_with fail
  with_reducible refine (HI.out _ (by assumption)).mono ?_
  rintro e w2 ⟨rfl, hk6⟩
  go_wp2_with fail
  exact bodyPost_ret (v := .tuple #[.bool ((x : Int) / 32768 != 0), .int .i64 (bits .and .i64 ((x : Int) / 1024) 31), .int .u64 (bits .and .u64 (x : Int) 1023)]) (by simp [results, Try.results30, go_sem]) rfl ⟨ret_spl HD.out HM.out HF.out, hk6.b⟩

set_option maxRecDepth 100000 in
set_option maxHeartbeats 1000000 in
theorem split_32 (x : Nat) (w : World) (hx : x < 4294967296) : Calls Try.prog 30 #[sv 32, .int .u64 (x : Int)] w fun e w' => e = .returned (.tuple #[.bool (sg 32 x), .int .i64 (ex 32 x : Int), .int .u64 (fr 32 x : Int)]) ∧ Below w.heap.size w w' := by
  have hk : kOk 32 := by unfold kOk; omega
  have hd : ((x : Int) / 2147483648 != 0) = sg 32 x := by
    unfold sg
    rw [show xb 32 + fb 32 = 31 from rfl, show (2 : Nat) ^ 31 = 2147483648 from rfl]
    exact ne_nat_div (d := 2147483648) (by omega)
  have hm : bits .and .i64 ((x : Int) / 8388608) 255 = (ex 32 x : Int) := by
    unfold ex
    rw [show xb 32 = 8 from rfl, show fb 32 = 23 from rfl, show (2 : Nat) ^ 23 = 8388608 from rfl]
    rw [show ((x : Int) / 8388608) = ((x / 8388608 : Nat) : Int) by omega]
    exact (i64_and_nat (x / 8388608) 255 (by omega) (by decide)).trans (by rw [and_mask (x / 8388608) 8])
  have hf : bits .and .u64 (x : Int) 8388607 = (fr 32 x : Int) := by
    unfold fr
    rw [show fb 32 = 23 from rfl]
    exact (u64_and_nat x 8388607 (by omega) (by decide)).trans (by rw [and_mask x 23])
  have hw : IntKind.i64.wrap ((x : Int) / 8388608) = (x : Int) / 8388608 := IntWalk.i64_in _ (by omega)
  have HD := Lib.hid hd
  have HM := Lib.hid hm
  have HF := Lib.hid hf
  have hO : ∀ W, Bs w 32 W → Calls Try.prog 40 #[sv 32] W fun e w' => e = .returned (.int .i64 255) ∧ Bs w 32 w' := fun W hW => (ones_any 32 W hk).mono fun e w' ⟨he, hb⟩ => ⟨he, hW.on hb⟩
  have hI : ∀ W, Bs w 32 W → Calls Try.prog 41 #[sv 32] W fun e w' => e = .returned (.int .u64 8388608) ∧ Bs w 32 w' := fun W hW => (hidden_any 32 W hk).mono fun e w' ⟨he, hb⟩ => ⟨he, hW.on hb⟩
  rw [show sv 32 = .agg #[.int .i64 32, .int .i64 8, .int .i64 23] from rfl] at hO hI ⊢
  have HO := Lib.hid hO
  have HI := Lib.hid hI
  have HB : Hid (∀ T, Bs w 32 (w.alloc (.cells #[.int .i64 32, .int .i64 8, .int .i64 23] T))) := Lib.hid (Bs.new w 32)
  have HL : Hid (∀ W, Bs w 32 W → W.cell? ⟨w.heap.size, 0, none⟩ = some (.int .i64 32) ∧ W.cell? ⟨w.heap.size, 1, none⟩ = some (.int .i64 8) ∧ W.cell? ⟨w.heap.size, 2, none⟩ = some (.int .i64 23) ∧ Bs w 32 W) := Lib.hid fun W hW => hW.all
  clear hd hm hf hO hI hk
  go_enter Try.func30, Try.ntmps30
  go_wp2_with fail
  have hb0 := HB.out 58
  generalize w.alloc _ = W0 at hb0 ⊢
  have hb1 := hb0.drew
  have hb := HL.out _ hb1
  go_region_held3 (fun W => W.cell? ⟨w.heap.size, 0, none⟩ = some (.int .i64 32) ∧ W.cell? ⟨w.heap.size, 1, none⟩ = some (.int .i64 8) ∧ W.cell? ⟨w.heap.size, 2, none⟩ = some (.int .i64 23) ∧ Bs w 32 W) (first | exact HL.out _ ‹_› | exact HL.out _ (And.right ‹_›))
    (first | (go_at_call 40; with_reducible refine (HO.out _ ?_).mono ?_; (first | assumption | exact And.right ‹_›); rintro e w' ⟨rfl, hk5⟩))
  go_wp2_with fail
  with_reducible refine (HI.out _ (by assumption)).mono ?_
  rintro e w2 ⟨rfl, hk6⟩
  go_wp2_with fail
  exact bodyPost_ret (v := .tuple #[.bool ((x : Int) / 2147483648 != 0), .int .i64 (bits .and .i64 ((x : Int) / 8388608) 255), .int .u64 (bits .and .u64 (x : Int) 8388607)]) (by simp [results, Try.results30, go_sem]) rfl ⟨ret_spl HD.out HM.out HF.out, hk6.b⟩
set_option maxRecDepth 100000 in
set_option maxHeartbeats 1000000 in
theorem split_64 (x : Nat) (w : World) (hx : x < 18446744073709551616) : Calls Try.prog 30 #[sv 64, .int .u64 (x : Int)] w fun e w' => e = .returned (.tuple #[.bool (sg 64 x), .int .i64 (ex 64 x : Int), .int .u64 (fr 64 x : Int)]) ∧ Below w.heap.size w w' := by
  have hk : kOk 64 := by unfold kOk; omega
  have hd : ((x : Int) / 9223372036854775808 != 0) = sg 64 x := by
    unfold sg
    rw [show xb 64 + fb 64 = 63 from rfl, show (2 : Nat) ^ 63 = 9223372036854775808 from rfl]
    exact ne_nat_div (d := 9223372036854775808) (by omega)
  have hm : bits .and .i64 ((x : Int) / 4503599627370496) 2047 = (ex 64 x : Int) := by
    unfold ex
    rw [show xb 64 = 11 from rfl, show fb 64 = 52 from rfl, show (2 : Nat) ^ 52 = 4503599627370496 from rfl]
    rw [show ((x : Int) / 4503599627370496) = ((x / 4503599627370496 : Nat) : Int) by omega]
    exact (i64_and_nat (x / 4503599627370496) 2047 (by omega) (by decide)).trans (by rw [and_mask (x / 4503599627370496) 11])
  have hf : bits .and .u64 (x : Int) 4503599627370495 = (fr 64 x : Int) := by
    unfold fr
    rw [show fb 64 = 52 from rfl]
    exact (u64_and_nat x 4503599627370495 (by omega) (by decide)).trans (by rw [and_mask x 52])
  have hw : IntKind.i64.wrap ((x : Int) / 4503599627370496) = (x : Int) / 4503599627370496 := IntWalk.i64_in _ (by omega)
  have HD := Lib.hid hd
  have HM := Lib.hid hm
  have HF := Lib.hid hf
  have hO : ∀ W, Bs w 64 W → Calls Try.prog 40 #[sv 64] W fun e w' => e = .returned (.int .i64 2047) ∧ Bs w 64 w' := fun W hW => (ones_any 64 W hk).mono fun e w' ⟨he, hb⟩ => ⟨he, hW.on hb⟩
  have hI : ∀ W, Bs w 64 W → Calls Try.prog 41 #[sv 64] W fun e w' => e = .returned (.int .u64 4503599627370496) ∧ Bs w 64 w' := fun W hW => (hidden_any 64 W hk).mono fun e w' ⟨he, hb⟩ => ⟨he, hW.on hb⟩
  rw [show sv 64 = .agg #[.int .i64 64, .int .i64 11, .int .i64 52] from rfl] at hO hI ⊢
  have HO := Lib.hid hO
  have HI := Lib.hid hI
  have HB : Hid (∀ T, Bs w 64 (w.alloc (.cells #[.int .i64 64, .int .i64 11, .int .i64 52] T))) := Lib.hid (Bs.new w 64)
  have HL : Hid (∀ W, Bs w 64 W → W.cell? ⟨w.heap.size, 0, none⟩ = some (.int .i64 64) ∧ W.cell? ⟨w.heap.size, 1, none⟩ = some (.int .i64 11) ∧ W.cell? ⟨w.heap.size, 2, none⟩ = some (.int .i64 52) ∧ Bs w 64 W) := Lib.hid fun W hW => hW.all
  clear hd hm hf hO hI hk
  go_enter Try.func30, Try.ntmps30
  go_wp2_with fail
  have hb0 := HB.out 58
  generalize w.alloc _ = W0 at hb0 ⊢
  have hb1 := hb0.drew
  have hb := HL.out _ hb1
  go_region_held3 (fun W => W.cell? ⟨w.heap.size, 0, none⟩ = some (.int .i64 64) ∧ W.cell? ⟨w.heap.size, 1, none⟩ = some (.int .i64 11) ∧ W.cell? ⟨w.heap.size, 2, none⟩ = some (.int .i64 52) ∧ Bs w 64 W) (first | exact HL.out _ ‹_› | exact HL.out _ (And.right ‹_›))
    (first | (go_at_call 40; with_reducible refine (HO.out _ ?_).mono ?_; (first | assumption | exact And.right ‹_›); rintro e w' ⟨rfl, hk5⟩))
  go_wp2_with fail
  with_reducible refine (HI.out _ (by assumption)).mono ?_
  rintro e w2 ⟨rfl, hk6⟩
  go_wp2_with fail
  exact bodyPost_ret (v := .tuple #[.bool ((x : Int) / 9223372036854775808 != 0), .int .i64 (bits .and .i64 ((x : Int) / 4503599627370496) 2047), .int .u64 (bits .and .u64 (x : Int) 4503599627370495)]) (by simp [results, Try.results30, go_sem]) rfl ⟨ret_spl HD.out HM.out HF.out, hk6.b⟩
theorem or_at16 {c : Nat} (h : c < 32768) : bits .or .u64 (c : Int) 32768 = ((c + 32768 : Nat) : Int) := by
  have := u64_or_nat c 32768 (by omega) (by decide)
  rw [Nat.or_comm, or_add 32768 c 15 (by decide) (by omega), Nat.add_comm] at this
  exact this
theorem or_at32 {c : Nat} (h : c < 2147483648) : bits .or .u64 (c : Int) 2147483648 = ((c + 2147483648 : Nat) : Int) := by
  have := u64_or_nat c 2147483648 (by omega) (by decide)
  rw [Nat.or_comm, or_add 2147483648 c 31 (by decide) (by omega), Nat.add_comm] at this
  exact this
theorem or_at64 {c : Nat} (h : c < 9223372036854775808) : bits .or .u64 (c : Int) 9223372036854775808 = ((c + 9223372036854775808 : Nat) : Int) := by
  have := u64_or_nat c 9223372036854775808 (by omega) (by decide)
  rw [Nat.or_comm, or_add 9223372036854775808 c 63 (by decide) (by omega), Nat.add_comm] at this
  exact this
set_option maxRecDepth 100000 in
set_option maxHeartbeats 1000000 in
theorem join_16 (neg : Bool) (x m : Nat) (w : World) (hx : x < 32) (hm : m < 1024) :
    Calls Try.prog 42 #[sv 16, .bool neg, .int .i64 (x : Int), .int .u64 (m : Int)] w fun e w' => e = .returned (.int .u64 (kv 5 10 neg x m : Int)) ∧ Below w.heap.size w w' := by
  have t1 : bits .or .u64 ((x : Int) * 1024) (m : Int) = (x : Int) * 1024 + (m : Int) := by
    have h := u64_join (x * 1024) m 10 (by omega) (by omega) (by omega)
    have e1 : (x : Int) * 1024 = ((x * 1024 : Nat) : Int) := by omega
    rw [e1, h]
    omega
  have t2 : bits .or .u64 ((x : Int) * 1024 + (m : Int)) 32768 = (x : Int) * 1024 + (m : Int) + 32768 := by
    have h := or_at16 (c := x * 1024 + m) (by omega)
    have e1 : (x : Int) * 1024 + (m : Int) = ((x * 1024 + m : Nat) : Int) := by omega
    rw [e1, h]
    omega
  rw [show sv 16 = .agg #[.int .i64 16, .int .i64 5, .int .i64 10] from rfl]
  have HB : Hid (∀ T, Bs w 16 (w.alloc (.cells #[.int .i64 16, .int .i64 5, .int .i64 10] T))) := Lib.hid (Bs.new w 16)
  cases neg with
  | false =>
    have e : kv 5 10 false x m = x * 1024 + m := by unfold kv; rw [if_neg (by decide), show (2 : Nat) ^ 10 = 1024 by decide, Nat.zero_add]
    rw [e]
    clear e t2
    go_enter Try.func42, Try.ntmps42
    go_wp2_with fail
    go_ret
    exact ⟨ret_u (by clear t1; omega), (HB.out _).b⟩
  | true =>
    have e : kv 5 10 true x m = 32768 + x * 1024 + m := by unfold kv; rw [if_pos rfl, show 5 + 10 = 15 by decide, show (2 : Nat) ^ 15 = 32768 by decide, show (2 : Nat) ^ 10 = 1024 by decide]
    rw [e]
    clear e
    go_enter Try.func42, Try.ntmps42
    go_wp2_with fail
    go_ret
    exact ⟨ret_u (by clear t1 t2; omega), (HB.out _).b⟩
set_option maxRecDepth 100000 in
set_option maxHeartbeats 1000000 in
theorem join_32 (neg : Bool) (x m : Nat) (w : World) (hx : x < 256) (hm : m < 8388608) :
    Calls Try.prog 42 #[sv 32, .bool neg, .int .i64 (x : Int), .int .u64 (m : Int)] w fun e w' => e = .returned (.int .u64 (kv 8 23 neg x m : Int)) ∧ Below w.heap.size w w' := by
  have t1 : bits .or .u64 ((x : Int) * 8388608) (m : Int) = (x : Int) * 8388608 + (m : Int) := by
    have h := u64_join (x * 8388608) m 23 (by omega) (by omega) (by omega)
    have e1 : (x : Int) * 8388608 = ((x * 8388608 : Nat) : Int) := by omega
    rw [e1, h]
    omega
  have t2 : bits .or .u64 ((x : Int) * 8388608 + (m : Int)) 2147483648 = (x : Int) * 8388608 + (m : Int) + 2147483648 := by
    have h := or_at32 (c := x * 8388608 + m) (by omega)
    have e1 : (x : Int) * 8388608 + (m : Int) = ((x * 8388608 + m : Nat) : Int) := by omega
    rw [e1, h]
    omega
  rw [show sv 32 = .agg #[.int .i64 32, .int .i64 8, .int .i64 23] from rfl]
  have HB : Hid (∀ T, Bs w 32 (w.alloc (.cells #[.int .i64 32, .int .i64 8, .int .i64 23] T))) := Lib.hid (Bs.new w 32)
  cases neg with
  | false =>
    have e : kv 8 23 false x m = x * 8388608 + m := by unfold kv; rw [if_neg (by decide), show (2 : Nat) ^ 23 = 8388608 by decide, Nat.zero_add]
    rw [e]
    clear e t2
    go_enter Try.func42, Try.ntmps42
    go_wp2_with fail
    go_ret
    exact ⟨ret_u (by clear t1; omega), (HB.out _).b⟩
  | true =>
    have e : kv 8 23 true x m = 2147483648 + x * 8388608 + m := by unfold kv; rw [if_pos rfl, show 8 + 23 = 31 by decide, show (2 : Nat) ^ 31 = 2147483648 by decide, show (2 : Nat) ^ 23 = 8388608 by decide]
    rw [e]
    clear e
    go_enter Try.func42, Try.ntmps42
    go_wp2_with fail
    go_ret
    exact ⟨ret_u (by clear t1 t2; omega), (HB.out _).b⟩
set_option maxRecDepth 100000 in
set_option maxHeartbeats 1000000 in
theorem join_64 (neg : Bool) (x m : Nat) (w : World) (hx : x < 2048) (hm : m < 4503599627370496) :
    Calls Try.prog 42 #[sv 64, .bool neg, .int .i64 (x : Int), .int .u64 (m : Int)] w fun e w' => e = .returned (.int .u64 (kv 11 52 neg x m : Int)) ∧ Below w.heap.size w w' := by
  have t1 : bits .or .u64 ((x : Int) * 4503599627370496) (m : Int) = (x : Int) * 4503599627370496 + (m : Int) := by
    have h := u64_join (x * 4503599627370496) m 52 (by omega) (by omega) (by omega)
    have e1 : (x : Int) * 4503599627370496 = ((x * 4503599627370496 : Nat) : Int) := by omega
    rw [e1, h]
    omega
  have t2 : bits .or .u64 ((x : Int) * 4503599627370496 + (m : Int)) 9223372036854775808 = (x : Int) * 4503599627370496 + (m : Int) + 9223372036854775808 := by
    have h := or_at64 (c := x * 4503599627370496 + m) (by omega)
    have e1 : (x : Int) * 4503599627370496 + (m : Int) = ((x * 4503599627370496 + m : Nat) : Int) := by omega
    rw [e1, h]
    omega
  rw [show sv 64 = .agg #[.int .i64 64, .int .i64 11, .int .i64 52] from rfl]
  have HB : Hid (∀ T, Bs w 64 (w.alloc (.cells #[.int .i64 64, .int .i64 11, .int .i64 52] T))) := Lib.hid (Bs.new w 64)
  cases neg with
  | false =>
    have e : kv 11 52 false x m = x * 4503599627370496 + m := by unfold kv; rw [if_neg (by decide), show (2 : Nat) ^ 52 = 4503599627370496 by decide, Nat.zero_add]
    rw [e]
    clear e t2
    go_enter Try.func42, Try.ntmps42
    go_wp2_with fail
    go_ret
    exact ⟨ret_u (by clear t1; omega), (HB.out _).b⟩
  | true =>
    have e : kv 11 52 true x m = 9223372036854775808 + x * 4503599627370496 + m := by unfold kv; rw [if_pos rfl, show 11 + 52 = 63 by decide, show (2 : Nat) ^ 63 = 9223372036854775808 by decide, show (2 : Nat) ^ 52 = 4503599627370496 by decide]
    rw [e]
    clear e
    go_enter Try.func42, Try.ntmps42
    go_wp2_with fail
    go_ret
    exact ⟨ret_u (by clear t1 t2; omega), (HB.out _).b⟩

theorem split_any (k x : Nat) (w : World) (hk : kOk k) (hx : x < lim k) : Calls Try.prog 30 #[sv k, .int .u64 (x : Int)] w fun e w' => e = .returned (.tuple #[.bool (sg k x), .int .i64 (ex k x : Int), .int .u64 (fr k x : Int)]) ∧ Below w.heap.size w w' := by
  rcases hk with rfl | rfl | rfl
  · exact split_16 x w hx
  · exact split_32 x w hx
  · exact split_64 x w hx
theorem join_any (k : Nat) (neg : Bool) (x m : Nat) (w : World) (hk : kOk k) (hx : x ≤ onz k) (hm : m < hdn k) :
    Calls Try.prog 42 #[sv k, .bool neg, .int .i64 (x : Int), .int .u64 (m : Int)] w fun e w' => e = .returned (.int .u64 (kv (xb k) (fb k) neg x m : Int)) ∧ Below w.heap.size w w' := by
  have hf := hk.facts
  rcases hk with rfl | rfl | rfl
  · exact join_16 neg x m w (by omega) (by omega)
  · exact join_32 neg x m w (by omega) (by omega)
  · exact join_64 neg x m w (by omega) (by omega)
end Go.Proofs.Ytkgejncolchobaa.nn
