/- Joined texts, what is wanted of them: ValueChecksW. -/
import Derived.Test.YthpaipjfkhjblaaProg
import Derived.WalkKit
import Derived.Lib.Hide
import Derived.Deep.QuietTactic
import Derived.BigQuiet
import Derived.IntWalk
import Derived.Test.YthpaipjfkhjblaaJe
import Derived.Test.YthpaipjfkhjblaaJa
import Derived.Test.YthpaipjfkhjblaaJh
import Derived.Test.YthpaipjfkhjblaaJb
import Derived.Test.YthpaipjfkhjblaaJd
import Derived.Test.YthpaipjfkhjblaaJc
import Derived.Test.YthpaipjfkhjblaaJf
namespace Go.Proofs.Ythpaipjfkhjblaa.nn
open Go.RowKit

theorem drewN_kp {B : Nat} {w W : World} (h : Below B w W) (n : Nat) : Below B w (W.drewN n) := ⟨h.os, h.tape, h.output, h.size, h.block⟩
set_option maxRecDepth 100000 in
set_option maxHeartbeats 4000000 in
theorem checks8_any (t : VT) (C : Value) (w : World) (hC : Lst w C t.l) (hB : blk t ≤ 1048576) (hwf : wfT t) :
    Calls Try.prog 3 #[vv t C] w fun r w' => r = .returned (.bool true) ∧ Below w.heap.size w w' := by
  have hcb := cnt_blk t
  have hsb := smx_blk t
  have hmx : (1048576 : Nat) ≤ maxLen := by simp [maxLen]
  have hS : smx t ≤ maxLen := by omega
  have HB0 := Lib.hid (Box.new w t C 25)
  have C1 : Hid (∀ W, Box w t C W → Calls Try.prog 8 #[.agg #[.int .i64 t.k, .bool t.g, .int .u64 (t.n : Int), .string t.s, C]] W fun e w' => e = .returned (.int .i64 (chk t : Int)) ∧ Box w t C w') := Lib.hid fun W hW => (vcheck_any t C W (by omega) hS (hC.keep hW.b (Nat.le_refl _)) hwf).mono fun e w' ⟨he, hb⟩ => ⟨he, hW.on hb⟩
  have C2 : Hid (∀ W, Box w t C W → Calls Try.prog 9 #[.agg #[.int .i64 t.k, .bool t.g, .int .u64 (t.n : Int), .string t.s, C]] W fun e w' => e = .returned (.int .i64 (chk t : Int)) ∧ Box w t C w') := Lib.hid fun W hW => (rchk_any t C W (by omega) hS (hC.keep hW.b (Nat.le_refl _))).mono fun e w' ⟨he, hb⟩ => ⟨he, hW.on hb⟩
  have C3 : Hid (∀ W, Box w t C W → Calls Try.prog 10 #[.agg #[.int .i64 t.k, .bool t.g, .int .u64 (t.n : Int), .string t.s, C]] W fun e w' => e = .returned (.int .i64 (dep t : Int)) ∧ Box w t C w') := Lib.hid fun W hW => (vdepth_any t C W (by omega) (hC.keep hW.b (Nat.le_refl _))).mono fun e w' ⟨he, hb⟩ => ⟨he, hW.on hb⟩
  have C4 : Hid (∀ W, Box w t C W → Calls Try.prog 11 #[.agg #[.int .i64 t.k, .bool t.g, .int .u64 (t.n : Int), .string t.s, C]] W fun e w' => e = .returned (.int .i64 (dep t : Int)) ∧ Box w t C w') := Lib.hid fun W hW => (rdepth_any _ t C W (Nat.le_refl _) (by omega) (hC.keep hW.b (Nat.le_refl _))).mono fun e w' ⟨he, hb⟩ => ⟨he, hW.on hb⟩
  have C5 : Hid (∀ W, Box w t C W → Calls Try.prog 12 #[.agg #[.int .i64 t.k, .bool t.g, .int .u64 (t.n : Int), .string t.s, C]] W fun e w' => e = .returned (.int .i64 (cnt t : Int)) ∧ Box w t C w') := Lib.hid fun W hW => (vcount_any t C W (by omega) (hC.keep hW.b (Nat.le_refl _))).mono fun e w' ⟨he, hb⟩ => ⟨he, hW.on hb⟩
  have C6 : Hid (∀ W, Box w t C W → Calls Try.prog 13 #[.agg #[.int .i64 t.k, .bool t.g, .int .u64 (t.n : Int), .string t.s, C]] W fun e w' => e = .returned (.int .i64 (cnt t : Int)) ∧ Box w t C w') := Lib.hid fun W hW => (rcount_any _ t C W (Nat.le_refl _) (by omega) (hC.keep hW.b (Nat.le_refl _))).mono fun e w' ⟨he, hb⟩ => ⟨he, hW.on hb⟩
  have C7 : Hid (∀ W, Box w t C W → Calls Try.prog 14 #[.agg #[.int .i64 t.k, .bool t.g, .int .u64 (t.n : Int), .string t.s, C]] W fun e w' => e = .returned (.bool (lf t.k)) ∧ Box w t C w') := Lib.hid fun W hW => (vleaf_any t C W).mono fun e w' ⟨he, hb⟩ => ⟨he, hW.on hb⟩
  have C8 : Hid (∀ W, Box w t C W → Calls Try.prog 15 #[.agg #[.int .i64 t.k, .bool t.g, .int .u64 (t.n : Int), .string t.s, C]] W fun e w' => e = .returned (.bool (lf t.k)) ∧ Box w t C w') := Lib.hid fun W hW => (rleaf_any t C W).mono fun e w' ⟨he, hb⟩ => ⟨he, hW.on hb⟩
  have C9 : Hid (∀ W, Box w t C W → Calls Try.prog 17 #[.agg #[.int .i64 t.k, .bool t.g, .int .u64 (t.n : Int), .string t.s, C]] W fun e w' => ∃ v, e = .returned v ∧ PW W.heap.size w' v ((pth t).take 65536) ∧ Below W.heap.size W w' ∧ Box w t C w') := Lib.hid fun W hW => (vPaths_any t C W (by omega) (hC.keep hW.b (Nat.le_refl _))).mono fun e w' ⟨v, he, hp, hb⟩ => ⟨v, he, hp, hb, hW.on hb⟩
  have C10 : Hid (∀ W, Box w t C W → Calls Try.prog 18 #[.agg #[.int .i64 t.k, .bool t.g, .int .u64 (t.n : Int), .string t.s, C]] W fun e w' => ∃ v, e = .returned v ∧ PW W.heap.size w' v ((pth t).take 65536) ∧ Below W.heap.size W w' ∧ Box w t C w') := Lib.hid fun W hW => (rPaths_any t C W (by omega) (hC.keep hW.b (Nat.le_refl _))).mono fun e w' ⟨v, he, hp, hb⟩ => ⟨v, he, hp.toW, hb, hW.on hb⟩
  have C11 : Hid (∀ (W : World) (va vb : Value) (b1 b2 : Nat), PW b1 W va ((pth t).take 65536) → PW b2 W vb ((pth t).take 65536) → Box w t C W → Calls Try.prog 16 #[va, vb] W fun e w' => e = .returned (.bool true) ∧ Box w t C w') := Lib.hid fun W va vb b1 b2 h1 h2 hW =>
    (lpaths_same va vb _ W h1 h2 (by rw [List.length_take]; omega) (fun p hp => Nat.le_trans (pth_short t p (List.mem_of_mem_take hp)) (by omega))).mono fun e w' ⟨he, q, hq⟩ => ⟨he, by rw [hq]; exact hW.on (drewN_kp (Below.refl _ _) q)⟩
  have C12 : Hid (∀ W, Box w t C W → Calls Try.prog 19 #[] W fun e w' => e = .returned (.bool true) ∧ Box w t C w') := Lib.hid fun W h => (awake8_any W).mono fun e w' ⟨he, hb⟩ => ⟨he, h.on hb⟩
  have HS : Hid (∀ W, Box w t C W → W.cell? ⟨w.heap.size, 0, none⟩ = some (.int .i64 t.k) ∧ W.cell? ⟨w.heap.size, 1, none⟩ = some (.bool t.g) ∧ W.cell? ⟨w.heap.size, 2, none⟩ = some (.int .u64 (t.n : Int)) ∧ W.cell? ⟨w.heap.size, 3, none⟩ = some (.string t.s) ∧ W.cell? ⟨w.heap.size, 4, none⟩ = some C ∧ Box w t C W) := Lib.hid fun W h => ⟨h.r.k, h.r.g, h.r.n, h.r.s, h.r.l, h⟩
  obtain ⟨K, hK⟩ : ∃ K, chk t = K := ⟨_, rfl⟩
  obtain ⟨D, hD⟩ : ∃ K, dep t = K := ⟨_, rfl⟩
  obtain ⟨N, hN⟩ : ∃ K, cnt t = K := ⟨_, rfl⟩
  obtain ⟨L, hL⟩ : ∃ K, lf t.k = K := ⟨_, rfl⟩
  rw [hK] at C1 C2
  rw [hD] at C3 C4
  rw [hN] at C5 C6
  rw [hL] at C7 C8
  clear hK hD hN hL hcb hsb hmx hS hC hB
  unfold vv
  cases L
  all_goals
    go_enter Try.func3, Try.ntmps3
    go_wp2_with fail
    have hk0 := HB0.out.drew
    have hx0 := HS.out _ hk0
    go_region_held3 (fun W => W.cell? ⟨w.heap.size, 0, none⟩ = some (.int .i64 t.k) ∧ W.cell? ⟨w.heap.size, 1, none⟩ = some (.bool t.g) ∧ W.cell? ⟨w.heap.size, 2, none⟩ = some (.int .u64 (t.n : Int)) ∧ W.cell? ⟨w.heap.size, 3, none⟩ = some (.string t.s) ∧ W.cell? ⟨w.heap.size, 4, none⟩ = some C ∧ Box w t C W) (first | exact HS.out _ ‹_› | exact HS.out _ (And.right ‹_›))
      (first
        | (go_at_call 8; (with_reducible refine (C1.out _ ?_).mono ?_); (first | assumption | exact And.right ‹_›); rintro e w' ⟨rfl, hk5⟩)
        | (go_at_call 9; (with_reducible refine (C2.out _ ?_).mono ?_); (first | assumption | exact And.right ‹_›); rintro e w' ⟨rfl, hk5⟩)
        | (go_at_call 10; (with_reducible refine (C3.out _ ?_).mono ?_); (first | assumption | exact And.right ‹_›); rintro e w' ⟨rfl, hk5⟩)
        | (go_at_call 11; (with_reducible refine (C4.out _ ?_).mono ?_); (first | assumption | exact And.right ‹_›); rintro e w' ⟨rfl, hk5⟩)
        | (go_at_call 12; (with_reducible refine (C5.out _ ?_).mono ?_); (first | assumption | exact And.right ‹_›); rintro e w' ⟨rfl, hk5⟩)
        | (go_at_call 13; (with_reducible refine (C6.out _ ?_).mono ?_); (first | assumption | exact And.right ‹_›); rintro e w' ⟨rfl, hk5⟩)
        | (go_at_call 14; (with_reducible refine (C7.out _ ?_).mono ?_); (first | assumption | exact And.right ‹_›); rintro e w' ⟨rfl, hk5⟩)
        | (go_at_call 15; (with_reducible refine (C8.out _ ?_).mono ?_); (first | assumption | exact And.right ‹_›); rintro e w' ⟨rfl, hk5⟩)
        | (go_at_call 17; (with_reducible refine (C9.out _ ?_).mono ?_); (first | assumption | exact And.right ‹_›); rintro e w' ⟨x1, rfl, hx1, hbb, hk5⟩)
        | (go_at_call 18; (with_reducible refine (C10.out _ ?_).mono ?_); (first | assumption | exact And.right ‹_›); rintro e w' ⟨x2, rfl, hx2, hbb2, hk5⟩; have hx3 := hx1.keep hbb2)
        | (go_at_call 16; (with_reducible refine (C11.out _ _ _ _ _ hx3 hx2 ?_).mono ?_); (first | assumption | exact And.right ‹_›); rintro e w' ⟨rfl, hk5⟩)
        | (go_at_call 19; (with_reducible refine (C12.out _ ?_).mono ?_); (first | assumption | exact And.right ‹_›); rintro e w' ⟨rfl, hk5⟩))
    go_wp2_with fail
    go_ret
    exact ⟨rfl, hk5.b⟩
end Go.Proofs.Ythpaipjfkhjblaa.nn
