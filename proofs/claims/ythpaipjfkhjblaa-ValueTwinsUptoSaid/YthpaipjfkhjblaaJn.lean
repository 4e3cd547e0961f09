/- Joined texts, what is wanted of them: ValueTwinsW. -/
import Derived.Test.YthpaipjfkhjblaaProg
import Derived.WalkKit
import Derived.Lib.Hide
import Derived.Deep.QuietTactic
import Derived.BigQuiet
import Derived.IntWalk
import Derived.Test.YthpaipjfkhjblaaJe
import Derived.Test.YthpaipjfkhjblaaJa
import Derived.Test.YthpaipjfkhjblaaJh
import Derived.Test.YthpaipjfkhjblaaJb
import Derived.Test.YthpaipjfkhjblaaJd
import Derived.Test.YthpaipjfkhjblaaJc
import Derived.Test.YthpaipjfkhjblaaJf
namespace Go.Proofs.Ythpaipjfkhjblaa.nn
open Go.RowKit

theorem eqv_no {a b : VT} (h : a ≠ b) : eqv a b = false := by
  cases hh : eqv a b
  · rfl
  · exact absurd ((eqv_iff a b).1 hh) h
theorem drewN_kp2 {B : Nat} {w W : World} (h : Below B w W) (n : Nat) : Below B w (W.drewN n) := ⟨h.os, h.tape, h.output, h.size, h.block⟩
set_option maxRecDepth 100000 in
set_option maxHeartbeats 4000000 in
theorem twins8_no (a : VT) (Ca : Value) (b : VT) (Cb : Value) (w : World) (hCa : Lst w Ca a.l) (hBa : blk a ≤ 1048576) (hCb : Lst w Cb b.l) (hBb : blk b ≤ 1048576) (hab : a ≠ b) :
    Calls Try.prog 7 #[vv a Ca, vv b Cb] w fun r w' => r = .returned (.bool true) ∧ Below w.heap.size w w' := by
  have ha := cnt_blk a
  have hb := cnt_blk b
  have HB0 := Lib.hid (Box2.new w a Ca b Cb 25)
  have C1 : Hid (∀ W, Box2 w a Ca b Cb W → Calls Try.prog 22 #[.agg #[.int .i64 a.k, .bool a.g, .int .u64 (a.n : Int), .string a.s, Ca], .agg #[.int .i64 b.k, .bool b.g, .int .u64 (b.n : Int), .string b.s, Cb]] W fun e w' => e = .returned (.bool false) ∧ Box2 w a Ca b Cb w') := Lib.hid fun W hW => by
    have h := vequal_any a b Ca Cb W (by omega) (by omega) (hCa.keep hW.b (Nat.le_refl _)) (hCb.keep hW.b (Nat.le_refl _))
    rw [eqv_no hab] at h
    exact h.mono fun e w' ⟨he, hb⟩ => ⟨he, hW.on hb⟩
  have C2 : Hid (∀ W, Box2 w a Ca b Cb W → Calls Try.prog 22 #[.agg #[.int .i64 b.k, .bool b.g, .int .u64 (b.n : Int), .string b.s, Cb], .agg #[.int .i64 a.k, .bool a.g, .int .u64 (a.n : Int), .string a.s, Ca]] W fun e w' => e = .returned (.bool false) ∧ Box2 w a Ca b Cb w') := Lib.hid fun W hW => by
    have h := vequal_any b a Cb Ca W (by omega) (by omega) (hCb.keep hW.b (Nat.le_refl _)) (hCa.keep hW.b (Nat.le_refl _))
    rw [eqv_no (Ne.symm hab)] at h
    exact h.mono fun e w' ⟨he, hb⟩ => ⟨he, hW.on hb⟩
  have CA : Hid (∀ W, Box2 w a Ca b Cb W → Calls Try.prog 19 #[] W fun e w' => e = .returned (.bool true) ∧ Box2 w a Ca b Cb w') := Lib.hid fun W h => (awake8_any W).mono fun e w' ⟨he, hb⟩ => ⟨he, h.on hb⟩
  have HS : Hid (∀ W, Box2 w a Ca b Cb W → W.cell? ⟨w.heap.size, 0, none⟩ = some (.int .i64 a.k) ∧ W.cell? ⟨w.heap.size, 1, none⟩ = some (.bool a.g) ∧ W.cell? ⟨w.heap.size, 2, none⟩ = some (.int .u64 (a.n : Int)) ∧ W.cell? ⟨w.heap.size, 3, none⟩ = some (.string a.s) ∧ W.cell? ⟨w.heap.size, 4, none⟩ = some (Ca) ∧ W.cell? ⟨w.heap.size + 1, 0, none⟩ = some (.int .i64 b.k) ∧ W.cell? ⟨w.heap.size + 1, 1, none⟩ = some (.bool b.g) ∧ W.cell? ⟨w.heap.size + 1, 2, none⟩ = some (.int .u64 (b.n : Int)) ∧ W.cell? ⟨w.heap.size + 1, 3, none⟩ = some (.string b.s) ∧ W.cell? ⟨w.heap.size + 1, 4, none⟩ = some (Cb) ∧ Box2 w a Ca b Cb W) := Lib.hid fun W h => ⟨h.r.k, h.r.g, h.r.n, h.r.s, h.r.l, h.r2.k, h.r2.g, h.r2.n, h.r2.s, h.r2.l, h⟩
  clear hCa hCb hBa hBb ha hb hab
  unfold vv
  go_enter Try.func7, Try.ntmps7
  go_wp2_with fail
  refine (C1.out _ HB0.out).mono ?_
  rintro e w2 ⟨rfl, hk2⟩
  have hx2 := HS.out _ hk2
  go_wp2_with fail
  refine (C2.out _ ?_).mono ?_
  · exact hk2
  rintro e w3 ⟨rfl, hk3⟩
  have hx3 := HS.out _ hk3
  go_wp2_with fail
  refine (CA.out _ ?_).mono ?_
  · exact hk3
  rintro e w4 ⟨rfl, hk4⟩
  go_wp2_with fail
  go_ret
  exact ⟨rfl, hk4.b⟩
set_option maxRecDepth 100000 in
set_option maxHeartbeats 4000000 in
theorem twins8_one (a : VT) (Ca Cb : Value) (w : World) (hCa : Lst w Ca a.l) (hBa : blk a ≤ 1048576) (hwf : wfT a) (hCb : Lst w Cb a.l) :
    Calls Try.prog 7 #[vv a Ca, vv a Cb] w fun r w' => r = .returned (.bool true) ∧ Below w.heap.size w w' := by
  have ha := cnt_blk a
  have hsb := smx_blk a
  have hmx : (1048576 : Nat) ≤ maxLen := by simp [maxLen]
  have hS : smx a ≤ maxLen := by omega
  have HB0 := Lib.hid (Box2.new w a Ca a Cb 25)
  have C1 : Hid (∀ W, Box2 w a Ca a Cb W → Calls Try.prog 22 #[.agg #[.int .i64 a.k, .bool a.g, .int .u64 (a.n : Int), .string a.s, Ca], .agg #[.int .i64 a.k, .bool a.g, .int .u64 (a.n : Int), .string a.s, Cb]] W fun e w' => e = .returned (.bool true) ∧ Box2 w a Ca a Cb w') := Lib.hid fun W hW => by
    have h := vequal_any a a Ca Cb W (by omega) (by omega) (hCa.keep hW.b (Nat.le_refl _)) (hCb.keep hW.b (Nat.le_refl _))
    rw [(eqv_iff a a).2 rfl] at h
    exact h.mono fun e w' ⟨he, hb⟩ => ⟨he, hW.on hb⟩
  have C2 : Hid (∀ W, Box2 w a Ca a Cb W → Calls Try.prog 22 #[.agg #[.int .i64 a.k, .bool a.g, .int .u64 (a.n : Int), .string a.s, Cb], .agg #[.int .i64 a.k, .bool a.g, .int .u64 (a.n : Int), .string a.s, Ca]] W fun e w' => e = .returned (.bool true) ∧ Box2 w a Ca a Cb w') := Lib.hid fun W hW => by
    have h := vequal_any a a Cb Ca W (by omega) (by omega) (hCb.keep hW.b (Nat.le_refl _)) (hCa.keep hW.b (Nat.le_refl _))
    rw [(eqv_iff a a).2 rfl] at h
    exact h.mono fun e w' ⟨he, hb⟩ => ⟨he, hW.on hb⟩
  have CA : Hid (∀ W, Box2 w a Ca a Cb W → Calls Try.prog 19 #[] W fun e w' => e = .returned (.bool true) ∧ Box2 w a Ca a Cb w') := Lib.hid fun W h => (awake8_any W).mono fun e w' ⟨he, hb⟩ => ⟨he, h.on hb⟩
  have HS : Hid (∀ W, Box2 w a Ca a Cb W → W.cell? ⟨w.heap.size, 0, none⟩ = some (.int .i64 a.k) ∧ W.cell? ⟨w.heap.size, 1, none⟩ = some (.bool a.g) ∧ W.cell? ⟨w.heap.size, 2, none⟩ = some (.int .u64 (a.n : Int)) ∧ W.cell? ⟨w.heap.size, 3, none⟩ = some (.string a.s) ∧ W.cell? ⟨w.heap.size, 4, none⟩ = some (Ca) ∧ W.cell? ⟨w.heap.size + 1, 0, none⟩ = some (.int .i64 a.k) ∧ W.cell? ⟨w.heap.size + 1, 1, none⟩ = some (.bool a.g) ∧ W.cell? ⟨w.heap.size + 1, 2, none⟩ = some (.int .u64 (a.n : Int)) ∧ W.cell? ⟨w.heap.size + 1, 3, none⟩ = some (.string a.s) ∧ W.cell? ⟨w.heap.size + 1, 4, none⟩ = some (Cb) ∧ Box2 w a Ca a Cb W) := Lib.hid fun W h => ⟨h.r.k, h.r.g, h.r.n, h.r.s, h.r.l, h.r2.k, h.r2.g, h.r2.n, h.r2.s, h.r2.l, h⟩
  have XKCa : Hid (∀ W, Box2 w a Ca a Cb W → Calls Try.prog 8 #[.agg #[.int .i64 a.k, .bool a.g, .int .u64 (a.n : Int), .string a.s, Ca]] W fun e w' => e = .returned (.int .i64 (chk a : Int)) ∧ Box2 w a Ca a Cb w') := Lib.hid fun W hW => (vcheck_any a Ca W (by omega) hS (hCa.keep hW.b (Nat.le_refl _)) hwf).mono fun e w' ⟨he, hb⟩ => ⟨he, hW.on hb⟩
  have XKCb : Hid (∀ W, Box2 w a Ca a Cb W → Calls Try.prog 8 #[.agg #[.int .i64 a.k, .bool a.g, .int .u64 (a.n : Int), .string a.s, Cb]] W fun e w' => e = .returned (.int .i64 (chk a : Int)) ∧ Box2 w a Ca a Cb w') := Lib.hid fun W hW => (vcheck_any a Cb W (by omega) hS (hCb.keep hW.b (Nat.le_refl _)) hwf).mono fun e w' ⟨he, hb⟩ => ⟨he, hW.on hb⟩
  have XDCa : Hid (∀ W, Box2 w a Ca a Cb W → Calls Try.prog 10 #[.agg #[.int .i64 a.k, .bool a.g, .int .u64 (a.n : Int), .string a.s, Ca]] W fun e w' => e = .returned (.int .i64 (dep a : Int)) ∧ Box2 w a Ca a Cb w') := Lib.hid fun W hW => (vdepth_any a Ca W (by omega) (hCa.keep hW.b (Nat.le_refl _))).mono fun e w' ⟨he, hb⟩ => ⟨he, hW.on hb⟩
  have XDCb : Hid (∀ W, Box2 w a Ca a Cb W → Calls Try.prog 10 #[.agg #[.int .i64 a.k, .bool a.g, .int .u64 (a.n : Int), .string a.s, Cb]] W fun e w' => e = .returned (.int .i64 (dep a : Int)) ∧ Box2 w a Ca a Cb w') := Lib.hid fun W hW => (vdepth_any a Cb W (by omega) (hCb.keep hW.b (Nat.le_refl _))).mono fun e w' ⟨he, hb⟩ => ⟨he, hW.on hb⟩
  have XNCa : Hid (∀ W, Box2 w a Ca a Cb W → Calls Try.prog 12 #[.agg #[.int .i64 a.k, .bool a.g, .int .u64 (a.n : Int), .string a.s, Ca]] W fun e w' => e = .returned (.int .i64 (cnt a : Int)) ∧ Box2 w a Ca a Cb w') := Lib.hid fun W hW => (vcount_any a Ca W (by omega) (hCa.keep hW.b (Nat.le_refl _))).mono fun e w' ⟨he, hb⟩ => ⟨he, hW.on hb⟩
  have XNCb : Hid (∀ W, Box2 w a Ca a Cb W → Calls Try.prog 12 #[.agg #[.int .i64 a.k, .bool a.g, .int .u64 (a.n : Int), .string a.s, Cb]] W fun e w' => e = .returned (.int .i64 (cnt a : Int)) ∧ Box2 w a Ca a Cb w') := Lib.hid fun W hW => (vcount_any a Cb W (by omega) (hCb.keep hW.b (Nat.le_refl _))).mono fun e w' ⟨he, hb⟩ => ⟨he, hW.on hb⟩
  have XPCa : Hid (∀ W, Box2 w a Ca a Cb W → Calls Try.prog 17 #[.agg #[.int .i64 a.k, .bool a.g, .int .u64 (a.n : Int), .string a.s, Ca]] W fun e w' => ∃ v, e = .returned v ∧ PW W.heap.size w' v ((pth a).take 65536) ∧ Below W.heap.size W w' ∧ Box2 w a Ca a Cb w') := Lib.hid fun W hW => (vPaths_any a Ca W (by omega) (hCa.keep hW.b (Nat.le_refl _))).mono fun e w' ⟨v, he, hp, hb⟩ => ⟨v, he, hp, hb, hW.on hb⟩
  have XPCb : Hid (∀ W, Box2 w a Ca a Cb W → Calls Try.prog 17 #[.agg #[.int .i64 a.k, .bool a.g, .int .u64 (a.n : Int), .string a.s, Cb]] W fun e w' => ∃ v, e = .returned v ∧ PW W.heap.size w' v ((pth a).take 65536) ∧ Below W.heap.size W w' ∧ Box2 w a Ca a Cb w') := Lib.hid fun W hW => (vPaths_any a Cb W (by omega) (hCb.keep hW.b (Nat.le_refl _))).mono fun e w' ⟨v, he, hp, hb⟩ => ⟨v, he, hp, hb, hW.on hb⟩
  have XL : Hid (∀ (W : World) (va vb : Value) (b1 b2 : Nat), PW b1 W va ((pth a).take 65536) → PW b2 W vb ((pth a).take 65536) → Box2 w a Ca a Cb W → Calls Try.prog 16 #[va, vb] W fun e w' => e = .returned (.bool true) ∧ Box2 w a Ca a Cb w') := Lib.hid fun W va vb b1 b2 h1 h2 hW =>
    (lpaths_same va vb _ W h1 h2 (by rw [List.length_take]; omega) (fun p hp => Nat.le_trans (pth_short a p (List.mem_of_mem_take hp)) (by omega))).mono fun e w' ⟨he, q, hq⟩ => ⟨he, by rw [hq]; exact hW.on (drewN_kp2 (Below.refl _ _) q)⟩
  obtain ⟨K, hK⟩ : ∃ K, chk a = K := ⟨_, rfl⟩
  obtain ⟨D, hD⟩ : ∃ K, dep a = K := ⟨_, rfl⟩
  obtain ⟨N, hN⟩ : ∃ K, cnt a = K := ⟨_, rfl⟩
  rw [hK] at XKCa XKCb
  rw [hD] at XDCa XDCb
  rw [hN] at XNCa XNCb
  clear hK hD hN hsb hmx hS hCa hCb hBa ha
  unfold vv
  go_enter Try.func7, Try.ntmps7
  go_wp2_with fail
  refine (C1.out _ HB0.out).mono ?_
  rintro e w2 ⟨rfl, hk2⟩
  have hx2 := HS.out _ hk2
  go_wp2_with fail
  refine (C2.out _ ?_).mono ?_
  · exact hk2
  rintro e w3 ⟨rfl, hk3⟩
  have hx3 := HS.out _ hk3
  go_wp2_with fail
  have hk0 := hk3.drew
  have hx0 := HS.out _ hk0
  go_region_held3 (fun W => W.cell? ⟨w.heap.size, 0, none⟩ = some (.int .i64 a.k) ∧ W.cell? ⟨w.heap.size, 1, none⟩ = some (.bool a.g) ∧ W.cell? ⟨w.heap.size, 2, none⟩ = some (.int .u64 (a.n : Int)) ∧ W.cell? ⟨w.heap.size, 3, none⟩ = some (.string a.s) ∧ W.cell? ⟨w.heap.size, 4, none⟩ = some (Ca) ∧ W.cell? ⟨w.heap.size + 1, 0, none⟩ = some (.int .i64 a.k) ∧ W.cell? ⟨w.heap.size + 1, 1, none⟩ = some (.bool a.g) ∧ W.cell? ⟨w.heap.size + 1, 2, none⟩ = some (.int .u64 (a.n : Int)) ∧ W.cell? ⟨w.heap.size + 1, 3, none⟩ = some (.string a.s) ∧ W.cell? ⟨w.heap.size + 1, 4, none⟩ = some (Cb) ∧ Box2 w a Ca a Cb W) (first | exact HS.out _ ‹_› | exact HS.out _ (And.right ‹_›))
    (first
      | (go_at_call 8; (with_reducible refine (XKCa.out _ ?_).mono ?_); (first | assumption | exact And.right ‹_›); rintro e w' ⟨rfl, hk5⟩)
      | (go_at_call 8; (with_reducible refine (XKCb.out _ ?_).mono ?_); (first | assumption | exact And.right ‹_›); rintro e w' ⟨rfl, hk5⟩)
      | (go_at_call 10; (with_reducible refine (XDCa.out _ ?_).mono ?_); (first | assumption | exact And.right ‹_›); rintro e w' ⟨rfl, hk5⟩)
      | (go_at_call 10; (with_reducible refine (XDCb.out _ ?_).mono ?_); (first | assumption | exact And.right ‹_›); rintro e w' ⟨rfl, hk5⟩)
      | (go_at_call 12; (with_reducible refine (XNCa.out _ ?_).mono ?_); (first | assumption | exact And.right ‹_›); rintro e w' ⟨rfl, hk5⟩)
      | (go_at_call 12; (with_reducible refine (XNCb.out _ ?_).mono ?_); (first | assumption | exact And.right ‹_›); rintro e w' ⟨rfl, hk5⟩)
      | (go_at_call 17; (with_reducible refine (XPCa.out _ ?_).mono ?_); (first | assumption | exact And.right ‹_›); rintro e w' ⟨x1, rfl, hx1, hbb, hk5⟩)
      | (go_at_call 17; (with_reducible refine (XPCb.out _ ?_).mono ?_); (first | assumption | exact And.right ‹_›); rintro e w' ⟨x2, rfl, hx2, hbb2, hk5⟩; have hx3 := hx1.keep hbb2)
      | (go_at_call 16; (with_reducible refine (XL.out _ _ _ _ _ hx3 hx2 ?_).mono ?_); (first | assumption | exact And.right ‹_›); rintro e w' ⟨rfl, hk5⟩)
      | (go_at_call 19; (with_reducible refine (CA.out _ ?_).mono ?_); (first | assumption | exact And.right ‹_›); rintro e w' ⟨rfl, hk5⟩))
  go_wp2_with fail
  go_ret
  exact ⟨rfl, hk5.b⟩
theorem twins8_any (a : VT) (Ca : Value) (b : VT) (Cb : Value) (w : World) (hCa : Lst w Ca a.l) (hBa : blk a ≤ 1048576) (hwf : wfT a) (hCb : Lst w Cb b.l) (hBb : blk b ≤ 1048576) (_ : wfT b) :
    Calls Try.prog 7 #[vv a Ca, vv b Cb] w fun r w' => r = .returned (.bool true) ∧ Below w.heap.size w w' := by
  by_cases h : a = b
  · subst h
    exact twins8_one a Ca Cb w hCa hBa hwf hCb
  · exact twins8_no a Ca b Cb w hCa hBa hCb hBb h
end Go.Proofs.Ythpaipjfkhjblaa.nn
