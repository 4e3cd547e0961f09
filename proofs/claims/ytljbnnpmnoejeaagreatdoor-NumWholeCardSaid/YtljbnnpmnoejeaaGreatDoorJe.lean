/- Joined texts, what is wanted of them: FdSpanA, FdSpanB, FdSpanC, FdSpanD, FdSpanE, FdSpanF, FdMath, FdSpanM. -/
import Derived.Deep.QuietTactic
import Derived.BigQuiet
import Derived.Deep.RegionHeld3
import Derived.WalkMore
import Derived.Test.YtljbnnpmnoejeaaGreatDoorJc
import Derived.Test.YtljbnnpmnoejeaaGreatDoorJb
import Derived.Test.YtljbnnpmnoejeaaGreatDoorJd
import Derived.Test.YtljbnnpmnoejeaaGreatDoorJa
namespace Go.Proofs.YtljbnnpmnoejeaaGreatDoor.nn
open Go.RowKit

/-- the exponent of the greatest power of 10 that is not above 2^n -/
def dcm (n : Int) : Int := n * 78913 / 262144
set_option maxRecDepth 100000 in
theorem decimals_any (n : Int) (w : World) (h1 : -1100 ≤ n) (h2 : n ≤ 1100) :
    Calls Tryz.prog 162 #[.int .i64 n] w fun e w' => e = .returned (.int .i64 (dcm n)) ∧ w = w' := by
  go_enter Tryz.func162, Tryz.ntmps162
  go_wp2
  go_ret
  exact ⟨ret_int (by unfold dcm; first | rfl | omega | simp), rfl⟩

/-- a number in two limbs -/
def L2 (w : World) (v : Value) (X : Nat) : Prop := ∃ g, v = .slice (some ⟨g, 0, none⟩) 2 2 ∧ Rd w .u32 (some ⟨g, 0, none⟩) 2 (fun i => if i = 0 then X % 4294967296 else X / 4294967296) ∧ X < 18446744073709551616
theorem L2.below {w w' : World} {v : Value} {X : Nat} (h : L2 w v X) (hb : Below w.heap.size w w') : L2 w' v X := by
  obtain ⟨g, rfl, h1, h2⟩ := h
  exact ⟨g, rfl, h1.below hb, h2⟩
set_option maxRecDepth 100000 in
theorem long2_any (X : Nat) (w : World) (hX : X < 18446744073709551616) :
    Calls Tryz.prog 166 #[.int .u64 (X : Int)] w fun e w' => ∃ v, e = .returned v ∧ L2 w' v X ∧ Below w.heap.size w w' := by
  have e1 : (X : Int) % 4294967296 = ((X % 4294967296 : Nat) : Int) := by omega
  have e2 : (X : Int) / 4294967296 = ((X / 4294967296 : Nat) : Int) := by omega
  have hl : X / 4294967296 < 4294967296 := by omega
  have hr : Hid (∀ T, Rd (w.alloc (.cells #[.int .u32 ((X % 4294967296 : Nat) : Int), .int .u32 ((X / 4294967296 : Nat) : Int)] T)) .u32 (some ⟨w.heap.size, 0, none⟩) 2 (fun i => if i = 0 then X % 4294967296 else X / 4294967296)) := Lib.hid fun T _ => ⟨w.heap.size, 0, rfl, by rw [hsz]; omega, fun i hi => by
    rw [World.cell?_alloc_at _ _ _ _ rfl]
    rcases (by omega : i = 0 ∨ i = 1) with rfl | rfl <;> rfl⟩
  obtain ⟨lo, hlo⟩ : ∃ lo, X % 4294967296 = lo := ⟨_, rfl⟩
  obtain ⟨hi, hhi⟩ : ∃ hi, X / 4294967296 = hi := ⟨_, rfl⟩
  have HF : Hid ((fun i => if i = 0 then lo else hi) = (fun i => if i = 0 then X % 4294967296 else X / 4294967296)) := Lib.hid (by rw [hlo, hhi])
  rw [hlo] at e1
  rw [hhi] at e2 hl
  rw [hlo, hhi] at hr
  have hlb : lo < 4294967296 := by omega
  clear hlo hhi
  go_enter Tryz.func166, Tryz.ntmps166
  go_wp2
  go_ret
  exact ⟨_, rfl, ⟨_, rfl, by rw [← HF.out]; exact hr.out _, hX⟩, (Below.refl _ _).alloc (Nat.le_refl _) _⟩
theorem L2.sm {X : Nat} (hX : X < 18446744073709551616) : Lt (2 ^ 32) (fun i => if i = 0 then X % 4294967296 else X / 4294967296) 2 ∧ nn.sm (2 ^ 32) (fun i => if i = 0 then X % 4294967296 else X / 4294967296) 2 = X := by
  refine ⟨fun i hi => ?_, ?_⟩
  · rcases (by omega : i = 0 ∨ i = 1) with rfl | rfl
    · simp; omega
    · simp; omega
  · simp [nn.sm]
    omega
set_option maxRecDepth 100000 in
set_option maxHeartbeats 400000 in
theorem ftimes_any (v u : Value) (X Y : Nat) (w : World) (h : L2 w v X) (hu : N w u Y) (hXY : X * Y < big) (hY : Y < big) :
    Calls Tryz.prog 165 #[v, u] w (NA w (X * Y)) := by
  obtain ⟨g, rfl, h1, h2⟩ := h
  obtain ⟨B, m, d, g2, rfl, hN⟩ := hu
  obtain ⟨l1, l2⟩ := L2.sm h2
  have hm := hN.short hY
  have t1 := tr_le (fun i => if i = 0 then X % 4294967296 else X / 4294967296) 2
  have t2 := tr_le g2 m
  have htl : tl2 2 m (fun i => if i = 0 then X % 4294967296 else X / 4294967296) g2 = false := by unfold tl2; simp only [Bool.or_eq_false_iff, decide_eq_false_iff_not]; omega
  have hc := mul_any (some ⟨g, 0, none⟩) B 2 m 2 d _ g2 w h1 hN.rd l1 hN.lt (Nat.le_refl _) hN.le (by simp [maxLen]) hN.cap
  have e1 : mulR 2 m (fun i => if i = 0 then X % 4294967296 else X / 4294967296) g2 = X * Y := by unfold mulR; rw [htl, if_neg Bool.false_ne_true, l2, hN.val, fitR_lt hXY]
  have e2 : mulE 2 m (fun i => if i = 0 then X % 4294967296 else X / 4294967296) g2 = 0 := by unfold mulE; rw [htl, if_neg Bool.false_ne_true, l2, hN.val, fitE_lt hXY]
  rw [e1, e2] at hc
  obtain ⟨R, hR⟩ : ∃ R, X * Y = R := ⟨_, rfl⟩
  rw [hR] at hc
  rw [hR]
  have HC := Lib.hid hc
  clear hc e1 e2 htl hR hXY hY l1 l2 h1 h2 hN t1 t2 hm
  go_enter Tryz.func165, Tryz.ntmps165
  go_wp2_with fail
  refine HC.out.mono ?_
  rintro e w1 ⟨A1, n1, c1, f1, rfl, hN, hb1⟩
  go_wp2_with fail
  go_ret
  exact ⟨_, rfl, ⟨A1, n1, c1, f1, rfl, hN⟩, hb1⟩
end Go.Proofs.YtljbnnpmnoejeaaGreatDoor.nn
namespace Go.Proofs.YtljbnnpmnoejeaaGreatDoor.nn
open Go.RowKit

/-- the variables over (block g1) and under (block g2) hold the numbers X and Y -/
structure Sv (w : World) (g1 g2 : Nat) (v u : Value) (X Y : Nat) (W : World) : Prop where
  c1 : W.cell? ⟨g1, 0, none⟩ = some v
  c2 : W.cell? ⟨g2, 0, none⟩ = some u
  n1 : N W v X
  n2 : N W u Y
  b : Below w.heap.size w W
  z : g1 < W.heap.size ∧ g2 < W.heap.size
theorem Sv.on {w W W' : World} {g1 g2 : Nat} {v u : Value} {X Y : Nat} (h : Sv w g1 g2 v u X Y W) (hB : Below W.heap.size W W') : Sv w g1 g2 v u X Y W' :=
  ⟨(hB.cell (p := ⟨_, _, none⟩) h.z.1).trans h.c1, (hB.cell (p := ⟨_, _, none⟩) h.z.2).trans h.c2, h.n1.below hB, h.n2.below hB, h.b.trans (hB.mono h.b.size), Nat.lt_of_lt_of_le h.z.1 hB.size, Nat.lt_of_lt_of_le h.z.2 hB.size⟩
theorem Sv.drew {w W : World} {g1 g2 : Nat} {v u : Value} {X Y : Nat} (h : Sv w g1 g2 v u X Y W) : Sv w g1 g2 v u X Y W.drew := h.on (Below.drew (Below.refl _ _))
theorem Sv.all {w W : World} {g1 g2 : Nat} {v u : Value} {X Y : Nat} (h : Sv w g1 g2 v u X Y W) : W.cell? ⟨g1, 0, none⟩ = some v ∧ W.cell? ⟨g2, 0, none⟩ = some u ∧ Sv w g1 g2 v u X Y W := ⟨h.c1, h.c2, h⟩
theorem bl_pos {R : Nat} : (0 < bl R) ↔ 0 < R := by
  rcases Nat.eq_zero_or_pos R with h | h
  · subst h; rw [bl_zero]
  · exact ⟨fun _ => h, fun _ => (bl_ge (by omega)).2⟩
set_option maxRecDepth 100000 in
set_option maxHeartbeats 2000000 in
theorem units_any (w0 : World) (g1 g2 : Nat) (v u : Value) (X Y q : Nat) (w : World) (h : Sv w0 g1 g2 v u X Y w) (hq : q < 18446744073709551616) (hX : q * X < big) (hX1 : X < big) (hY : Y < big) (h0 : 0 < Y) (hQ : q * X / Y < 18446744073709551616) :
    Calls Tryz.prog 164 #[.int .u64 (q : Int), .pointer (some ⟨g1, 0, none⟩), .pointer (some ⟨g2, 0, none⟩)] w
      fun e w' => e = .returned (.tuple #[.int .u64 ((q * X / Y : Nat) : Int), .bool (decide (0 < q * X % Y))]) ∧ Sv w0 g1 g2 v u X Y w' := by
  have HX := Lib.hid (fun W (h : Sv w0 g1 g2 v u X Y W) => h.all)
  have HL := Lib.hid (fun W (h : Sv w0 g1 g2 v u X Y W) => (long2_any q W hq).mono fun e w' ⟨t, he, hl, hb⟩ => (⟨t, he, hl, h.on hb⟩ : ∃ t, e = Ending.returned t ∧ L2 w' t q ∧ Sv w0 g1 g2 v u X Y w'))
  have HT := Lib.hid (fun W t (hl : L2 W t q) (h : Sv w0 g1 g2 v u X Y W) => (ftimes_any t v q X W hl h.n1 hX hX1).mono fun e w' ⟨t2, he, hl, hb⟩ => (⟨t2, he, hl, h.on hb⟩ : ∃ t2, e = Ending.returned t2 ∧ N w' t2 (q * X) ∧ Sv w0 g1 g2 v u X Y w'))
  have HD := Lib.hid (fun W t (hl : N W t (q * X)) (h : Sv w0 g1 g2 v u X Y W) => (fdivide_any t u (q * X) Y W hl h.n2 hX hY h0).mono fun e w' ⟨t2, t3, he, hl, hl2, hb⟩ => (⟨t2, t3, he, hl, hl2, h.on hb⟩ : ∃ t2 t3, e = Ending.returned (.tuple #[t2, t3]) ∧ N w' t2 (q * X / Y) ∧ N w' t3 (q * X % Y) ∧ Sv w0 g1 g2 v u X Y w'))
  have hR : q * X % Y < big := Nat.lt_of_le_of_lt (Nat.mod_le _ _) hX
  obtain ⟨Q, hQQ⟩ : ∃ Q, q * X / Y = Q := ⟨_, rfl⟩
  obtain ⟨R, hRR⟩ : ∃ R, q * X % Y = R := ⟨_, rfl⟩
  obtain ⟨P, hPP⟩ : ∃ P, q * X = P := ⟨_, rfl⟩
  rw [hQQ, hRR] at HD
  rw [hPP] at HD HT
  rw [hQQ] at hQ
  rw [hRR] at hR
  rw [hQQ, hRR]
  have HS := Lib.hid (fun W t (hl : N W t Q) => fshort_any t Q W hl hQ)
  have HBi := Lib.hid (fun W t (hl : N W t R) => fbits_any t R W hl hR)
  have HK : Hid (decide (0 < bl R) = decide (0 < R)) := Lib.hid (by
    have := bl_pos (R := R)
    by_cases c : 0 < R
    · rw [decide_eq_true c, decide_eq_true (this.2 c)]
    · rw [decide_eq_false c, decide_eq_false (fun g => c (this.1 g))])
  have hk0 := h.drew
  have hx0 := HX.out _ hk0
  have hblR : bl R ≤ 131072 := by
    rw [big_two] at hR
    have := bl_le hR
    rw [b131_eq] at this
    exact this
  obtain ⟨B, hB⟩ : ∃ B, bl R = B := ⟨_, rfl⟩
  rw [hB] at HK HBi hblR
  clear hQQ hRR hPP hX hX1 hY h0 hQ hR hB h
  go_enter Tryz.func164, Tryz.ntmps164
  go_wp2_with fail
  go_region_held3 (fun W => W.cell? ⟨g1, 0, none⟩ = some v ∧ W.cell? ⟨g2, 0, none⟩ = some u ∧ Sv w0 g1 g2 v u X Y W) (first | exact HX.out _ ‹_› | exact HX.out _ (And.right ‹_›))
    (first
      | (go_at_call 166; refine (HL.out _ ?_).mono ?_; (first | assumption | exact And.right ‹_›); rintro e w' ⟨t1, rfl, l1, hk1⟩)
      | (go_at_call 165; refine (HT.out _ _ ?_ ?_).mono ?_; assumption; (first | assumption | exact And.right ‹_›); rintro e w' ⟨t2, rfl, l2, hk2⟩)
      | (go_at_call 156; refine (HD.out _ _ ?_ ?_).mono ?_; assumption; (first | assumption | exact And.right ‹_›); rintro e w' ⟨t3, t4, rfl, l3, l4, hk3⟩))
  clear hx0
  have L3 := Lib.hid l3
  have L4 := Lib.hid l4
  have K3 := Lib.hid hk3
  clear l1 l2 l3 l4 hk1 hk2 hk3
  go_wp2_with fail
  refine (HS.out _ _ L3.out).mono ?_
  rintro e w' ⟨rfl, rfl⟩
  go_wp2_with fail
  refine (HBi.out _ _ L4.out).mono ?_
  rintro e w' ⟨rfl, rfl⟩
  go_wp2_with fail
  go_ret2
  exact ⟨congrArg (fun b => Ending.returned (.tuple #[.int .u64 (Q : Int), .bool b])) HK.out, K3.out⟩
end Go.Proofs.YtljbnnpmnoejeaaGreatDoor.nn
namespace Go.Proofs.YtljbnnpmnoejeaaGreatDoor.nn
open Go.RowKit

/-- a span as a value -/
def spV (A : Nat) (mo : Bool) (F L : Nat) (p : Int) : Value := .agg #[.int .u64 (A : Int), .bool mo, .int .u64 (F : Int), .int .u64 (L : Int), .int .i64 p]
/-- is the upper one to be taken -/
def iu (A : Nat) (mo : Bool) (lo P : Nat) : Bool := if A - lo = lo + P - A then (if mo then true else decide (lo / P % 2 ≠ 0)) else decide (lo + P - A < A - lo)
/-- what is found at a step -/
def cd (A : Nat) (mo : Bool) (F L P : Nat) : Option Nat :=
  if A / P * P + P ≤ L ∧ (A / P * P < F ∨ iu A mo (A / P * P) P = true) then some (A / P * P + P) else if F ≤ A / P * P then some (A / P * P) else none
def fws (A : Nat) (mo : Bool) (F L : Nat) : Nat → Nat
  | 0 => 0
  | j + 1 => match cd A mo F L (10 ^ (j + 1)) with | some x => x | none => fws A mo F L j
def j0 (A : Nat) : Nat := if 1000000000000000000 ≤ A then 18 else 17

set_option maxRecDepth 100000 in
set_option maxHeartbeats 1000000 in
theorem isUpper_any (A : Nat) (mo : Bool) (F L : Nat) (p : Int) (lo P : Nat) (w : World) (h1 : lo ≤ A) (h2 : A < lo + P) (hP : 0 < P) (hb : lo + P < 9223372036854775808) :
    Calls Tryz.prog 167 #[spV A mo F L p, .int .u64 (lo : Int), .int .u64 (P : Int)] w fun e w' => e = .returned (.bool (iu A mo lo P)) ∧ Below w.heap.size w w' := by
  unfold spV
  have HB := Lib.hid (fun o => (Below.refl w.heap.size w).alloc (Nat.le_refl _) o)
  have e1 : (A : Int) - (lo : Int) = ((A - lo : Nat) : Int) := by omega
  have e2 : (lo : Int) + (P : Int) - (A : Int) = ((lo + P - A : Nat) : Int) := by omega
  have eq1 : (lo : Int) / (P : Int) = ((lo / P : Nat) : Int) := rfl
  obtain ⟨R, hR⟩ : ∃ R, iu A mo lo P = R := ⟨_, rfl⟩
  have HR := Lib.hid hR
  rw [hR]
  unfold iu at hR
  obtain ⟨x, hx⟩ : ∃ x, A - lo = x := ⟨_, rfl⟩
  obtain ⟨y, hy⟩ : ∃ y, lo + P - A = y := ⟨_, rfl⟩
  obtain ⟨q, hq⟩ : ∃ q, lo / P = q := ⟨_, rfl⟩
  rw [hx, hy, hq] at hR
  rw [hx] at e1
  rw [hy] at e2
  rw [hq] at eq1
  have hxb : x < 9223372036854775808 := by omega
  have hyb : y < 9223372036854775808 := by omega
  have hqb : q < 9223372036854775808 := by rw [← hq]; exact Nat.lt_of_le_of_lt (Nat.div_le_self _ _) (by omega)
  have HXY := Lib.hid (And.intro hx (And.intro hy hq))
  clear hx hy hq
  by_cases c : x = y
  · rw [if_pos c] at hR
    subst c
    cases mo with
    | true =>
      rw [if_pos rfl] at hR
      subst hR
      go_enter Tryz.func167, Tryz.ntmps167
      go_wp2_with fail
      go_quiet (fail)
      go_wp2_with fail
      go_ret
      exact ⟨rfl, drew_below (HB.out _) _⟩
    | false =>
      rw [if_neg (by decide)] at hR
      by_cases par : q % 2 = 0
      · rw [decide_eq_false (by omega)] at hR
        subst hR
        have hpar : ((q : Int) % 2 != 0) = false := by simp; omega
        clear par
        go_enter Tryz.func167, Tryz.ntmps167
        go_wp2_with fail
        go_quiet (fail)
        go_wp2_with fail
        go_ret
        exact ⟨rfl, drew_below (HB.out _) _⟩
      · rw [decide_eq_true (by omega)] at hR
        subst hR
        have hpar : ((q : Int) % 2 != 0) = true := by simp; omega
        clear par
        go_enter Tryz.func167, Tryz.ntmps167
        go_wp2_with fail
        go_quiet (fail)
        go_wp2_with fail
        go_ret
        exact ⟨rfl, drew_below (HB.out _) _⟩
  · rw [if_neg c] at hR
    have hne : ((x : Int) != (y : Int)) = true := by simp; omega
    by_cases g : y < x
    · rw [decide_eq_true g] at hR
      subst hR
      clear c
      go_enter Tryz.func167, Tryz.ntmps167
      go_wp2_with fail
      go_quiet (fail)
      go_wp2_with fail
      go_ret
      exact ⟨rfl, drew_below (HB.out _) _⟩
    · rw [decide_eq_false g] at hR
      subst hR
      clear c
      go_enter Tryz.func167, Tryz.ntmps167
      go_wp2_with fail
      go_quiet (fail)
      go_wp2_with fail
      go_ret
      exact ⟨rfl, drew_below (HB.out _) _⟩
end Go.Proofs.YtljbnnpmnoejeaaGreatDoor.nn
namespace Go.Proofs.YtljbnnpmnoejeaaGreatDoor.nn
open Go.RowKit

structure Bsp (w : World) (A : Nat) (mo : Bool) (F L : Nat) (p : Int) (W : World) : Prop where
  c0 : W.cell? ⟨w.heap.size, 0, none⟩ = some (.int .u64 (A : Int))
  c1 : W.cell? ⟨w.heap.size, 1, none⟩ = some (.bool mo)
  c2 : W.cell? ⟨w.heap.size, 2, none⟩ = some (.int .u64 (F : Int))
  c3 : W.cell? ⟨w.heap.size, 3, none⟩ = some (.int .u64 (L : Int))
  c4 : W.cell? ⟨w.heap.size, 4, none⟩ = some (.int .i64 p)
  b : Below w.heap.size w W
  z : w.heap.size < W.heap.size
section
variable {w W W' : World} {A F L : Nat} {mo : Bool} {p : Int}
theorem Bsp.new (w : World) (T : TypeId) : Bsp w A mo F L p (w.alloc (.cells #[.int .u64 (A : Int), .bool mo, .int .u64 (F : Int), .int .u64 (L : Int), .int .i64 p] T)) :=
  ⟨by simp, by simp, by simp, by simp, by simp, (Below.refl _ _).alloc (Nat.le_refl _) _, by simp⟩
theorem Bsp.on (h : Bsp w A mo F L p W) (hB : Below W.heap.size W W') : Bsp w A mo F L p W' :=
  ⟨(hB.cell (p := ⟨_, _, none⟩) h.z).trans h.c0, (hB.cell (p := ⟨_, _, none⟩) h.z).trans h.c1, (hB.cell (p := ⟨_, _, none⟩) h.z).trans h.c2, (hB.cell (p := ⟨_, _, none⟩) h.z).trans h.c3, (hB.cell (p := ⟨_, _, none⟩) h.z).trans h.c4, h.b.trans (hB.mono (Nat.le_of_lt h.z)), Nat.lt_of_lt_of_le h.z hB.size⟩
theorem Bsp.all (h : Bsp w A mo F L p W) : W.cell? ⟨w.heap.size, 0, none⟩ = some (.int .u64 (A : Int)) ∧ W.cell? ⟨w.heap.size, 1, none⟩ = some (.bool mo) ∧ W.cell? ⟨w.heap.size, 2, none⟩ = some (.int .u64 (F : Int)) ∧ W.cell? ⟨w.heap.size, 3, none⟩ = some (.int .u64 (L : Int)) ∧ W.cell? ⟨w.heap.size, 4, none⟩ = some (.int .i64 p) := ⟨h.c0, h.c1, h.c2, h.c3, h.c4⟩
end
theorem j0_le (A : Nat) : j0 A = 17 ∨ j0 A = 18 := by
  unfold j0
  split
  · exact .inr rfl
  · exact .inl rfl
theorem ten_le18 {j : Nat} (h : j ≤ 18) : 10 ^ j ≤ 1000000000000000000 := Nat.le_trans (Nat.pow_le_pow_right (by decide) h) (by decide)
set_option maxRecDepth 100000 in
set_option maxHeartbeats 4000000 in
theorem fewest_any (A : Nat) (mo : Bool) (F L : Nat) (p : Int) (w : World) (h1 : 100000000000000000 ≤ A) (h2 : A < 4000000000000000000) (hF : F < 9223372036854775808) (hL : L < 9223372036854775808) :
    Calls Tryz.prog 125 #[spV A mo F L p] w fun e w' => e = .returned (.int .u64 (fws A mo F L (j0 A) : Int)) ∧ Below w.heap.size w w' := by
  have HI := Lib.hid (fun lo P W (g1 : lo ≤ A) (g2 : A < lo + P) (g3 : 0 < P) (g4 : lo + P < 9223372036854775808) => isUpper_any A mo F L p lo P W g1 g2 g3 g4)
  unfold spV at HI ⊢
  have HB := Lib.hid (fun T => Bsp.new (A := A) (mo := mo) (F := F) (L := L) (p := p) w T)
  obtain ⟨R, hR⟩ : ∃ R, fws A mo F L (j0 A) = R := ⟨_, rfl⟩
  rw [hR]
  have HR := Lib.hid hR
  clear hR
  go_enter Tryz.func125, Tryz.ntmps125
  go_wp2_with fail
  go_step3
  go_wp2_with fail
  have H1 := Lib.hid (HB.out 160)
  obtain ⟨W1, hW1⟩ : ∃ W1, w.alloc (.cells #[.int .u64 (A : Int), .bool mo, .int .u64 (F : Int), .int .u64 (L : Int), .int .i64 p] 160) = W1 := ⟨_, rfl⟩
  rw [hW1] at H1 ⊢
  clear hW1 HB
  obtain ⟨c0, c1, c2, c3, c4⟩ := H1.out.all
  go_wp2_with fail
  go_loop [3] (fun s3 => ∃ P : Nat, s3 = .int .u64 (P : Int) ∧ ((P = 1000000000000000000) ∨ (P = 100000000000000000 ∧ A < 1000000000000000000))) (fun s3 => (intOf s3).toNat)
  case atStart => exact ⟨1000000000000000000, rfl, .inl rfl⟩
  case round =>
    obtain ⟨P, rfl, hP⟩ := hrel
    by_cases hgt : A < P
    · obtain ⟨Q, hQ⟩ : ∃ Q : Nat, Q = 100000000000000000 := ⟨_, rfl⟩
      have hdv : (P : Int) / 10 = (Q : Int) := by omega
      have hQr : Hid (Q = 100000000000000000 ∧ A < 1000000000000000000) := Lib.hid ⟨hQ, by omega⟩
      have hlt : Q < P := by omega
      have hQb : Q < 9223372036854775808 := by omega
      clear hP hQ
      go_wp2_with fail
      go_round
      case rel => exact ⟨Q, rfl, .inr hQr.out⟩
      case measure => simp [intOf]; omega
    · have hj : P = 10 ^ j0 A := by
        unfold j0
        rcases hP with h | ⟨h, g⟩
        · rw [if_pos (by omega), h]
        · rw [if_neg (by omega), h]
      have HJ := Lib.hid hj
      have hj18 : j0 A ≤ 18 := by rcases j0_le A with h | h <;> omega
      have HJ18 := Lib.hid hj18
      clear hP hj hj18
      go_wp2_with fail
      go_step3
      go_wp2_with fail
      go_loopw [3, 4] (fun s3 s4 wr => ∃ j : Nat, j ≤ 18 ∧ s3 = .int .u64 ((10 ^ j : Nat) : Int) ∧ s4 = .int .u64 0 ∧ Hid (fws A mo F L j = R) ∧ Hid (Bsp w A mo F L p wr)) (fun s3 _ _ => (intOf s3).toNat)
      case atStart => exact ⟨j0 A, HJ18.out, by rw [HJ.out], rfl, HR, Lib.hid H1.out⟩
      case round =>
        clear c0 c1 c2 c3 c4
        obtain ⟨j, hj, rfl, rfl, hf, hb⟩ := hrel
        obtain ⟨c0, c1, c2, c3, c4⟩ := hb.out.all
        by_cases hj0 : j = 0
        · subst hj0
          have hR0 : Hid (R = 0) := Lib.hid hf.out.symm
          rw [Nat.pow_zero]
          go_wp2_with fail
          (first | go_ret | (rw [Exit.noGoto_ret]; go_ret))
          exact ⟨ret_int (by rw [hR0.out]; rfl), hb.out.b⟩
        · obtain ⟨i, rfl⟩ : ∃ i, j = i + 1 := ⟨j - 1, by omega⟩
          have hp18 := ten_le18 hj
          have hp10 : 10 ≤ 10 ^ (i + 1) := by
            have := Nat.pow_pos (n := i) (show 0 < 10 by decide)
            rw [Nat.pow_succ]; omega
          have hdiv : 10 ^ (i + 1) / 10 = 10 ^ i := by rw [Nat.pow_succ, Nat.mul_div_cancel _ (by decide)]
          have hfc : fws A mo F L (i + 1) = match cd A mo F L (10 ^ (i + 1)) with | some x => x | none => fws A mo F L i := rfl
          rw [hf.out] at hfc
          have HFI : Hid (cd A mo F L (10 ^ (i + 1)) = none → fws A mo F L i = R) := Lib.hid fun h => by rw [h] at hfc; exact hfc.symm
          have HFS : Hid (∀ x, cd A mo F L (10 ^ (i + 1)) = some x → x = R) := Lib.hid fun x h => by rw [h] at hfc; exact hfc.symm
          obtain ⟨P2, hP2⟩ : ∃ P, 10 ^ (i + 1) = P := ⟨_, rfl⟩
          obtain ⟨P3, hP3⟩ : ∃ P, 10 ^ i = P := ⟨_, rfl⟩
          rw [hP2] at hp18 hp10 hdiv HFI HFS
          rw [hP3] at hdiv
          rw [hP2]
          have hdm := Nat.div_add_mod A P2
          have hml := Nat.mod_lt A (show 0 < P2 by omega)
          have hq0 := Nat.div_le_self A P2
          obtain ⟨q, hq⟩ : ∃ q, A / P2 = q := ⟨_, rfl⟩
          obtain ⟨r, hr⟩ : ∃ r, A % P2 = r := ⟨_, rfl⟩
          rw [hq, hr] at hdm
          rw [hr] at hml
          rw [hq] at hq0
          have eq1 : (A : Int) / (P2 : Int) = (q : Int) := by rw [← hq]; rfl
          obtain ⟨lo, hlo⟩ : ∃ lo, q * P2 = lo := ⟨_, rfl⟩
          rw [Nat.mul_comm, hlo] at hdm
          have eq2 : (q : Int) * (P2 : Int) = (lo : Int) := by rw [← hlo]; rfl
          have hcd : cd A mo F L P2 = if lo + P2 ≤ L ∧ (lo < F ∨ iu A mo lo P2 = true) then some (lo + P2) else if F ≤ lo then some lo else none := by unfold cd; rw [hq, hlo]
          have hloA : lo ≤ A := by omega
          have hAlo : A < lo + P2 := by omega
          have hdivi : (P2 : Int) / 10 = (P3 : Int) := by omega
          have HP3 := Lib.hid hP3
          have hP3lt : P3 < P2 := by omega
          have HU := Lib.hid (fun W => HI.out lo P2 W hloA hAlo (by omega) (by omega))
          obtain ⟨U, hU⟩ : ∃ U, iu A mo lo P2 = U := ⟨_, rfl⟩
          rw [hU] at HU hcd
          have HCD := Lib.hid hcd
          clear hcd hU hP2 hP3 hdiv hdm hml hq hr hlo hfc
          by_cases k1 : lo + P2 ≤ L
          · by_cases k2 : lo < F
            · have HF2 := Lib.hid (HFS.out (lo + P2) (by rw [HCD.out, if_pos ⟨k1, .inl k2⟩]))
              go_wp2_with fail
              (first | go_ret | (rw [Exit.noGoto_ret]; go_ret))
              exact ⟨ret_int (by rw [← HF2.out]; rfl), hb.out.b⟩
            · cases U with
              | true =>
                have HF2 := Lib.hid (HFS.out (lo + P2) (by rw [HCD.out, if_pos ⟨k1, .inr rfl⟩]))
                go_wp2_with fail
                refine (HU.out _).mono ?_
                rintro e w2 ⟨rfl, hb2⟩
                have B2 := Lib.hid (hb.out.on hb2).b
                clear hb2
                go_wp2_with fail
                (first | go_ret | (rw [Exit.noGoto_ret]; go_ret))
                exact ⟨ret_int (by rw [← HF2.out]; rfl), B2.out⟩
              | false =>
                have HF2 := Lib.hid (HFS.out lo (by rw [HCD.out, if_neg (by rintro ⟨_, h | h⟩; exact k2 h; cases h), if_pos (by omega)]))
                go_wp2_with fail
                refine (HU.out _).mono ?_
                rintro e w2 ⟨rfl, hb2⟩
                have B2 := Lib.hid (hb.out.on hb2)
                have d2 := B2.out.c2
                clear hb2
                go_wp2_with fail
                (first | go_ret | (rw [Exit.noGoto_ret]; go_ret))
                exact ⟨ret_int (by rw [← HF2.out]), B2.out.b⟩
          · by_cases k2 : lo < F
            · have HN : Hid (fws A mo F L i = R) := Lib.hid (HFI.out (by rw [HCD.out, if_neg (fun h => k1 h.1), if_neg (by omega)]))
              go_wp2_with fail
              go_roundw
              case rel => exact ⟨i, by omega, by rw [HP3.out], rfl, HN, hb⟩
              case measure => simp [intOf]; omega
            · have HF2 := Lib.hid (HFS.out lo (by rw [HCD.out, if_neg (fun h => k1 h.1), if_pos (by omega)]))
              go_wp2_with fail
              (first | go_ret | (rw [Exit.noGoto_ret]; go_ret))
              exact ⟨ret_int (by rw [← HF2.out]), hb.out.b⟩
end Go.Proofs.YtljbnnpmnoejeaaGreatDoor.nn
namespace Go.Proofs.YtljbnnpmnoejeaaGreatDoor.nn
open Go.RowKit

def z5 : Array Value := #[.int .u64 0, .bool false, .int .u64 0, .int .u64 0, .int .i64 0]
/-- the answer's block is as it was made; the variables over and under hold X and Y -/
structure Sr (w : World) (g1 g2 : Nat) (v u : Value) (X Y : Nat) (W : World) : Prop where
  r : W.heap[w.heap.size]? = some (.cells z5 160 (0, 0))
  s : Sv w g1 g2 v u X Y W
  g : w.heap.size < g1 ∧ w.heap.size < g2
theorem Sr.on {w W W' : World} {g1 g2 : Nat} {v u : Value} {X Y : Nat} (h : Sr w g1 g2 v u X Y W) (hB : Below W.heap.size W W') : Sr w g1 g2 v u X Y W' :=
  ⟨(hB.block _ (by have := h.s.z; have := h.g; omega)).trans h.r, h.s.on hB, h.g⟩
theorem Sr.rat {w W : World} {g1 g2 : Nat} {v u : Value} {X Y : Nat} (h : Sr w g1 g2 v u X Y W) (i : Nat) : W.cell? ⟨w.heap.size, i, none⟩ = z5[i]? ∧ W.frozen? ⟨w.heap.size, i, none⟩ = false := by
  refine ⟨cell_of_row W _ i _ _ _ h.r, ?_⟩
  have := h.r
  simp [World.frozen?, this]
theorem Sr.rall {w W : World} {g1 g2 : Nat} {v u : Value} {X Y : Nat} (h : Sr w g1 g2 v u X Y W) : W.cell? ⟨w.heap.size, 0, none⟩ = some (.int .u64 0) ∧ W.cell? ⟨w.heap.size, 1, none⟩ = some (.bool false) ∧ W.cell? ⟨w.heap.size, 2, none⟩ = some (.int .u64 0) ∧ W.cell? ⟨w.heap.size, 3, none⟩ = some (.int .u64 0) ∧ W.cell? ⟨w.heap.size, 4, none⟩ = some (.int .i64 0) :=
  ⟨(h.rat 0).1, (h.rat 1).1, (h.rat 2).1, (h.rat 3).1, (h.rat 4).1⟩
theorem Sr.rmk {w W : World} {g1 g2 : Nat} {v u : Value} {X Y : Nat} (h : Sr w g1 g2 v u X Y W) : W.frozen? ⟨w.heap.size, 0, none⟩ = false ∧ W.frozen? ⟨w.heap.size, 1, none⟩ = false ∧ W.frozen? ⟨w.heap.size, 2, none⟩ = false ∧ W.frozen? ⟨w.heap.size, 3, none⟩ = false ∧ W.frozen? ⟨w.heap.size, 4, none⟩ = false :=
  ⟨(h.rat 0).2, (h.rat 1).2, (h.rat 2).2, (h.rat 3).2, (h.rat 4).2⟩
/-- what is counted in quarters, and its unit -/
def spP (m : Nat) (e : Int) : Int := dcm ((bl m : Int) - 1 + e) + 1 - 18
def spX (m : Nat) (e : Int) : Nat := 10 ^ (-(spP m e)).toNat * 2 ^ (e - 2).toNat
def spY (m : Nat) (e : Int) : Nat := 10 ^ (spP m e).toNat * 2 ^ (-(e - 2)).toNat
def spB (m : Nat) (e : Int) : Nat := if m = 4503599627370496 ∧ -1074 < e then 1 else 2
def spF (m : Nat) (e : Int) : Nat := (4 * m - spB m e) * spX m e / spY m e + (if 0 < (4 * m - spB m e) * spX m e % spY m e ∨ m % 2 = 1 then 1 else 0)
def spL (m : Nat) (e : Int) : Nat := (4 * m + 2) * spX m e / spY m e - (if m % 2 = 1 ∧ ¬ 0 < (4 * m + 2) * spX m e % spY m e then 1 else 0)
def spA (m : Nat) (e : Int) : Nat := 4 * m * spX m e / spY m e
def spM (m : Nat) (e : Int) : Bool := decide (0 < 4 * m * spX m e % spY m e)
def SpAns (m : Nat) (e : Int) (w : World) (r : Ending) (w' : World) : Prop := r = .returned (spV (spA m e) (spM m e) (spF m e) (spL m e) (spP m e)) ∧ Below w.heap.size w w'

/-- a number in memory lies in no block that holds a slice -/
theorem N.apart {W : World} {v : Value} {X g : Nat} (h : N W v X) {B : Option Addr} {m d : Nat} {T : TypeId} (hg : W.heap[g]? = some (.cells #[.slice B m d] T (0, 0))) : ∀ b o n c, v = .slice (some ⟨b, o, none⟩) n c → 0 < n → b ≠ g := by
  rintro b o n c rfl h0 rfl
  obtain ⟨A, n', c', f, e, hn⟩ := h
  injection e with e1 e2 e3
  subst e2
  obtain ⟨b', off, e4, hbl, hc⟩ := hn.rd h0
  rw [← e1] at e4
  injection e4 with e4
  injection e4 with e5 e6 e7
  have h1 := hc 0 h0
  rw [← e5, cell_of_row W b _ _ _ _ hg] at h1
  rcases Nat.eq_zero_or_pos (off + 0) with h2 | h2
  · rw [h2] at h1
    simp at h1
  · rw [Array.getElem?_eq_none (by simp; omega)] at h1
    cases h1
/-- behind the two stores into the variables -/
theorem Sr.stored {w w2 : World} {g1 g2 : Nat} {v u : Value} {X Y : Nat} {B1 B2 : Option Addr} {m1 d1 m2 d2 : Nat} {T1 T2 : TypeId} (hr : w2.heap[w.heap.size]? = some (.cells z5 160 (0, 0))) (hb : Below w.heap.size w w2) (hv : N w2 v X) (hu : N w2 u Y)
    (hg1 : w.heap.size < g1) (hg2 : g1 < g2) (hz : g2 < w2.heap.size) (h1 : w2.heap[g1]? = some (.cells #[.slice B1 m1 d1] T1 (0, 0))) (h2 : w2.heap[g2]? = some (.cells #[.slice B2 m2 d2] T2 (0, 0))) :
    Sr w g1 g2 v u X Y ((w2.setCell ⟨g1, 0, none⟩ v).setCell ⟨g2, 0, none⟩ u) := by
  have a11 := hv.apart h1
  have a12 := hv.apart h2
  have a21 := hu.apart h1
  have a22 := hu.apart h2
  have hne : g1 ≠ g2 := by omega
  have hsz2 : ((w2.setCell ⟨g1, 0, none⟩ v).setCell ⟨g2, 0, none⟩ u).heap.size = w2.heap.size := by simp [World.setCell]
  have keep : ∀ b, b ≠ g1 → b ≠ g2 → ((w2.setCell ⟨g1, 0, none⟩ v).setCell ⟨g2, 0, none⟩ u).heap[b]? = w2.heap[b]? := fun b e1 e2 => by
    simp only [World.setCell, Array.getElem?_modify]
    rw [if_neg (by omega), if_neg (by omega)]
  have kN : ∀ (t : Value) (Z : Nat), N w2 t Z → (∀ b o n c, t = .slice (some ⟨b, o, none⟩) n c → 0 < n → b ≠ g1) → (∀ b o n c, t = .slice (some ⟨b, o, none⟩) n c → 0 < n → b ≠ g2) → N ((w2.setCell ⟨g1, 0, none⟩ v).setCell ⟨g2, 0, none⟩ u) t Z := fun t Z hN o1 o2 => by
    obtain ⟨A, n, c, f, rfl, hn⟩ := hN
    refine ⟨A, n, c, f, rfl, hn.le, hn.cap, fun h0 => ?_, hn.lt, hn.trm, hn.val⟩
    obtain ⟨b, off, e, hbl, hc⟩ := hn.rd h0
    have n1 := o1 b off n c (by rw [e]) h0
    have n2 := o2 b off n c (by rw [e]) h0
    exact ⟨b, off, e, by rw [hsz2]; exact hbl, fun i hi => (World.cell?_of_block (keep b n1 n2)).trans (hc i hi)⟩
  refine ⟨(keep _ (by omega) (by omega)).trans hr, ⟨?_, ?_, kN v X hv a11 a12, kN u Y hu a21 a22, (hb.setCell (by show w.heap.size ≤ g1; omega) _).setCell (by show w.heap.size ≤ g2; omega) _, by rw [hsz2]; omega⟩, by omega⟩
  · have e : ((w2.setCell ⟨g1, 0, none⟩ v).setCell ⟨g2, 0, none⟩ u).heap[g1]? = some (.cells #[v] T1 (0, 0)) := by
      simp [World.setCell, Array.getElem?_modify, h1, hne.symm]
    exact cell_of_row _ _ 0 _ _ _ e
  · have e : ((w2.setCell ⟨g1, 0, none⟩ v).setCell ⟨g2, 0, none⟩ u).heap[g2]? = some (.cells #[u] T2 (0, 0)) := by
      simp [World.setCell, Array.getElem?_modify, h2, hne]
    exact cell_of_row _ _ 0 _ _ _ e
end Go.Proofs.YtljbnnpmnoejeaaGreatDoor.nn
namespace Go.Proofs.YtljbnnpmnoejeaaGreatDoor.nn
open Go.RowKit

/-- from the two variables' making to the second stores -/
theorem Sr.begun {w w1 : World} {A1 A2 : Option Addr} {n1 c1 n2 c2 : Nat} {T1 T2 : TypeId} (hb : Below (w.alloc (.cells z5 160)).heap.size (w.alloc (.cells z5 160)) w1) :
    Below w1.heap.size w1 ((w1.alloc (.cells #[.slice A1 n1 c1] T1)).alloc (.cells #[.slice A2 n2 c2] T2))
    ∧ ∀ w2, Below ((w1.alloc (.cells #[.slice A1 n1 c1] T1)).alloc (.cells #[.slice A2 n2 c2] T2)).heap.size ((w1.alloc (.cells #[.slice A1 n1 c1] T1)).alloc (.cells #[.slice A2 n2 c2] T2)) w2 →
      (w2.cell? ⟨w1.heap.size, 0, none⟩ = some (.slice A1 n1 c1) ∧ w2.frozen? ⟨w1.heap.size, 0, none⟩ = false ∧ w2.cell? ⟨w1.heap.size + 1, 0, none⟩ = some (.slice A2 n2 c2) ∧ w2.frozen? ⟨w1.heap.size + 1, 0, none⟩ = false)
      ∧ ∀ v u X Y, N w2 v X → N w2 u Y → Sr w w1.heap.size (w1.heap.size + 1) v u X Y ((w2.setCell ⟨w1.heap.size, 0, none⟩ v).setCell ⟨w1.heap.size + 1, 0, none⟩ u) := by
  obtain ⟨W2, hW⟩ : ∃ W, (w1.alloc (.cells #[.slice A1 n1 c1] T1)).alloc (.cells #[.slice A2 n2 c2] T2) = W := ⟨_, rfl⟩
  have hs0 := hb.size
  rw [hsz] at hs0
  have hbw : Below w1.heap.size w1 W2 := by rw [← hW]; exact ((Below.refl _ _).alloc (Nat.le_refl _) _).alloc (by rw [hsz]; omega) _
  have hs2 : W2.heap.size = w1.heap.size + 2 := by rw [← hW, hsz, hsz]
  have hg1 : W2.heap[w1.heap.size]? = some (.cells #[.slice A1 n1 c1] T1 (0, 0)) := by rw [← hW]; exact (Lib.alloc_old _ _ _ (by rw [hsz]; omega)).trans (heap_alloc_new _ _)
  have hg2 : W2.heap[w1.heap.size + 1]? = some (.cells #[.slice A2 n2 c2] T2 (0, 0)) := by have h := heap_alloc_new (w1.alloc (.cells #[.slice A1 n1 c1] T1)) (.cells #[.slice A2 n2 c2] T2); rw [hsz, hW] at h; exact h
  rw [hW]
  refine ⟨hbw, fun w2 h2 => ?_⟩
  have k1 := (h2.block w1.heap.size (by omega)).trans hg1
  have k2 := (h2.block (w1.heap.size + 1) (by omega)).trans hg2
  refine ⟨⟨cell_of_row _ _ 0 _ _ _ k1, by simp [World.frozen?, k1], cell_of_row _ _ 0 _ _ _ k2, by simp [World.frozen?, k2]⟩, fun v u X Y hv hu => ?_⟩
  have hz : (w.alloc (.cells z5 160)).heap[w.heap.size]? = some (.cells z5 160 (0, 0)) := heap_alloc_new _ _
  have hall : Below w.heap.size w w2 := by
    refine (((Below.refl w.heap.size w).alloc (Nat.le_refl _) (.cells z5 160)).trans (hb.mono (by rw [hsz]; omega))).trans ((hbw.mono (by omega)).trans (h2.mono (by omega)))
  exact Sr.stored ((h2.block _ (by omega)).trans ((hbw.block _ (by omega)).trans ((hb.block _ (by rw [hsz]; omega)).trans hz))) hall hv hu (by omega) (by omega) (by have := h2.size; omega) k1 k2
theorem bitLen_nat {m : Nat} (h : m < 18446744073709551616) : Lib.bitLen m = bl m := bitLen_bl 64 m h (Nat.le_refl _)
theorem sp_fits {e p : Int} {X Y : Nat} (he1 : -1074 ≤ e) (he2 : e ≤ 971) (hp1 : -420 ≤ p) (hp2 : p ≤ 420) (eX : X = 10 ^ (-p).toNat * 2 ^ (e - 2).toNat) (eY : Y = 10 ^ p.toNat * 2 ^ (-(e - 2)).toNat) :
    X < big ∧ Y < big ∧ (∀ q, q < 2 ^ 60 → q * X < big) ∧ 0 < Y := by
  have hX1 : 10 ^ (-p).toNat < 2 ^ b20 ∧ 10 ^ p.toNat < 2 ^ b20 := by
    have t : ∀ n, n ≤ 2800 → 10 ^ n < 2 ^ b20 := fun n hn => Nat.lt_of_le_of_lt (ten_two n) ((Nat.pow_lt_pow_iff_right (by decide)).2 (by rw [b20_eq]; omega))
    exact ⟨t _ (by omega), t _ (by omega)⟩
  refine ⟨?_, ?_, fun q hq' => ?_, ?_⟩
  · rw [eX]; exact mul_fits (b := b20) hX1.1 (by rw [b20_eq]; omega) (by rw [b131_eq, b20_eq]; omega)
  · rw [eY]; exact mul_fits (b := b20) hX1.2 (by rw [b20_eq]; omega) (by rw [b131_eq, b20_eq]; omega)
  · rw [eX]
    have h1 : 10 ^ (-p).toNat * 2 ^ (e - 2).toNat < 2 ^ (b20 + (e - 2).toNat) := by rw [Nat.pow_add]; exact Nat.mul_lt_mul_of_pos_right hX1.1 (Nat.two_pow_pos _)
    refine fits_of (k := 60 + (b20 + (e - 2).toNat)) ?_ (by rw [b131_eq, b20_eq]; omega)
    rw [Nat.pow_add]
    exact Nat.mul_lt_mul'' hq' h1
  · rw [eY]; exact Nat.mul_pos (Nat.pow_pos (by decide)) (Nat.two_pow_pos _)
theorem sr_units {w W : World} {g1 g2 X Y : Nat} {v u : Value} (q : Nat) (hq : q < 18446744073709551616) (hX2 : q * X < big) (hXb : X < big) (hYb : Y < big) (hY0 : 0 < Y) (hQ : q * X / Y < 18446744073709551616) (h : Sr w g1 g2 v u X Y W) :
    Calls Tryz.prog 164 #[.int .u64 (q : Int), .pointer (some ⟨g1, 0, none⟩), .pointer (some ⟨g2, 0, none⟩)] W
      fun r w' => r = .returned (.tuple #[.int .u64 ((q * X / Y : Nat) : Int), .bool (decide (0 < q * X % Y))]) ∧ Sr w g1 g2 v u X Y w' :=
  (units_any W g1 g2 v u X Y q W ⟨h.s.c1, h.s.c2, h.s.n1, h.s.n2, Below.refl _ _, h.s.z⟩ hq hX2 hXb hYb hY0 hQ).mono fun _ _ ⟨he, hs⟩ => ⟨he, h.on hs.b⟩
--WALKS
set_option maxRecDepth 100000 in
set_option maxHeartbeats 8000000 in
theorem newSpan_0e (m : Nat) (e : Int) (w : World) (hm0 : 0 < m) (hm : m < 9007199254740992) (he1 : -1074 ≤ e) (he2 : e ≤ 971) (hq : (4 * m + 2) * spX m e / spY m e < 9223372036854775807) (hl : 1 ≤ (4 * m + 2) * spX m e / spY m e) (hcm : m ≠ 4503599627370496) (hpar : m % 2 = 0) :
    Calls Tryz.prog 124 #[.int .u64 (m : Int), .int .i64 e] w (SpAns m e w) := by
  have hbl1 := (bl_ge (N := m) (by omega)).2
  have hbl2 : bl m ≤ 53 := bl_le (k := 53) (by omega)
  have HLn := Lib.hid (fun W => Tryz.bits_Len64 (m : Int) W (by omega) (by omega))
  rw [Int.toNat_natCast, bitLen_nat (by omega)] at HLn
  have HDe := Lib.hid (fun n W (h1 : -1100 ≤ n) (h2 : n ≤ 1100) => decimals_any n W h1 h2)
  obtain ⟨p, hp⟩ : ∃ p, spP m e = p := ⟨_, rfl⟩
  have hpd : dcm ((bl m : Int) - 1 + e) + 1 - 18 = p := hp
  have hdb : -400 ≤ dcm ((bl m : Int) - 1 + e) ∧ dcm ((bl m : Int) - 1 + e) ≤ 400 := by unfold dcm; omega
  obtain ⟨dd, hdd⟩ : ∃ d, dcm ((bl m : Int) - 1 + e) = d := ⟨_, rfl⟩
  obtain ⟨K, hK⟩ : ∃ K, bl m = K := ⟨_, rfl⟩
  rw [hdd] at hpd hdb
  rw [hK] at hdd hbl1 hbl2 HLn
  have HDD := Lib.hid hdd
  have eX : spX m e = 10 ^ (-p).toNat * 2 ^ (e - 2).toNat := by unfold spX; rw [hp]
  have eY : spY m e = 10 ^ p.toNat * 2 ^ (-(e - 2)).toNat := by unfold spY; rw [hp]
  have HRa := Lib.hid (fun W => ratio_any ⟨#[49]⟩ (-p) W (by decide) (by decide) (by decide) (by omega) (by omega))
  rw [show dv (bt ⟨#[49]⟩) (ByteArray.size ⟨#[49]⟩) = 1 by decide, Nat.one_mul, Int.neg_neg] at HRa
  obtain ⟨hXb, hYb, hX2, hY0⟩ := sp_fits (p := p) he1 he2 (by omega) (by omega) eX eY
  have HTP := Lib.hid (fun v u W (hv : N W v (10 ^ (-p).toNat)) (hu : N W u (10 ^ p.toNat)) => ftimesPower_any v u (10 ^ (-p).toNat) (10 ^ p.toNat) (e - 2) W hv hu (by omega) (by omega) (by rw [← eX]; exact hXb) (by rw [← eY]; exact hYb))
  rw [← eX, ← eY] at HTP
  have hsB : spB m e = 2 := if_neg (fun h => hcm h.1)
  have hF : spF m e = (4 * m - 2) * spX m e / spY m e + (if 0 < (4 * m - 2) * spX m e % spY m e ∨ m % 2 = 1 then 1 else 0) := by unfold spF; rw [hsB]
  have hL : spL m e = (4 * m + 2) * spX m e / spY m e - (if m % 2 = 1 ∧ ¬ 0 < (4 * m + 2) * spX m e % spY m e then 1 else 0) := rfl
  have hA : spA m e = 4 * m * spX m e / spY m e := rfl
  have hM : spM m e = decide (0 < 4 * m * spX m e % spY m e) := rfl
  generalize spX m e = X at *
  generalize spY m e = Y at *
  clear eX eY
  have mono : ∀ q, q ≤ 4 * m + 2 → q * X / Y < 9223372036854775807 := fun q h => Nat.lt_of_le_of_lt (Nat.div_le_div_right (Nat.mul_le_mul_right _ h)) hq
  have hA1 := mono (4 * m) (by omega)
  have hF1 := mono (4 * m - 2) (by omega)
  have H1 := Lib.hid (fun g1 g2 v u W (h : Sr w g1 g2 v u X Y W) => sr_units (4 * m) (by omega) (hX2 _ (by omega)) hXb hYb hY0 (by omega) h)
  have H2 := Lib.hid (fun g1 g2 v u W (h : Sr w g1 g2 v u X Y W) => sr_units (4 * m - 2) (by omega) (hX2 _ (by omega)) hXb hYb hY0 (by omega) h)
  have H3 := Lib.hid (fun g1 g2 v u W (h : Sr w g1 g2 v u X Y W) => sr_units (4 * m + 2) (by omega) (hX2 _ (by omega)) hXb hYb hY0 (by omega) h)
  obtain ⟨A0, hA0⟩ : ∃ q, 4 * m * X / Y = q := ⟨_, rfl⟩
  obtain ⟨F0, hF0⟩ : ∃ q, (4 * m - 2) * X / Y = q := ⟨_, rfl⟩
  obtain ⟨L0, hL0⟩ : ∃ q, (4 * m + 2) * X / Y = q := ⟨_, rfl⟩
  obtain ⟨ab, hab⟩ : ∃ q, decide (0 < 4 * m * X % Y) = q := ⟨_, rfl⟩
  obtain ⟨fb, hfb⟩ : ∃ q, decide (0 < (4 * m - 2) * X % Y) = q := ⟨_, rfl⟩
  obtain ⟨lb, hlb⟩ : ∃ q, decide (0 < (4 * m + 2) * X % Y) = q := ⟨_, rfl⟩
  rw [hA0, hab] at H1
  rw [hF0, hfb] at H2
  rw [hL0, hlb] at H3
  rw [hA0] at hA hA1
  rw [hab] at hM
  rw [hF0] at hF hF1
  rw [hL0] at hL hq hl
  obtain ⟨FF, hFF⟩ : ∃ q, spF m e = q := ⟨_, rfl⟩
  obtain ⟨LL, hLL⟩ : ∃ q, spL m e = q := ⟨_, rfl⟩
  have HV : Hid (spV (spA m e) (spM m e) (spF m e) (spL m e) (spP m e) = .agg #[.int .u64 (A0 : Int), .bool ab, .int .u64 (FF : Int), .int .u64 (LL : Int), .int .i64 p]) := Lib.hid (by unfold spV; rw [hA, hM, hp, hFF, hLL])
  rw [hFF] at hF
  rw [hLL] at hL
  have hF' : FF = F0 + (if fb = true ∨ m % 2 = 1 then 1 else 0) := by rw [hF, ← hfb]; simp only [decide_eq_true_eq]
  have hL' : LL = L0 - (if m % 2 = 1 ∧ lb = false then 1 else 0) := by rw [hL, ← hlb]; simp only [decide_eq_false_iff_not]
  clear hF hL
  have hpar2 : ((m : Int) % 2 != 0) = false := by simp; omega
  have h2z : (4 * (m : Int) - 2) = ((4 * m - 2 : Nat) : Int) := by omega
  have H2' := Lib.hid (fun g1 g2 v u W (h : Sr w g1 g2 v u X Y W) => H2.out g1 g2 v u W h)
  rw [← h2z] at H2'
  have H1' := Lib.hid (fun g1 g2 v u W (h : Sr w g1 g2 v u X Y W) => H1.out g1 g2 v u W h)
  rw [show ((4 * m : Nat) : Int) = 4 * (m : Int) by omega] at H1'
  have H3' := Lib.hid (fun g1 g2 v u W (h : Sr w g1 g2 v u X Y W) => H3.out g1 g2 v u W h)
  rw [show ((4 * m + 2 : Nat) : Int) = 4 * (m : Int) + 2 by omega] at H3'
  clear hXb hYb hX2 hY0 mono hA0 hF0 hL0 hab hfb hlb H1 H2 H3 hA hM hFF hLL hsB h2z hp hK
  have hcB : ((m : Int) == 4503599627370496) = false := by simp; omega
  go_enter Tryz.func124, Tryz.ntmps124
  go_wp2_with fail
  refine (HLn.out _).mono ?_
  rintro r w' ⟨rfl, rfl⟩
  go_wp2_with fail
  refine (HDe.out _ _ (by omega) (by omega)).mono ?_
  rintro r w' ⟨rfl, rfl⟩
  rw [HDD.out]
  go_wp2_with fail
  refine (HRa.out _).mono ?_
  rintro r w1 ⟨v1, u1, rfl, hv1, hu1, hb1⟩
  have HV1 := Lib.hid hv1
  have HU1 := Lib.hid hu1
  obtain ⟨A1, n1, c1, f1, rfl, -⟩ := hv1
  obtain ⟨A2, n2, c2, f2, rfl, -⟩ := hu1
  obtain ⟨hbw, hcont⟩ := Sr.begun (w := w) (w1 := w1) (A1 := A1) (A2 := A2) (n1 := n1) (c1 := c1) (n2 := n2) (c2 := c2) (T1 := 48) (T2 := 48) hb1
  have HCO := Lib.hid hcont
  have HBW := Lib.hid hbw
  clear hb1 hcont hbw
  go_wp2_with fail
  refine (HTP.out _ _ _ (HV1.out.below HBW.out) (HU1.out.below HBW.out)).mono ?_
  rintro r w2 ⟨v2, u2, rfl, hv2, hu2, hb2⟩
  obtain ⟨⟨k1, k2, k3, k4⟩, hsr⟩ := HCO.out w2 hb2
  have HSR := Lib.hid (hsr _ _ _ _ hv2 hu2)
  obtain ⟨A3, n3, c3, f3, rfl, -⟩ := hv2
  obtain ⟨A4, n4, c4, f4, rfl, -⟩ := hu2
  clear hb2 hsr HCO HBW HTP HV1 HU1 HRa HLn HDD HDe
  go_wp2_with fail
  clear k1 k2 k3 k4
  generalize (w2.setCell ⟨w1.heap.size, 0, none⟩ (.slice A3 n3 c3)).setCell ⟨w1.heap.size + 1, 0, none⟩ (.slice A4 n4 c4) = W3 at HSR ⊢
  go_wp2_with fail
  refine (H1'.out _ _ _ _ _ HSR.out).mono ?_
  rintro r w4 ⟨rfl, hs4⟩
  have HS4 := Lib.hid hs4
  clear hs4 HSR
  go_wp2_with fail
  refine (H2'.out _ _ _ _ _ HS4.out).mono ?_
  rintro r w5 ⟨rfl, hs5⟩
  have HS5 := Lib.hid hs5
  clear hs5 HS4
  go_wp2_with fail
  refine (H3'.out _ _ _ _ _ HS5.out).mono ?_
  rintro r w6 ⟨rfl, hs6⟩
  have HS6 := Lib.hid hs6
  obtain ⟨r0, r1, r2, r3, r4⟩ := hs6.rall
  obtain ⟨m0, m1, m2, m3, m4⟩ := hs6.rmk
  clear hs6 HS5 H1' H2' H3'
  cases fb
  case false =>
    have hFx : FF = F0 := by rw [hF']; simp [hpar]
    have hLx : LL = L0 := by rw [hL']; simp [hpar]
    clear hF' hL'
    go_wp2_with fail
    have hFz : ((F0 : Nat) : Int) = (F0 : Int) := by omega
    have hLz : ((L0 : Nat) : Int) = (L0 : Int) := by omega
    refine bodyPost_ret (v := .agg #[.int .u64 (A0 : Int), .bool ab, .int .u64 ((F0 : Int)), .int .u64 ((L0 : Int)), .int .i64 p]) (by simp [results, Tryz.results124, go_sem, r0, r1, r2, r3, r4]) rfl ⟨by rw [HV.out, hFx, hLx, hFz, hLz], ?_⟩
    exact ((((HS6.out.s.b.setCell (Nat.le_refl _) _).setCell (Nat.le_refl _) _).setCell (Nat.le_refl _) _).setCell (Nat.le_refl _) _).setCell (Nat.le_refl _) _
  case true =>
    have hFx : FF = F0 + 1 := by rw [hF']; simp [hpar]
    have hLx : LL = L0 := by rw [hL']; simp [hpar]
    clear hF' hL'
    go_wp2_with fail
    have hFz : ((F0 + 1 : Nat) : Int) = (F0 : Int) + 1 := by omega
    have hLz : ((L0 : Nat) : Int) = (L0 : Int) := by omega
    refine bodyPost_ret (v := .agg #[.int .u64 (A0 : Int), .bool ab, .int .u64 ((F0 : Int) + 1), .int .u64 ((L0 : Int)), .int .i64 p]) (by simp [results, Tryz.results124, go_sem, r0, r1, r2, r3, r4]) rfl ⟨by rw [HV.out, hFx, hLx, hFz, hLz], ?_⟩
    exact ((((HS6.out.s.b.setCell (Nat.le_refl _) _).setCell (Nat.le_refl _) _).setCell (Nat.le_refl _) _).setCell (Nat.le_refl _) _).setCell (Nat.le_refl _) _
set_option maxRecDepth 100000 in
set_option maxHeartbeats 8000000 in
theorem newSpan_0o (m : Nat) (e : Int) (w : World) (hm0 : 0 < m) (hm : m < 9007199254740992) (he1 : -1074 ≤ e) (he2 : e ≤ 971) (hq : (4 * m + 2) * spX m e / spY m e < 9223372036854775807) (hl : 1 ≤ (4 * m + 2) * spX m e / spY m e) (hcm : m ≠ 4503599627370496) (hpar : m % 2 = 1) :
    Calls Tryz.prog 124 #[.int .u64 (m : Int), .int .i64 e] w (SpAns m e w) := by
  have hbl1 := (bl_ge (N := m) (by omega)).2
  have hbl2 : bl m ≤ 53 := bl_le (k := 53) (by omega)
  have HLn := Lib.hid (fun W => Tryz.bits_Len64 (m : Int) W (by omega) (by omega))
  rw [Int.toNat_natCast, bitLen_nat (by omega)] at HLn
  have HDe := Lib.hid (fun n W (h1 : -1100 ≤ n) (h2 : n ≤ 1100) => decimals_any n W h1 h2)
  obtain ⟨p, hp⟩ : ∃ p, spP m e = p := ⟨_, rfl⟩
  have hpd : dcm ((bl m : Int) - 1 + e) + 1 - 18 = p := hp
  have hdb : -400 ≤ dcm ((bl m : Int) - 1 + e) ∧ dcm ((bl m : Int) - 1 + e) ≤ 400 := by unfold dcm; omega
  obtain ⟨dd, hdd⟩ : ∃ d, dcm ((bl m : Int) - 1 + e) = d := ⟨_, rfl⟩
  obtain ⟨K, hK⟩ : ∃ K, bl m = K := ⟨_, rfl⟩
  rw [hdd] at hpd hdb
  rw [hK] at hdd hbl1 hbl2 HLn
  have HDD := Lib.hid hdd
  have eX : spX m e = 10 ^ (-p).toNat * 2 ^ (e - 2).toNat := by unfold spX; rw [hp]
  have eY : spY m e = 10 ^ p.toNat * 2 ^ (-(e - 2)).toNat := by unfold spY; rw [hp]
  have HRa := Lib.hid (fun W => ratio_any ⟨#[49]⟩ (-p) W (by decide) (by decide) (by decide) (by omega) (by omega))
  rw [show dv (bt ⟨#[49]⟩) (ByteArray.size ⟨#[49]⟩) = 1 by decide, Nat.one_mul, Int.neg_neg] at HRa
  obtain ⟨hXb, hYb, hX2, hY0⟩ := sp_fits (p := p) he1 he2 (by omega) (by omega) eX eY
  have HTP := Lib.hid (fun v u W (hv : N W v (10 ^ (-p).toNat)) (hu : N W u (10 ^ p.toNat)) => ftimesPower_any v u (10 ^ (-p).toNat) (10 ^ p.toNat) (e - 2) W hv hu (by omega) (by omega) (by rw [← eX]; exact hXb) (by rw [← eY]; exact hYb))
  rw [← eX, ← eY] at HTP
  have hsB : spB m e = 2 := if_neg (fun h => hcm h.1)
  have hF : spF m e = (4 * m - 2) * spX m e / spY m e + (if 0 < (4 * m - 2) * spX m e % spY m e ∨ m % 2 = 1 then 1 else 0) := by unfold spF; rw [hsB]
  have hL : spL m e = (4 * m + 2) * spX m e / spY m e - (if m % 2 = 1 ∧ ¬ 0 < (4 * m + 2) * spX m e % spY m e then 1 else 0) := rfl
  have hA : spA m e = 4 * m * spX m e / spY m e := rfl
  have hM : spM m e = decide (0 < 4 * m * spX m e % spY m e) := rfl
  generalize spX m e = X at *
  generalize spY m e = Y at *
  clear eX eY
  have mono : ∀ q, q ≤ 4 * m + 2 → q * X / Y < 9223372036854775807 := fun q h => Nat.lt_of_le_of_lt (Nat.div_le_div_right (Nat.mul_le_mul_right _ h)) hq
  have hA1 := mono (4 * m) (by omega)
  have hF1 := mono (4 * m - 2) (by omega)
  have H1 := Lib.hid (fun g1 g2 v u W (h : Sr w g1 g2 v u X Y W) => sr_units (4 * m) (by omega) (hX2 _ (by omega)) hXb hYb hY0 (by omega) h)
  have H2 := Lib.hid (fun g1 g2 v u W (h : Sr w g1 g2 v u X Y W) => sr_units (4 * m - 2) (by omega) (hX2 _ (by omega)) hXb hYb hY0 (by omega) h)
  have H3 := Lib.hid (fun g1 g2 v u W (h : Sr w g1 g2 v u X Y W) => sr_units (4 * m + 2) (by omega) (hX2 _ (by omega)) hXb hYb hY0 (by omega) h)
  obtain ⟨A0, hA0⟩ : ∃ q, 4 * m * X / Y = q := ⟨_, rfl⟩
  obtain ⟨F0, hF0⟩ : ∃ q, (4 * m - 2) * X / Y = q := ⟨_, rfl⟩
  obtain ⟨L0, hL0⟩ : ∃ q, (4 * m + 2) * X / Y = q := ⟨_, rfl⟩
  obtain ⟨ab, hab⟩ : ∃ q, decide (0 < 4 * m * X % Y) = q := ⟨_, rfl⟩
  obtain ⟨fb, hfb⟩ : ∃ q, decide (0 < (4 * m - 2) * X % Y) = q := ⟨_, rfl⟩
  obtain ⟨lb, hlb⟩ : ∃ q, decide (0 < (4 * m + 2) * X % Y) = q := ⟨_, rfl⟩
  rw [hA0, hab] at H1
  rw [hF0, hfb] at H2
  rw [hL0, hlb] at H3
  rw [hA0] at hA hA1
  rw [hab] at hM
  rw [hF0] at hF hF1
  rw [hL0] at hL hq hl
  obtain ⟨FF, hFF⟩ : ∃ q, spF m e = q := ⟨_, rfl⟩
  obtain ⟨LL, hLL⟩ : ∃ q, spL m e = q := ⟨_, rfl⟩
  have HV : Hid (spV (spA m e) (spM m e) (spF m e) (spL m e) (spP m e) = .agg #[.int .u64 (A0 : Int), .bool ab, .int .u64 (FF : Int), .int .u64 (LL : Int), .int .i64 p]) := Lib.hid (by unfold spV; rw [hA, hM, hp, hFF, hLL])
  rw [hFF] at hF
  rw [hLL] at hL
  have hF' : FF = F0 + (if fb = true ∨ m % 2 = 1 then 1 else 0) := by rw [hF, ← hfb]; simp only [decide_eq_true_eq]
  have hL' : LL = L0 - (if m % 2 = 1 ∧ lb = false then 1 else 0) := by rw [hL, ← hlb]; simp only [decide_eq_false_iff_not]
  clear hF hL
  have hpar2 : ((m : Int) % 2 != 0) = true := by simp; omega
  have h2z : (4 * (m : Int) - 2) = ((4 * m - 2 : Nat) : Int) := by omega
  have H2' := Lib.hid (fun g1 g2 v u W (h : Sr w g1 g2 v u X Y W) => H2.out g1 g2 v u W h)
  rw [← h2z] at H2'
  have H1' := Lib.hid (fun g1 g2 v u W (h : Sr w g1 g2 v u X Y W) => H1.out g1 g2 v u W h)
  rw [show ((4 * m : Nat) : Int) = 4 * (m : Int) by omega] at H1'
  have H3' := Lib.hid (fun g1 g2 v u W (h : Sr w g1 g2 v u X Y W) => H3.out g1 g2 v u W h)
  rw [show ((4 * m + 2 : Nat) : Int) = 4 * (m : Int) + 2 by omega] at H3'
  clear hXb hYb hX2 hY0 mono hA0 hF0 hL0 hab hfb hlb H1 H2 H3 hA hM hFF hLL hsB h2z hp hK
  have hcB : ((m : Int) == 4503599627370496) = false := by simp; omega
  go_enter Tryz.func124, Tryz.ntmps124
  go_wp2_with fail
  refine (HLn.out _).mono ?_
  rintro r w' ⟨rfl, rfl⟩
  go_wp2_with fail
  refine (HDe.out _ _ (by omega) (by omega)).mono ?_
  rintro r w' ⟨rfl, rfl⟩
  rw [HDD.out]
  go_wp2_with fail
  refine (HRa.out _).mono ?_
  rintro r w1 ⟨v1, u1, rfl, hv1, hu1, hb1⟩
  have HV1 := Lib.hid hv1
  have HU1 := Lib.hid hu1
  obtain ⟨A1, n1, c1, f1, rfl, -⟩ := hv1
  obtain ⟨A2, n2, c2, f2, rfl, -⟩ := hu1
  obtain ⟨hbw, hcont⟩ := Sr.begun (w := w) (w1 := w1) (A1 := A1) (A2 := A2) (n1 := n1) (c1 := c1) (n2 := n2) (c2 := c2) (T1 := 48) (T2 := 48) hb1
  have HCO := Lib.hid hcont
  have HBW := Lib.hid hbw
  clear hb1 hcont hbw
  go_wp2_with fail
  refine (HTP.out _ _ _ (HV1.out.below HBW.out) (HU1.out.below HBW.out)).mono ?_
  rintro r w2 ⟨v2, u2, rfl, hv2, hu2, hb2⟩
  obtain ⟨⟨k1, k2, k3, k4⟩, hsr⟩ := HCO.out w2 hb2
  have HSR := Lib.hid (hsr _ _ _ _ hv2 hu2)
  obtain ⟨A3, n3, c3, f3, rfl, -⟩ := hv2
  obtain ⟨A4, n4, c4, f4, rfl, -⟩ := hu2
  clear hb2 hsr HCO HBW HTP HV1 HU1 HRa HLn HDD HDe
  go_wp2_with fail
  clear k1 k2 k3 k4
  generalize (w2.setCell ⟨w1.heap.size, 0, none⟩ (.slice A3 n3 c3)).setCell ⟨w1.heap.size + 1, 0, none⟩ (.slice A4 n4 c4) = W3 at HSR ⊢
  go_wp2_with fail
  refine (H1'.out _ _ _ _ _ HSR.out).mono ?_
  rintro r w4 ⟨rfl, hs4⟩
  have HS4 := Lib.hid hs4
  clear hs4 HSR
  go_wp2_with fail
  refine (H2'.out _ _ _ _ _ HS4.out).mono ?_
  rintro r w5 ⟨rfl, hs5⟩
  have HS5 := Lib.hid hs5
  clear hs5 HS4
  go_wp2_with fail
  refine (H3'.out _ _ _ _ _ HS5.out).mono ?_
  rintro r w6 ⟨rfl, hs6⟩
  have HS6 := Lib.hid hs6
  obtain ⟨r0, r1, r2, r3, r4⟩ := hs6.rall
  obtain ⟨m0, m1, m2, m3, m4⟩ := hs6.rmk
  clear hs6 HS5 H1' H2' H3'
  cases fb
  case false =>
    cases lb
    case false =>
      have hFx : FF = F0 + 1 := by rw [hF']; simp [hpar]
      have hLx : LL = L0 - 1 := by rw [hL']; simp [hpar]
      clear hF' hL'
      go_wp2_with fail
      have hFz : ((F0 + 1 : Nat) : Int) = (F0 : Int) + 1 := by omega
      have hLz : ((L0 - 1 : Nat) : Int) = (L0 : Int) - 1 := by omega
      refine bodyPost_ret (v := .agg #[.int .u64 (A0 : Int), .bool ab, .int .u64 ((F0 : Int) + 1), .int .u64 ((L0 : Int) - 1), .int .i64 p]) (by simp [results, Tryz.results124, go_sem, r0, r1, r2, r3, r4]) rfl ⟨by rw [HV.out, hFx, hLx, hFz, hLz], ?_⟩
      exact ((((HS6.out.s.b.setCell (Nat.le_refl _) _).setCell (Nat.le_refl _) _).setCell (Nat.le_refl _) _).setCell (Nat.le_refl _) _).setCell (Nat.le_refl _) _
    case true =>
      have hFx : FF = F0 + 1 := by rw [hF']; simp [hpar]
      have hLx : LL = L0 := by rw [hL']; simp [hpar]
      clear hF' hL'
      go_wp2_with fail
      have hFz : ((F0 + 1 : Nat) : Int) = (F0 : Int) + 1 := by omega
      have hLz : ((L0 : Nat) : Int) = (L0 : Int) := by omega
      refine bodyPost_ret (v := .agg #[.int .u64 (A0 : Int), .bool ab, .int .u64 ((F0 : Int) + 1), .int .u64 ((L0 : Int)), .int .i64 p]) (by simp [results, Tryz.results124, go_sem, r0, r1, r2, r3, r4]) rfl ⟨by rw [HV.out, hFx, hLx, hFz, hLz], ?_⟩
      exact ((((HS6.out.s.b.setCell (Nat.le_refl _) _).setCell (Nat.le_refl _) _).setCell (Nat.le_refl _) _).setCell (Nat.le_refl _) _).setCell (Nat.le_refl _) _
  case true =>
    cases lb
    case false =>
      have hFx : FF = F0 + 1 := by rw [hF']; simp [hpar]
      have hLx : LL = L0 - 1 := by rw [hL']; simp [hpar]
      clear hF' hL'
      go_wp2_with fail
      have hFz : ((F0 + 1 : Nat) : Int) = (F0 : Int) + 1 := by omega
      have hLz : ((L0 - 1 : Nat) : Int) = (L0 : Int) - 1 := by omega
      refine bodyPost_ret (v := .agg #[.int .u64 (A0 : Int), .bool ab, .int .u64 ((F0 : Int) + 1), .int .u64 ((L0 : Int) - 1), .int .i64 p]) (by simp [results, Tryz.results124, go_sem, r0, r1, r2, r3, r4]) rfl ⟨by rw [HV.out, hFx, hLx, hFz, hLz], ?_⟩
      exact ((((HS6.out.s.b.setCell (Nat.le_refl _) _).setCell (Nat.le_refl _) _).setCell (Nat.le_refl _) _).setCell (Nat.le_refl _) _).setCell (Nat.le_refl _) _
    case true =>
      have hFx : FF = F0 + 1 := by rw [hF']; simp [hpar]
      have hLx : LL = L0 := by rw [hL']; simp [hpar]
      clear hF' hL'
      go_wp2_with fail
      have hFz : ((F0 + 1 : Nat) : Int) = (F0 : Int) + 1 := by omega
      have hLz : ((L0 : Nat) : Int) = (L0 : Int) := by omega
      refine bodyPost_ret (v := .agg #[.int .u64 (A0 : Int), .bool ab, .int .u64 ((F0 : Int) + 1), .int .u64 ((L0 : Int)), .int .i64 p]) (by simp [results, Tryz.results124, go_sem, r0, r1, r2, r3, r4]) rfl ⟨by rw [HV.out, hFx, hLx, hFz, hLz], ?_⟩
      exact ((((HS6.out.s.b.setCell (Nat.le_refl _) _).setCell (Nat.le_refl _) _).setCell (Nat.le_refl _) _).setCell (Nat.le_refl _) _).setCell (Nat.le_refl _) _
set_option maxRecDepth 100000 in
set_option maxHeartbeats 8000000 in
theorem newSpan_1e (m : Nat) (e : Int) (w : World) (hm0 : 0 < m) (hm : m < 9007199254740992) (he1 : -1074 ≤ e) (he2 : e ≤ 971) (hq : (4 * m + 2) * spX m e / spY m e < 9223372036854775807) (hl : 1 ≤ (4 * m + 2) * spX m e / spY m e) (hcm : m = 4503599627370496) (hce : ¬ -1074 < e) (hpar : m % 2 = 0) :
    Calls Tryz.prog 124 #[.int .u64 (m : Int), .int .i64 e] w (SpAns m e w) := by
  have hbl1 := (bl_ge (N := m) (by omega)).2
  have hbl2 : bl m ≤ 53 := bl_le (k := 53) (by omega)
  have HLn := Lib.hid (fun W => Tryz.bits_Len64 (m : Int) W (by omega) (by omega))
  rw [Int.toNat_natCast, bitLen_nat (by omega)] at HLn
  have HDe := Lib.hid (fun n W (h1 : -1100 ≤ n) (h2 : n ≤ 1100) => decimals_any n W h1 h2)
  obtain ⟨p, hp⟩ : ∃ p, spP m e = p := ⟨_, rfl⟩
  have hpd : dcm ((bl m : Int) - 1 + e) + 1 - 18 = p := hp
  have hdb : -400 ≤ dcm ((bl m : Int) - 1 + e) ∧ dcm ((bl m : Int) - 1 + e) ≤ 400 := by unfold dcm; omega
  obtain ⟨dd, hdd⟩ : ∃ d, dcm ((bl m : Int) - 1 + e) = d := ⟨_, rfl⟩
  obtain ⟨K, hK⟩ : ∃ K, bl m = K := ⟨_, rfl⟩
  rw [hdd] at hpd hdb
  rw [hK] at hdd hbl1 hbl2 HLn
  have HDD := Lib.hid hdd
  have eX : spX m e = 10 ^ (-p).toNat * 2 ^ (e - 2).toNat := by unfold spX; rw [hp]
  have eY : spY m e = 10 ^ p.toNat * 2 ^ (-(e - 2)).toNat := by unfold spY; rw [hp]
  have HRa := Lib.hid (fun W => ratio_any ⟨#[49]⟩ (-p) W (by decide) (by decide) (by decide) (by omega) (by omega))
  rw [show dv (bt ⟨#[49]⟩) (ByteArray.size ⟨#[49]⟩) = 1 by decide, Nat.one_mul, Int.neg_neg] at HRa
  obtain ⟨hXb, hYb, hX2, hY0⟩ := sp_fits (p := p) he1 he2 (by omega) (by omega) eX eY
  have HTP := Lib.hid (fun v u W (hv : N W v (10 ^ (-p).toNat)) (hu : N W u (10 ^ p.toNat)) => ftimesPower_any v u (10 ^ (-p).toNat) (10 ^ p.toNat) (e - 2) W hv hu (by omega) (by omega) (by rw [← eX]; exact hXb) (by rw [← eY]; exact hYb))
  rw [← eX, ← eY] at HTP
  have hsB : spB m e = 2 := if_neg (fun h => hce h.2)
  have hF : spF m e = (4 * m - 2) * spX m e / spY m e + (if 0 < (4 * m - 2) * spX m e % spY m e ∨ m % 2 = 1 then 1 else 0) := by unfold spF; rw [hsB]
  have hL : spL m e = (4 * m + 2) * spX m e / spY m e - (if m % 2 = 1 ∧ ¬ 0 < (4 * m + 2) * spX m e % spY m e then 1 else 0) := rfl
  have hA : spA m e = 4 * m * spX m e / spY m e := rfl
  have hM : spM m e = decide (0 < 4 * m * spX m e % spY m e) := rfl
  generalize spX m e = X at *
  generalize spY m e = Y at *
  clear eX eY
  have mono : ∀ q, q ≤ 4 * m + 2 → q * X / Y < 9223372036854775807 := fun q h => Nat.lt_of_le_of_lt (Nat.div_le_div_right (Nat.mul_le_mul_right _ h)) hq
  have hA1 := mono (4 * m) (by omega)
  have hF1 := mono (4 * m - 2) (by omega)
  have H1 := Lib.hid (fun g1 g2 v u W (h : Sr w g1 g2 v u X Y W) => sr_units (4 * m) (by omega) (hX2 _ (by omega)) hXb hYb hY0 (by omega) h)
  have H2 := Lib.hid (fun g1 g2 v u W (h : Sr w g1 g2 v u X Y W) => sr_units (4 * m - 2) (by omega) (hX2 _ (by omega)) hXb hYb hY0 (by omega) h)
  have H3 := Lib.hid (fun g1 g2 v u W (h : Sr w g1 g2 v u X Y W) => sr_units (4 * m + 2) (by omega) (hX2 _ (by omega)) hXb hYb hY0 (by omega) h)
  obtain ⟨A0, hA0⟩ : ∃ q, 4 * m * X / Y = q := ⟨_, rfl⟩
  obtain ⟨F0, hF0⟩ : ∃ q, (4 * m - 2) * X / Y = q := ⟨_, rfl⟩
  obtain ⟨L0, hL0⟩ : ∃ q, (4 * m + 2) * X / Y = q := ⟨_, rfl⟩
  obtain ⟨ab, hab⟩ : ∃ q, decide (0 < 4 * m * X % Y) = q := ⟨_, rfl⟩
  obtain ⟨fb, hfb⟩ : ∃ q, decide (0 < (4 * m - 2) * X % Y) = q := ⟨_, rfl⟩
  obtain ⟨lb, hlb⟩ : ∃ q, decide (0 < (4 * m + 2) * X % Y) = q := ⟨_, rfl⟩
  rw [hA0, hab] at H1
  rw [hF0, hfb] at H2
  rw [hL0, hlb] at H3
  rw [hA0] at hA hA1
  rw [hab] at hM
  rw [hF0] at hF hF1
  rw [hL0] at hL hq hl
  obtain ⟨FF, hFF⟩ : ∃ q, spF m e = q := ⟨_, rfl⟩
  obtain ⟨LL, hLL⟩ : ∃ q, spL m e = q := ⟨_, rfl⟩
  have HV : Hid (spV (spA m e) (spM m e) (spF m e) (spL m e) (spP m e) = .agg #[.int .u64 (A0 : Int), .bool ab, .int .u64 (FF : Int), .int .u64 (LL : Int), .int .i64 p]) := Lib.hid (by unfold spV; rw [hA, hM, hp, hFF, hLL])
  rw [hFF] at hF
  rw [hLL] at hL
  have hF' : FF = F0 + (if fb = true ∨ m % 2 = 1 then 1 else 0) := by rw [hF, ← hfb]; simp only [decide_eq_true_eq]
  have hL' : LL = L0 - (if m % 2 = 1 ∧ lb = false then 1 else 0) := by rw [hL, ← hlb]; simp only [decide_eq_false_iff_not]
  clear hF hL
  have hpar2 : ((m : Int) % 2 != 0) = false := by simp; omega
  have h2z : (4 * (m : Int) - 2) = ((4 * m - 2 : Nat) : Int) := by omega
  have H2' := Lib.hid (fun g1 g2 v u W (h : Sr w g1 g2 v u X Y W) => H2.out g1 g2 v u W h)
  rw [← h2z] at H2'
  have H1' := Lib.hid (fun g1 g2 v u W (h : Sr w g1 g2 v u X Y W) => H1.out g1 g2 v u W h)
  rw [show ((4 * m : Nat) : Int) = 4 * (m : Int) by omega] at H1'
  have H3' := Lib.hid (fun g1 g2 v u W (h : Sr w g1 g2 v u X Y W) => H3.out g1 g2 v u W h)
  rw [show ((4 * m + 2 : Nat) : Int) = 4 * (m : Int) + 2 by omega] at H3'
  clear hXb hYb hX2 hY0 mono hA0 hF0 hL0 hab hfb hlb H1 H2 H3 hA hM hFF hLL hsB h2z hp hK
  have hcB : ((m : Int) == 4503599627370496) = true := by simp; omega
  have hcG : decide (e > -1074) = false := by simp; omega
  have hcH : decide (-1074 < e) = false := hcG
  clear hcm hce
  go_enter Tryz.func124, Tryz.ntmps124
  go_wp2_with fail
  refine (HLn.out _).mono ?_
  rintro r w' ⟨rfl, rfl⟩
  go_wp2_with fail
  refine (HDe.out _ _ (by omega) (by omega)).mono ?_
  rintro r w' ⟨rfl, rfl⟩
  rw [HDD.out]
  go_wp2_with fail
  refine (HRa.out _).mono ?_
  rintro r w1 ⟨v1, u1, rfl, hv1, hu1, hb1⟩
  have HV1 := Lib.hid hv1
  have HU1 := Lib.hid hu1
  obtain ⟨A1, n1, c1, f1, rfl, -⟩ := hv1
  obtain ⟨A2, n2, c2, f2, rfl, -⟩ := hu1
  obtain ⟨hbw, hcont⟩ := Sr.begun (w := w) (w1 := w1) (A1 := A1) (A2 := A2) (n1 := n1) (c1 := c1) (n2 := n2) (c2 := c2) (T1 := 48) (T2 := 48) hb1
  have HCO := Lib.hid hcont
  have HBW := Lib.hid hbw
  clear hb1 hcont hbw
  go_wp2_with fail
  refine (HTP.out _ _ _ (HV1.out.below HBW.out) (HU1.out.below HBW.out)).mono ?_
  rintro r w2 ⟨v2, u2, rfl, hv2, hu2, hb2⟩
  obtain ⟨⟨k1, k2, k3, k4⟩, hsr⟩ := HCO.out w2 hb2
  have HSR := Lib.hid (hsr _ _ _ _ hv2 hu2)
  obtain ⟨A3, n3, c3, f3, rfl, -⟩ := hv2
  obtain ⟨A4, n4, c4, f4, rfl, -⟩ := hu2
  clear hb2 hsr HCO HBW HTP HV1 HU1 HRa HLn HDD HDe
  go_wp2_with fail
  clear k1 k2 k3 k4
  generalize (w2.setCell ⟨w1.heap.size, 0, none⟩ (.slice A3 n3 c3)).setCell ⟨w1.heap.size + 1, 0, none⟩ (.slice A4 n4 c4) = W3 at HSR ⊢
  go_wp2_with fail
  refine (H1'.out _ _ _ _ _ HSR.out).mono ?_
  rintro r w4 ⟨rfl, hs4⟩
  have HS4 := Lib.hid hs4
  clear hs4 HSR
  go_wp2_with fail
  refine (H2'.out _ _ _ _ _ HS4.out).mono ?_
  rintro r w5 ⟨rfl, hs5⟩
  have HS5 := Lib.hid hs5
  clear hs5 HS4
  go_wp2_with fail
  refine (H3'.out _ _ _ _ _ HS5.out).mono ?_
  rintro r w6 ⟨rfl, hs6⟩
  have HS6 := Lib.hid hs6
  obtain ⟨r0, r1, r2, r3, r4⟩ := hs6.rall
  obtain ⟨m0, m1, m2, m3, m4⟩ := hs6.rmk
  clear hs6 HS5 H1' H2' H3'
  cases fb
  case false =>
    have hFx : FF = F0 := by rw [hF']; simp [hpar]
    have hLx : LL = L0 := by rw [hL']; simp [hpar]
    clear hF' hL'
    go_wp2_with fail
    have hFz : ((F0 : Nat) : Int) = (F0 : Int) := by omega
    have hLz : ((L0 : Nat) : Int) = (L0 : Int) := by omega
    refine bodyPost_ret (v := .agg #[.int .u64 (A0 : Int), .bool ab, .int .u64 ((F0 : Int)), .int .u64 ((L0 : Int)), .int .i64 p]) (by simp [results, Tryz.results124, go_sem, r0, r1, r2, r3, r4]) rfl ⟨by rw [HV.out, hFx, hLx, hFz, hLz], ?_⟩
    exact ((((HS6.out.s.b.setCell (Nat.le_refl _) _).setCell (Nat.le_refl _) _).setCell (Nat.le_refl _) _).setCell (Nat.le_refl _) _).setCell (Nat.le_refl _) _
  case true =>
    have hFx : FF = F0 + 1 := by rw [hF']; simp [hpar]
    have hLx : LL = L0 := by rw [hL']; simp [hpar]
    clear hF' hL'
    go_wp2_with fail
    have hFz : ((F0 + 1 : Nat) : Int) = (F0 : Int) + 1 := by omega
    have hLz : ((L0 : Nat) : Int) = (L0 : Int) := by omega
    refine bodyPost_ret (v := .agg #[.int .u64 (A0 : Int), .bool ab, .int .u64 ((F0 : Int) + 1), .int .u64 ((L0 : Int)), .int .i64 p]) (by simp [results, Tryz.results124, go_sem, r0, r1, r2, r3, r4]) rfl ⟨by rw [HV.out, hFx, hLx, hFz, hLz], ?_⟩
    exact ((((HS6.out.s.b.setCell (Nat.le_refl _) _).setCell (Nat.le_refl _) _).setCell (Nat.le_refl _) _).setCell (Nat.le_refl _) _).setCell (Nat.le_refl _) _
set_option maxRecDepth 100000 in
set_option maxHeartbeats 8000000 in
theorem newSpan_2e (m : Nat) (e : Int) (w : World) (hm0 : 0 < m) (hm : m < 9007199254740992) (he1 : -1074 ≤ e) (he2 : e ≤ 971) (hq : (4 * m + 2) * spX m e / spY m e < 9223372036854775807) (hl : 1 ≤ (4 * m + 2) * spX m e / spY m e) (hcm : m = 4503599627370496) (hce : -1074 < e) (hpar : m % 2 = 0) :
    Calls Tryz.prog 124 #[.int .u64 (m : Int), .int .i64 e] w (SpAns m e w) := by
  have hbl1 := (bl_ge (N := m) (by omega)).2
  have hbl2 : bl m ≤ 53 := bl_le (k := 53) (by omega)
  have HLn := Lib.hid (fun W => Tryz.bits_Len64 (m : Int) W (by omega) (by omega))
  rw [Int.toNat_natCast, bitLen_nat (by omega)] at HLn
  have HDe := Lib.hid (fun n W (h1 : -1100 ≤ n) (h2 : n ≤ 1100) => decimals_any n W h1 h2)
  obtain ⟨p, hp⟩ : ∃ p, spP m e = p := ⟨_, rfl⟩
  have hpd : dcm ((bl m : Int) - 1 + e) + 1 - 18 = p := hp
  have hdb : -400 ≤ dcm ((bl m : Int) - 1 + e) ∧ dcm ((bl m : Int) - 1 + e) ≤ 400 := by unfold dcm; omega
  obtain ⟨dd, hdd⟩ : ∃ d, dcm ((bl m : Int) - 1 + e) = d := ⟨_, rfl⟩
  obtain ⟨K, hK⟩ : ∃ K, bl m = K := ⟨_, rfl⟩
  rw [hdd] at hpd hdb
  rw [hK] at hdd hbl1 hbl2 HLn
  have HDD := Lib.hid hdd
  have eX : spX m e = 10 ^ (-p).toNat * 2 ^ (e - 2).toNat := by unfold spX; rw [hp]
  have eY : spY m e = 10 ^ p.toNat * 2 ^ (-(e - 2)).toNat := by unfold spY; rw [hp]
  have HRa := Lib.hid (fun W => ratio_any ⟨#[49]⟩ (-p) W (by decide) (by decide) (by decide) (by omega) (by omega))
  rw [show dv (bt ⟨#[49]⟩) (ByteArray.size ⟨#[49]⟩) = 1 by decide, Nat.one_mul, Int.neg_neg] at HRa
  obtain ⟨hXb, hYb, hX2, hY0⟩ := sp_fits (p := p) he1 he2 (by omega) (by omega) eX eY
  have HTP := Lib.hid (fun v u W (hv : N W v (10 ^ (-p).toNat)) (hu : N W u (10 ^ p.toNat)) => ftimesPower_any v u (10 ^ (-p).toNat) (10 ^ p.toNat) (e - 2) W hv hu (by omega) (by omega) (by rw [← eX]; exact hXb) (by rw [← eY]; exact hYb))
  rw [← eX, ← eY] at HTP
  have hsB : spB m e = 1 := if_pos ⟨hcm, hce⟩
  have hF : spF m e = (4 * m - 1) * spX m e / spY m e + (if 0 < (4 * m - 1) * spX m e % spY m e ∨ m % 2 = 1 then 1 else 0) := by unfold spF; rw [hsB]
  have hL : spL m e = (4 * m + 2) * spX m e / spY m e - (if m % 2 = 1 ∧ ¬ 0 < (4 * m + 2) * spX m e % spY m e then 1 else 0) := rfl
  have hA : spA m e = 4 * m * spX m e / spY m e := rfl
  have hM : spM m e = decide (0 < 4 * m * spX m e % spY m e) := rfl
  generalize spX m e = X at *
  generalize spY m e = Y at *
  clear eX eY
  have mono : ∀ q, q ≤ 4 * m + 2 → q * X / Y < 9223372036854775807 := fun q h => Nat.lt_of_le_of_lt (Nat.div_le_div_right (Nat.mul_le_mul_right _ h)) hq
  have hA1 := mono (4 * m) (by omega)
  have hF1 := mono (4 * m - 1) (by omega)
  have H1 := Lib.hid (fun g1 g2 v u W (h : Sr w g1 g2 v u X Y W) => sr_units (4 * m) (by omega) (hX2 _ (by omega)) hXb hYb hY0 (by omega) h)
  have H2 := Lib.hid (fun g1 g2 v u W (h : Sr w g1 g2 v u X Y W) => sr_units (4 * m - 1) (by omega) (hX2 _ (by omega)) hXb hYb hY0 (by omega) h)
  have H3 := Lib.hid (fun g1 g2 v u W (h : Sr w g1 g2 v u X Y W) => sr_units (4 * m + 2) (by omega) (hX2 _ (by omega)) hXb hYb hY0 (by omega) h)
  obtain ⟨A0, hA0⟩ : ∃ q, 4 * m * X / Y = q := ⟨_, rfl⟩
  obtain ⟨F0, hF0⟩ : ∃ q, (4 * m - 1) * X / Y = q := ⟨_, rfl⟩
  obtain ⟨L0, hL0⟩ : ∃ q, (4 * m + 2) * X / Y = q := ⟨_, rfl⟩
  obtain ⟨ab, hab⟩ : ∃ q, decide (0 < 4 * m * X % Y) = q := ⟨_, rfl⟩
  obtain ⟨fb, hfb⟩ : ∃ q, decide (0 < (4 * m - 1) * X % Y) = q := ⟨_, rfl⟩
  obtain ⟨lb, hlb⟩ : ∃ q, decide (0 < (4 * m + 2) * X % Y) = q := ⟨_, rfl⟩
  rw [hA0, hab] at H1
  rw [hF0, hfb] at H2
  rw [hL0, hlb] at H3
  rw [hA0] at hA hA1
  rw [hab] at hM
  rw [hF0] at hF hF1
  rw [hL0] at hL hq hl
  obtain ⟨FF, hFF⟩ : ∃ q, spF m e = q := ⟨_, rfl⟩
  obtain ⟨LL, hLL⟩ : ∃ q, spL m e = q := ⟨_, rfl⟩
  have HV : Hid (spV (spA m e) (spM m e) (spF m e) (spL m e) (spP m e) = .agg #[.int .u64 (A0 : Int), .bool ab, .int .u64 (FF : Int), .int .u64 (LL : Int), .int .i64 p]) := Lib.hid (by unfold spV; rw [hA, hM, hp, hFF, hLL])
  rw [hFF] at hF
  rw [hLL] at hL
  have hF' : FF = F0 + (if fb = true ∨ m % 2 = 1 then 1 else 0) := by rw [hF, ← hfb]; simp only [decide_eq_true_eq]
  have hL' : LL = L0 - (if m % 2 = 1 ∧ lb = false then 1 else 0) := by rw [hL, ← hlb]; simp only [decide_eq_false_iff_not]
  clear hF hL
  have hpar2 : ((m : Int) % 2 != 0) = false := by simp; omega
  have h2z : (4 * (m : Int) - 1) = ((4 * m - 1 : Nat) : Int) := by omega
  have H2' := Lib.hid (fun g1 g2 v u W (h : Sr w g1 g2 v u X Y W) => H2.out g1 g2 v u W h)
  rw [← h2z] at H2'
  have H1' := Lib.hid (fun g1 g2 v u W (h : Sr w g1 g2 v u X Y W) => H1.out g1 g2 v u W h)
  rw [show ((4 * m : Nat) : Int) = 4 * (m : Int) by omega] at H1'
  have H3' := Lib.hid (fun g1 g2 v u W (h : Sr w g1 g2 v u X Y W) => H3.out g1 g2 v u W h)
  rw [show ((4 * m + 2 : Nat) : Int) = 4 * (m : Int) + 2 by omega] at H3'
  clear hXb hYb hX2 hY0 mono hA0 hF0 hL0 hab hfb hlb H1 H2 H3 hA hM hFF hLL hsB h2z hp hK
  have hcB : ((m : Int) == 4503599627370496) = true := by simp; omega
  have hcG : decide (e > -1074) = true := by simp; omega
  have hcH : decide (-1074 < e) = true := hcG
  clear hcm hce
  go_enter Tryz.func124, Tryz.ntmps124
  go_wp2_with fail
  refine (HLn.out _).mono ?_
  rintro r w' ⟨rfl, rfl⟩
  go_wp2_with fail
  refine (HDe.out _ _ (by omega) (by omega)).mono ?_
  rintro r w' ⟨rfl, rfl⟩
  rw [HDD.out]
  go_wp2_with fail
  refine (HRa.out _).mono ?_
  rintro r w1 ⟨v1, u1, rfl, hv1, hu1, hb1⟩
  have HV1 := Lib.hid hv1
  have HU1 := Lib.hid hu1
  obtain ⟨A1, n1, c1, f1, rfl, -⟩ := hv1
  obtain ⟨A2, n2, c2, f2, rfl, -⟩ := hu1
  obtain ⟨hbw, hcont⟩ := Sr.begun (w := w) (w1 := w1) (A1 := A1) (A2 := A2) (n1 := n1) (c1 := c1) (n2 := n2) (c2 := c2) (T1 := 48) (T2 := 48) hb1
  have HCO := Lib.hid hcont
  have HBW := Lib.hid hbw
  clear hb1 hcont hbw
  go_wp2_with fail
  refine (HTP.out _ _ _ (HV1.out.below HBW.out) (HU1.out.below HBW.out)).mono ?_
  rintro r w2 ⟨v2, u2, rfl, hv2, hu2, hb2⟩
  obtain ⟨⟨k1, k2, k3, k4⟩, hsr⟩ := HCO.out w2 hb2
  have HSR := Lib.hid (hsr _ _ _ _ hv2 hu2)
  obtain ⟨A3, n3, c3, f3, rfl, -⟩ := hv2
  obtain ⟨A4, n4, c4, f4, rfl, -⟩ := hu2
  clear hb2 hsr HCO HBW HTP HV1 HU1 HRa HLn HDD HDe
  go_wp2_with fail
  clear k1 k2 k3 k4
  generalize (w2.setCell ⟨w1.heap.size, 0, none⟩ (.slice A3 n3 c3)).setCell ⟨w1.heap.size + 1, 0, none⟩ (.slice A4 n4 c4) = W3 at HSR ⊢
  go_wp2_with fail
  refine (H1'.out _ _ _ _ _ HSR.out).mono ?_
  rintro r w4 ⟨rfl, hs4⟩
  have HS4 := Lib.hid hs4
  clear hs4 HSR
  go_wp2_with fail
  refine (H2'.out _ _ _ _ _ HS4.out).mono ?_
  rintro r w5 ⟨rfl, hs5⟩
  have HS5 := Lib.hid hs5
  clear hs5 HS4
  go_wp2_with fail
  refine (H3'.out _ _ _ _ _ HS5.out).mono ?_
  rintro r w6 ⟨rfl, hs6⟩
  have HS6 := Lib.hid hs6
  obtain ⟨r0, r1, r2, r3, r4⟩ := hs6.rall
  obtain ⟨m0, m1, m2, m3, m4⟩ := hs6.rmk
  clear hs6 HS5 H1' H2' H3'
  cases fb
  case false =>
    have hFx : FF = F0 := by rw [hF']; simp [hpar]
    have hLx : LL = L0 := by rw [hL']; simp [hpar]
    clear hF' hL'
    go_wp2_with fail
    have hFz : ((F0 : Nat) : Int) = (F0 : Int) := by omega
    have hLz : ((L0 : Nat) : Int) = (L0 : Int) := by omega
    refine bodyPost_ret (v := .agg #[.int .u64 (A0 : Int), .bool ab, .int .u64 ((F0 : Int)), .int .u64 ((L0 : Int)), .int .i64 p]) (by simp [results, Tryz.results124, go_sem, r0, r1, r2, r3, r4]) rfl ⟨by rw [HV.out, hFx, hLx, hFz, hLz], ?_⟩
    exact ((((HS6.out.s.b.setCell (Nat.le_refl _) _).setCell (Nat.le_refl _) _).setCell (Nat.le_refl _) _).setCell (Nat.le_refl _) _).setCell (Nat.le_refl _) _
  case true =>
    have hFx : FF = F0 + 1 := by rw [hF']; simp [hpar]
    have hLx : LL = L0 := by rw [hL']; simp [hpar]
    clear hF' hL'
    go_wp2_with fail
    have hFz : ((F0 + 1 : Nat) : Int) = (F0 : Int) + 1 := by omega
    have hLz : ((L0 : Nat) : Int) = (L0 : Int) := by omega
    refine bodyPost_ret (v := .agg #[.int .u64 (A0 : Int), .bool ab, .int .u64 ((F0 : Int) + 1), .int .u64 ((L0 : Int)), .int .i64 p]) (by simp [results, Tryz.results124, go_sem, r0, r1, r2, r3, r4]) rfl ⟨by rw [HV.out, hFx, hLx, hFz, hLz], ?_⟩
    exact ((((HS6.out.s.b.setCell (Nat.le_refl _) _).setCell (Nat.le_refl _) _).setCell (Nat.le_refl _) _).setCell (Nat.le_refl _) _).setCell (Nat.le_refl _) _
theorem newSpan_any (m : Nat) (e : Int) (w : World) (hm0 : 0 < m) (hm : m < 9007199254740992) (he1 : -1074 ≤ e) (he2 : e ≤ 971) (hq : (4 * m + 2) * spX m e / spY m e < 9223372036854775807) (hl : 1 ≤ (4 * m + 2) * spX m e / spY m e) :
    Calls Tryz.prog 124 #[.int .u64 (m : Int), .int .i64 e] w (SpAns m e w) := by
  by_cases c : m = 4503599627370496
  · by_cases d : -1074 < e
    · exact newSpan_2e m e w hm0 hm he1 he2 hq hl c d (by omega)
    · exact newSpan_1e m e w hm0 hm he1 he2 hq hl c d (by omega)
  · rcases (by omega : m % 2 = 0 ∨ m % 2 = 1) with h | h
    · exact newSpan_0e m e w hm0 hm he1 he2 hq hl c h
    · exact newSpan_0o m e w hm0 hm he1 he2 hq hl c h
end Go.Proofs.YtljbnnpmnoejeaaGreatDoor.nn
namespace Go.Proofs.YtljbnnpmnoejeaaGreatDoor.nn
open Go.RowKit

/-- with k bits and the exponent e: the amount is 10^17 at least, its upper end below 4 * 10^18 -/
def spOk (k : Nat) (e : Int) : Bool :=
  let p := dcm ((k : Int) - 1 + e) + 1 - 18
  let X := 10 ^ (-p).toNat * 2 ^ (e - 2).toNat
  let Y := 10 ^ p.toNat * 2 ^ (-(e - 2)).toNat
  Nat.ble (100000000000000000 * Y) (4 * 2 ^ (k - 1) * X) && Nat.ble (4 * 2 ^ k * X) (4000000000000000000 * Y)
def okLow : Nat → Bool | 0 => true | k + 1 => spOk (k + 1) (-1074) && okLow k
def okHigh : Nat → Bool | 0 => true | j + 1 => spOk 53 ((j : Int) - 1074) && okHigh j
theorem okLow_all : okLow 53 = true := by decide +kernel
theorem okHigh_all : okHigh 2046 = true := by decide +kernel
theorem okLow_at : ∀ n, okLow n = true → ∀ k, 1 ≤ k → k ≤ n → spOk k (-1074) = true := fun n => by
  induction n with
  | zero => intro _ k h1 h2; omega
  | succ n ih =>
    intro h k h1 h2
    rw [okLow, Bool.and_eq_true] at h
    rcases (by omega : k = n + 1 ∨ k ≤ n) with rfl | g
    · exact h.1
    · exact ih h.2 k h1 g
theorem okHigh_at : ∀ n, okHigh n = true → ∀ j : Nat, j < n → spOk 53 ((j : Int) - 1074) = true := fun n => by
  induction n with
  | zero => intro _ k h1; omega
  | succ n ih =>
    intro h k h1
    rw [okHigh, Bool.and_eq_true] at h
    rcases (by omega : k = n ∨ k < n) with rfl | g
    · exact h.1
    · exact ih h.2 k g
/-- a float's m and e -/
def Fe (m : Nat) (e : Int) : Prop := 0 < m ∧ m < 2 * h52 ∧ -1074 ≤ e ∧ e ≤ 971 ∧ (e = -1074 ∨ h52 ≤ m)
theorem Fe.ok {m : Nat} {e : Int} (h : Fe m e) : spOk (bl m) e = true := by
  obtain ⟨h1, h2, h3, h4, h5⟩ := h
  have b1 := (bl_ge (N := m) (by omega)).2
  have b2 : bl m ≤ 53 := bl_le (k := 53) (by rw [h52] at h2; omega)
  rcases h5 with rfl | h5
  · exact okLow_at 53 okLow_all _ (by omega) b2
  · have b3 : bl m = 53 := by
      rcases (by omega : bl m = 53 ∨ bl m ≤ 52) with g | g
      · exact g
      · have := bl_lt m
        have := Nat.pow_le_pow_right (n := 2) (by decide) g
        rw [h52_eq] at this
        omega
    rw [b3]
    have := okHigh_at 2046 okHigh_all (e + 1074).toNat (by omega)
    rwa [show (((e + 1074).toNat : Nat) : Int) - 1074 = e by omega] at this

/-- what the ends of a span keep to -/
theorem Fe.ends {m : Nat} {e : Int} (h : Fe m e) : 0 < spY m e ∧ 100000000000000000 * spY m e ≤ 4 * m * spX m e ∧ (4 * m + 2) * spX m e < 4000000000000000000 * spY m e := by
  have h0 := h.ok
  have hX : spX m e = 10 ^ (-(spP m e)).toNat * 2 ^ (e - 2).toNat := rfl
  have hY : spY m e = 10 ^ (spP m e).toNat * 2 ^ (-(e - 2)).toNat := rfl
  have hY0 : 0 < spY m e := by rw [hY]; exact Nat.mul_pos (Nat.pow_pos (by decide)) (Nat.two_pow_pos _)
  have hX0 : 0 < spX m e := by rw [hX]; exact Nat.mul_pos (Nat.pow_pos (by decide)) (Nat.two_pow_pos _)
  have h1 : Nat.ble (100000000000000000 * spY m e) (4 * 2 ^ (bl m - 1) * spX m e) = true ∧ Nat.ble (4 * 2 ^ bl m * spX m e) (4000000000000000000 * spY m e) = true := by
    unfold spOk at h0
    simp only [Bool.and_eq_true] at h0
    exact h0
  obtain ⟨g1, g2⟩ := h1
  have g1 := Nat.le_of_ble_eq_true g1
  have g2 := Nat.le_of_ble_eq_true g2
  have hm1 := (bl_ge (N := m) (by have := h.1; omega)).1
  have hm2 := bl_lt m
  refine ⟨hY0, Nat.le_trans g1 (Nat.mul_le_mul_right _ (by omega)), Nat.lt_of_lt_of_le ?_ g2⟩
  exact Nat.mul_lt_mul_of_pos_right (by omega) hX0
theorem Fe.span {m : Nat} {e : Int} (h : Fe m e) : 100000000000000000 ≤ spA m e ∧ spA m e ≤ (4 * m + 2) * spX m e / spY m e ∧ (4 * m + 2) * spX m e / spY m e < 4000000000000000000 ∧ spF m e ≤ spA m e + 1 ∧ spL m e < 4000000000000000000 := by
  obtain ⟨h0, h1, h2⟩ := h.ends
  have a1 : 100000000000000000 ≤ spA m e := (Nat.le_div_iff_mul_le h0).2 h1
  have a2 : spA m e ≤ (4 * m + 2) * spX m e / spY m e := Nat.div_le_div_right (Nat.mul_le_mul_right _ (by omega))
  have a3 : (4 * m + 2) * spX m e / spY m e < 4000000000000000000 := (Nat.div_lt_iff_lt_mul h0).2 h2
  have a4 : (4 * m - spB m e) * spX m e / spY m e ≤ spA m e := Nat.div_le_div_right (Nat.mul_le_mul_right _ (by omega))
  refine ⟨a1, a2, a3, ?_, Nat.lt_of_le_of_lt (Nat.sub_le _ _) a3⟩
  unfold spF
  split <;> omega
end Go.Proofs.YtljbnnpmnoejeaaGreatDoor.nn
namespace Go.Proofs.YtljbnnpmnoejeaaGreatDoor.nn
open Go.RowKit

/-- the bits of m times 2^e -/
def bm (m : Nat) (e : Int) : Nat := (e + 1074).toNat * h52 + m
theorem Fe.vf {m : Nat} {e : Int} (h : Fe m e) : vf (bm m e) = m * 2 ^ (e + 1074).toNat ∧ 2 * (nn.vf (bm m e - 1) + nn.vf (bm m e)) = (4 * m - spB m e) * 2 ^ (e + 1074).toNat ∧ 2 * (nn.vf (bm m e) + nn.vf (bm m e + 1)) = (4 * m + 2) * 2 ^ (e + 1074).toNat ∧ bm m e % 2 = m % 2 ∧ 0 < bm m e := by
  obtain ⟨h1, h2, h3, h4, h5⟩ := h
  obtain ⟨k, hk⟩ : ∃ k, (e + 1074).toNat = k := ⟨_, rfl⟩
  have hk5 : k = 0 ∨ h52 ≤ m := by rcases h5 with rfl | g; (left; omega); (exact .inr g)
  unfold bm
  rw [hk]
  have a1 : nn.vf (k * h52 + m) = m * 2 ^ k := vf_at (by omega) hk5
  have a2 : nn.vf (k * h52 + m + 1) = (m + 1) * 2 ^ k := by rw [Nat.add_assoc]; exact vf_at (by omega) (by omega)
  refine ⟨a1, ?_, ?_, ?_, by omega⟩
  · by_cases c : m = 4503599627370496 ∧ -1074 < e
    · have hB : spB m e = 1 := if_pos c
      obtain ⟨j, rfl⟩ : ∃ j, k = j + 1 := ⟨k - 1, by omega⟩
      have cm : m = h52 := c.1
      have a3 : nn.vf ((j + 1) * h52 + m - 1) = (2 * h52 - 1) * 2 ^ j := by
        have h0 : 0 < h52 := by decide
        rw [show (j + 1) * h52 + m - 1 = j * h52 + (2 * h52 - 1) by rw [cm, Nat.add_mul]; omega]
        exact vf_at (by omega) (by omega)
      rw [a1, a3, hB, Nat.mul_add, ← Nat.mul_assoc, Nat.pow_succ, ← Nat.mul_assoc m, Nat.mul_comm (m * 2 ^ j) 2, ← Nat.mul_assoc, ← Nat.mul_assoc, ← Nat.add_mul, Nat.mul_comm (2 ^ j) 2, ← Nat.mul_assoc]
      congr 1
      rw [cm]
      have h0 : 0 < h52 := by decide
      omega
    · have hB : spB m e = 2 := if_neg c
      have a3 : nn.vf (k * h52 + m - 1) = (m - 1) * 2 ^ k := by
        rw [show k * h52 + m - 1 = k * h52 + (m - 1) by omega]
        refine vf_at (by omega) ?_
        rcases hk5 with g | g
        · exact .inl g
        · rcases (by omega : m = h52 ∨ h52 ≤ m - 1) with g2 | g2
          · left
            have : ¬ -1074 < e := fun g3 => c ⟨g2, g3⟩
            omega
          · exact .inr g2
      rw [a1, a3, hB, ← Nat.add_mul, ← Nat.mul_assoc]
      congr 1
      omega
  · rw [a1, a2, ← Nat.add_mul, ← Nat.mul_assoc]
    congr 1
    omega
  · have : h52 % 2 = 0 := by decide
    rw [Nat.add_mod, Nat.mul_mod, this, Nat.mul_zero, Nat.zero_mod, Nat.zero_add, Nat.mod_mod]
theorem ends_iff {q Q X Y D par : Nat} (hY : 0 < Y) (hp : par = 0 ∨ par = 1) :
    ((q * X < D * Y ∨ (q * X = D * Y ∧ par = 0)) ↔ q * X / Y + (if 0 < q * X % Y ∨ par = 1 then 1 else 0) ≤ D)
    ∧ (1 ≤ Q * X / Y → ((D * Y < Q * X ∨ (D * Y = Q * X ∧ par = 0)) ↔ D ≤ Q * X / Y - (if par = 1 ∧ ¬ 0 < Q * X % Y then 1 else 0))) := by
  obtain ⟨A, hA⟩ : ∃ A, q * X = A := ⟨_, rfl⟩
  obtain ⟨B, hB⟩ : ∃ B, Q * X = B := ⟨_, rfl⟩
  rw [hA, hB]
  have dA := Nat.div_add_mod A Y
  have mA := Nat.mod_lt A hY
  have dB := Nat.div_add_mod B Y
  have mB := Nat.mod_lt B hY
  obtain ⟨a, ha⟩ : ∃ a, A / Y = a := ⟨_, rfl⟩
  obtain ⟨c, hc⟩ : ∃ c, B / Y = c := ⟨_, rfl⟩
  rw [ha] at dA ⊢
  rw [hc] at dB ⊢
  rw [Nat.mul_comm] at dA dB
  have mono : ∀ x y, x ≤ y → x * Y ≤ y * Y := fun x y h => Nat.mul_le_mul_right _ h
  have one : ∀ x, (x + 1) * Y = x * Y + Y := fun x => by rw [Nat.add_mul, Nat.one_mul]
  have hl : ∀ x y, x < y → x * Y + Y ≤ y * Y := fun x y h => by rw [← one]; exact mono _ _ h
  constructor
  · split
    · rename_i c1
      constructor
      · intro h
        rcases Nat.lt_or_ge a D with g | g
        · exact g
        · have := mono _ _ g
          rcases c1 with c1 | c1 <;> omega
      · intro h
        have := hl a D (by omega)
        omega
    · rename_i c1
      constructor
      · intro h
        rcases Nat.lt_or_ge D a with g | g
        · have := hl _ _ g; omega
        · exact g
      · intro h
        have := mono a D (by omega)
        omega
  · intro h1
    split
    · rename_i c1
      constructor
      · intro h
        rcases Nat.lt_or_ge D c with g | g
        · omega
        · have := mono _ _ g; omega
      · intro h
        have := hl D c (by omega)
        omega
    · rename_i c1
      constructor
      · intro h
        rcases Nat.lt_or_ge c D with g | g
        · have := hl _ _ g; omega
        · exact g
      · intro h
        have := mono D c (by omega)
        rcases Nat.eq_zero_or_pos par with g | g
        · omega
        · have : 0 < B % Y := by
            rcases Nat.eq_zero_or_pos (B % Y) with g2 | g2
            · exact absurd ⟨by omega, by omega⟩ c1
            · exact g2
          omega
theorem span_near {m : Nat} {e : Int} (h : Fe m e) (D : Nat) : Near (D * 10 ^ (spP m e).toNat * 2 ^ e74) (10 ^ (-(spP m e)).toNat) (bm m e) ↔ spF m e ≤ D ∧ D ≤ spL m e := by
  obtain ⟨v1, v2, v3, v4, v5⟩ := h.vf
  obtain ⟨h0, hE1, hE2⟩ := h.ends
  obtain ⟨s1, s2, s3, s4, s5⟩ := h.span
  obtain ⟨i1, i2⟩ := ends_iff (q := 4 * m - spB m e) (Q := 4 * m + 2) (X := spX m e) (Y := spY m e) (D := D) (par := m % 2) h0 (by omega)
  have i2 := i2 (by omega)
  have hF : spF m e = (4 * m - spB m e) * spX m e / spY m e + (if 0 < (4 * m - spB m e) * spX m e % spY m e ∨ m % 2 = 1 then 1 else 0) := rfl
  have hL : spL m e = (4 * m + 2) * spX m e / spY m e - (if m % 2 = 1 ∧ ¬ 0 < (4 * m + 2) * spX m e % spY m e then 1 else 0) := rfl
  rw [hF, hL, ← i1, ← i2]
  clear i1 i2 hF hL s1 s2 s3 s4 s5 hE1 hE2
  have hX : spX m e = 10 ^ (-(spP m e)).toNat * 2 ^ (e - 2).toNat := rfl
  have hY : spY m e = 10 ^ (spP m e).toNat * 2 ^ (-(e - 2)).toNat := rfl
  rw [hX, hY]
  generalize spP m e = p at *
  generalize spB m e = B at *
  obtain ⟨P, hP⟩ : ∃ P, 10 ^ p.toNat = P := ⟨_, rfl⟩
  obtain ⟨R, hR⟩ : ∃ R, 10 ^ (-p).toNat = R := ⟨_, rfl⟩
  have hsc : 2 ^ (e + 1074).toNat * 2 ^ (-(e - 2)).toNat = 4 * 2 ^ e74 * 2 ^ (e - 2).toNat := by
    rw [show (4 : Nat) = 2 ^ 2 by decide, ← Nat.pow_add, ← Nat.pow_add, ← Nat.pow_add]
    refine congrArg (2 ^ ·) ?_
    have := h.2.2.1
    rw [e74_eq]
    omega
  obtain ⟨T, hT⟩ : ∃ T, 2 ^ e74 = T := ⟨_, rfl⟩
  have hT0 : 0 < T := by rw [← hT]; exact Nat.two_pow_pos _
  obtain ⟨U, hU⟩ : ∃ U, 2 ^ (e + 1074).toNat = U := ⟨_, rfl⟩
  obtain ⟨V, hV⟩ : ∃ V, 2 ^ (e - 2).toNat = V := ⟨_, rfl⟩
  obtain ⟨Z, hZ⟩ : ∃ Z, 2 ^ (-(e - 2)).toNat = Z := ⟨_, rfl⟩
  have hZ0 : 0 < Z := by rw [← hZ]; exact Nat.two_pow_pos _
  rw [hP, hR, hT, hV, hZ]
  rw [hU] at v2 v3 hsc
  rw [hT, hV, hZ] at hsc
  clear hP hR hT hU hV hZ hX hY h0
  -- both sides times Z, or times 4 T
  have key : ∀ q, 2 * (2 * (D * P * T)) * Z = D * (P * Z) * (4 * T) ∧ q * U * R * Z = q * (R * V) * (4 * T) := fun q => by
    constructor
    · rw [show (4 : Nat) = 2 * 2 from rfl]
      simp only [Nat.mul_assoc, Nat.mul_left_comm, Nat.mul_comm]
    · rw [show q * U * R * Z = q * R * (U * Z) by simp only [Nat.mul_left_comm, Nat.mul_comm], hsc]
      simp only [Nat.mul_assoc, Nat.mul_left_comm, Nat.mul_comm]
  have cmp : ∀ q, (q * U * R < 2 * (2 * (D * P * T)) ↔ q * (R * V) < D * (P * Z)) ∧ (q * U * R = 2 * (2 * (D * P * T)) ↔ q * (R * V) = D * (P * Z)) ∧ (2 * (2 * (D * P * T)) < q * U * R ↔ D * (P * Z) < q * (R * V)) := fun q => by
    obtain ⟨k1, k2⟩ := key q
    have hT4 : 0 < 4 * T := by omega
    refine ⟨?_, ?_, ?_⟩
    · rw [← Nat.mul_lt_mul_right hZ0, k1, k2, Nat.mul_lt_mul_right hT4]
    · constructor
      · intro g
        have : q * U * R * Z = 2 * (2 * (D * P * T)) * Z := by rw [g]
        rw [k1, k2] at this
        exact Nat.eq_of_mul_eq_mul_right hT4 this
      · intro g
        have : q * (R * V) * (4 * T) = D * (P * Z) * (4 * T) := by rw [g]
        rw [← k1, ← k2] at this
        exact Nat.eq_of_mul_eq_mul_right hZ0 this
    · rw [← Nat.mul_lt_mul_right hZ0, k1, k2, Nat.mul_lt_mul_right hT4]
  obtain ⟨c1, c2, _⟩ := cmp (4 * m - B)
  obtain ⟨_, d2, d3⟩ := cmp (4 * m + 2)
  rw [← v2] at c1 c2
  rw [← v3] at d2 d3
  rw [← c1, ← c2, eq_comm (a := D * (P * Z)), ← d2, ← d3]
  generalize bm m e = b at *
  obtain ⟨x1, hx1⟩ : ∃ x, (vf (b - 1) + vf b) * R = x := ⟨_, rfl⟩
  obtain ⟨x2, hx2⟩ : ∃ x, (vf b + vf (b + 1)) * R = x := ⟨_, rfl⟩
  rw [Nat.mul_assoc 2 (vf (b - 1) + vf b), hx1, Nat.mul_assoc 2 (vf b + vf (b + 1)), hx2]
  constructor
  · intro n
    have l := n.lo
    have u := n.hi
    rw [hx1] at l
    rw [hx2] at u
    omega
  · intro n
    refine ⟨?_, ?_⟩
    · rw [hx1]; omega
    · rw [hx2]; omega
end Go.Proofs.YtljbnnpmnoejeaaGreatDoor.nn
