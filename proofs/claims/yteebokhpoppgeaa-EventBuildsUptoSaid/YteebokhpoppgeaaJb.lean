/- Joined texts, what is wanted of them: Fb, RefClass, RefJoin, RefWiden, Shape, RefNarrow, RefInt, FbNum, Shape2, Shape4, Shape5, Shape6. -/
import Derived.Below
import Derived.Deep.RegionHeld3
import Derived.Lib.MinMax
import Derived.Great.Walk
import Derived.KernelRfl
import Derived.Deep.WholeRow
import Derived.Deep.CutBlock
import Derived.Lib.Hide
import Derived.Deep.QuietTactic
import Derived.BigQuiet
import Derived.StillTailTactics
import Derived.IntWalk
import Derived.Test.YteebokhpoppgeaaProg
import Derived.WalkKit
import Derived.Test.YteebokhpoppgeaaJa
namespace Go.Proofs.Yteebokhpoppgeaa.nn

/-- bits of an exponent, of a fraction -/
def xb (w : Nat) : Nat := if w = 16 then 5 else if w = 32 then 8 else 11
def fb (w : Nat) : Nat := if w = 16 then 10 else if w = 32 then 23 else 52
/-- a width, and bits that it has -/
def wOk (w : Int) : Prop := w = 16 ∨ w = 32 ∨ w = 64
instance (w : Int) : Decidable (wOk w) := by unfold wOk; infer_instance
def fits (w : Int) (x : Nat) : Prop := wOk w ∧ (w < 64 → x < 2 ^ w.toNat)
instance (w : Int) (x : Nat) : Decidable (fits w x) := by unfold fits; infer_instance
def sg (w x : Nat) : Bool := decide (x / 2 ^ (xb w + fb w) = 1)
def ex (w x : Nat) : Nat := x / 2 ^ fb w % 2 ^ xb w
def fr (w x : Nat) : Nat := x % 2 ^ fb w
def paE (w : Int) (x : Nat) : Nat := if fits w x then 0 else 1
/-- the class of parts -/
def cls (w e m : Nat) : Nat := if e = 2 ^ xb w - 1 then (if m = 0 then 3 else 4) else if 0 < e then 2 else if 0 < m then 1 else 0
def clC (w : Int) (x : Nat) : Nat := if fits w x then cls w.toNat (ex w.toNat x) (fr w.toNat x) else 0
end Go.Proofs.Yteebokhpoppgeaa.nn
namespace Go.Proofs.Yteebokhpoppgeaa.nn
open Go.RowKit

def wx (k : Int) : Nat := if wOk k then xb k.toNat else 0
def wf (k : Int) : Nat := if wOk k then fb k.toNat else 0
theorem fr_lt {w x : Nat} : fr w x < 2 ^ fb w := Nat.mod_lt _ (Nat.two_pow_pos _)
theorem ex_lt {w x : Nat} : ex w x < 2 ^ xb w := Nat.mod_lt _ (Nat.two_pow_pos _)
def ClAns (k : Int) (x : Nat) (W : World) (e : Ending) (W' : World) : Prop := e = .returned (.tuple #[.int .i64 (clC k x : Int), .int .i64 (paE k x : Int)]) ∧ Below W.heap.size W W'
def cl5 (E X M : Nat) : Nat := if X = 2 ^ E - 1 then (if M = 0 then 3 else 4) else if 0 < X then 2 else if 0 < M then 1 else 0
theorem pow_up {a b : Nat} (h : a ≤ b) : 2 ^ a ≤ 2 ^ b := Nat.pow_le_pow_right (by decide) h
end Go.Proofs.Yteebokhpoppgeaa.nn
namespace Go.Proofs.Yteebokhpoppgeaa.nn
open Go.RowKit

/-- m by n bits to the right, if none is lost -/
def shOk (m n : Nat) : Bool := decide (m % 2 ^ n = 0)
def shV (m n : Nat) : Nat := if m % 2 ^ n = 0 then m / 2 ^ n else 0
end Go.Proofs.Yteebokhpoppgeaa.nn
namespace Go.Proofs.Yteebokhpoppgeaa.nn
open Go.RowKit

def bia (k : Nat) : Nat := if k = 16 then 15 else if k = 32 then 127 else 1023
/-- how far m goes to the left until its highest bit is bit 52 -/
def nrm (m : Nat) : Nat := 52 - m.log2
def clk (k x : Nat) : Nat := cl5 (xb k) (ex k x) (fr k x)
theorem nrm_lt {m t : Nat} (hm : 0 < m) (hb : m < 4503599627370496) : (t < nrm m ↔ m * 2 ^ t < 4503599627370496) := by
  have h1 := Nat.log2_self_le (n := m) (by omega)
  have h2 := Nat.lt_log2_self (n := m)
  have h3 : m.log2 < 52 := (Nat.log2_lt (by omega)).2 hb
  unfold nrm
  constructor
  · intro h
    have h4 : m * 2 ^ t < 2 ^ (m.log2 + 1) * 2 ^ t := Nat.mul_lt_mul_of_pos_right h2 (Nat.two_pow_pos t)
    rw [← Nat.pow_add] at h4
    have h5 : 2 ^ (m.log2 + 1 + t) ≤ 2 ^ 52 := pow_up (by omega)
    exact Nat.lt_of_lt_of_le h4 h5
  · intro h
    rcases Nat.lt_or_ge t (52 - m.log2) with h' | h'
    · exact h'
    · have h4 : 2 ^ m.log2 * 2 ^ t ≤ m * 2 ^ t := Nat.mul_le_mul_right _ h1
      rw [← Nat.pow_add] at h4
      have h5 : 2 ^ 52 ≤ 2 ^ (m.log2 + t) := pow_up (by omega)
      exact absurd (Nat.lt_of_le_of_lt (Nat.le_trans h5 h4) h) (by decide)
theorem nrm_hi {m : Nat} (hm : 0 < m) (hb : m < 4503599627370496) : m * 2 ^ nrm m < 9007199254740992 ∧ 4503599627370496 ≤ m * 2 ^ nrm m := by
  have h1 := Nat.log2_self_le (n := m) (by omega)
  have h2 := Nat.lt_log2_self (n := m)
  have h3 : m.log2 < 52 := (Nat.log2_lt (by omega)).2 hb
  unfold nrm
  have h4 : m * 2 ^ (52 - m.log2) < 2 ^ (m.log2 + 1) * 2 ^ (52 - m.log2) := Nat.mul_lt_mul_of_pos_right h2 (Nat.two_pow_pos _)
  have h5 : 2 ^ m.log2 * 2 ^ (52 - m.log2) ≤ m * 2 ^ (52 - m.log2) := Nat.mul_le_mul_right _ h1
  rw [← Nat.pow_add] at h4 h5
  rw [show m.log2 + 1 + (52 - m.log2) = 53 by omega] at h4
  rw [show m.log2 + (52 - m.log2) = 52 by omega] at h5
  rw [show (2 : Nat) ^ 53 = 9007199254740992 by decide] at h4
  rw [show (2 : Nat) ^ 52 = 4503599627370496 by decide] at h5
  exact ⟨h4, h5⟩
end Go.Proofs.Yteebokhpoppgeaa.nn
namespace Go.Proofs.Yteebokhpoppgeaa.nn
open Go.RowKit

/-- the shape of a width -/
def sv (k : Nat) : Value := .agg #[.int .i64 (k : Int), .int .i64 (xb k : Int), .int .i64 (fb k : Int)]
def kOk (k : Nat) : Prop := k = 16 ∨ k = 32 ∨ k = 64
def onz (k : Nat) : Nat := 2 ^ xb k - 1
def hdn (k : Nat) : Nat := 2 ^ fb k
theorem kOk.facts {k : Nat} (h : kOk k) : (k = 16 ∧ xb k = 5 ∧ fb k = 10 ∧ onz k = 31 ∧ bia k = 15 ∧ hdn k = 1024) ∨ (k = 32 ∧ xb k = 8 ∧ fb k = 23 ∧ onz k = 255 ∧ bia k = 127 ∧ hdn k = 8388608) ∨ (k = 64 ∧ xb k = 11 ∧ fb k = 52 ∧ onz k = 2047 ∧ bia k = 1023 ∧ hdn k = 4503599627370496) := by
  rcases h with rfl | rfl | rfl
  · exact .inl (by decide)
  · exact .inr (.inl (by decide))
  · exact .inr (.inr (by decide))
/-- the worlds behind a call's boxed shape -/
structure Bs (w : World) (k : Nat) (W : World) : Prop where
  c0 : W.cell? ⟨w.heap.size, 0, none⟩ = some (.int .i64 (k : Int))
  c1 : W.cell? ⟨w.heap.size, 1, none⟩ = some (.int .i64 (xb k : Int))
  c2 : W.cell? ⟨w.heap.size, 2, none⟩ = some (.int .i64 (fb k : Int))
  b : Below w.heap.size w W
  z : w.heap.size < W.heap.size
theorem Bs.new (w : World) (k : Nat) (T : TypeId) : Bs w k (w.alloc (.cells #[.int .i64 (k : Int), .int .i64 (xb k : Int), .int .i64 (fb k : Int)] T)) :=
  ⟨by simp, by simp, by simp, (Below.refl _ _).alloc (Nat.le_refl _) _, by simp⟩
theorem Bs.on {w W W' : World} {k : Nat} (h : Bs w k W) (hB : Below W.heap.size W W') : Bs w k W' :=
  ⟨(hB.cell (p := ⟨_, _, none⟩) h.z).trans h.c0, (hB.cell (p := ⟨_, _, none⟩) h.z).trans h.c1, (hB.cell (p := ⟨_, _, none⟩) h.z).trans h.c2, h.b.trans (hB.mono (Nat.le_of_lt h.z)), Nat.lt_of_lt_of_le h.z hB.size⟩
theorem Bs.drew {w W : World} {k : Nat} (h : Bs w k W) : Bs w k W.drew := h.on (Below.drew (Below.refl _ _))
theorem Bs.all {w W : World} {k : Nat} (h : Bs w k W) : W.cell? ⟨w.heap.size, 0, none⟩ = some (.int .i64 (k : Int)) ∧ W.cell? ⟨w.heap.size, 1, none⟩ = some (.int .i64 (xb k : Int)) ∧ W.cell? ⟨w.heap.size, 2, none⟩ = some (.int .i64 (fb k : Int)) ∧ Bs w k W := ⟨h.c0, h.c1, h.c2, h⟩
set_option maxRecDepth 100000 in
theorem ones_any (k : Nat) (w : World) (hk : kOk k) : Calls Try.prog 64 #[sv k] w fun e w' => e = .returned (.int .i64 (onz k : Int)) ∧ Below w.heap.size w w' := by
  have HA := Lib.hid (fun o => (Below.refl w.heap.size w).alloc (Nat.le_refl _) o)
  unfold kOk at hk
  rcases hk with rfl | rfl | rfl
  · show Calls _ _ #[.agg #[.int .i64 16, .int .i64 5, .int .i64 10]] _ _
    go_enter Try.func64, Try.ntmps64
    go_wp2
    go_ret
    exact ⟨rfl, HA.out _⟩
  · show Calls _ _ #[.agg #[.int .i64 32, .int .i64 8, .int .i64 23]] _ _
    go_enter Try.func64, Try.ntmps64
    go_wp2
    go_ret
    exact ⟨rfl, HA.out _⟩
  · show Calls _ _ #[.agg #[.int .i64 64, .int .i64 11, .int .i64 52]] _ _
    go_enter Try.func64, Try.ntmps64
    go_wp2
    go_ret
    exact ⟨rfl, HA.out _⟩
set_option maxRecDepth 100000 in
theorem hidden_any (k : Nat) (w : World) (hk : kOk k) : Calls Try.prog 67 #[sv k] w fun e w' => e = .returned (.int .u64 (hdn k : Int)) ∧ Below w.heap.size w w' := by
  have HA := Lib.hid (fun o => (Below.refl w.heap.size w).alloc (Nat.le_refl _) o)
  unfold kOk at hk
  rcases hk with rfl | rfl | rfl
  · show Calls _ _ #[.agg #[.int .i64 16, .int .i64 5, .int .i64 10]] _ _
    go_enter Try.func67, Try.ntmps67
    go_wp2
    go_ret
    exact ⟨rfl, HA.out _⟩
  · show Calls _ _ #[.agg #[.int .i64 32, .int .i64 8, .int .i64 23]] _ _
    go_enter Try.func67, Try.ntmps67
    go_wp2
    go_ret
    exact ⟨rfl, HA.out _⟩
  · show Calls _ _ #[.agg #[.int .i64 64, .int .i64 11, .int .i64 52]] _ _
    go_enter Try.func67, Try.ntmps67
    go_wp2
    go_ret
    exact ⟨rfl, HA.out _⟩
end Go.Proofs.Yteebokhpoppgeaa.nn
namespace Go.Proofs.Yteebokhpoppgeaa.nn
open Go.RowKit

/-- what is narrowed: a sign's bits, what the parts of width 64 are, the width's parts: the bits, or none -/
def nwO (E F : Nat) (X M : Nat) : Bool :=
  let y : Int := (X : Int) - 1023 + (2 ^ (E - 1) - 1 : Nat)
  if X = 0 then decide (M = 0) else if X = 2047 then shOk M (52 - F) else if y ≥ (2 ^ E - 1 : Nat) ∨ y < -(F : Int) then false else if 1 ≤ y then shOk M (52 - F) else shOk (M + 4503599627370496) (53 - F - y).toNat
def nwV (E F : Nat) (X M : Nat) : Nat :=
  let y : Int := (X : Int) - 1023 + (2 ^ (E - 1) - 1 : Nat)
  if X = 0 then 0 else if X = 2047 then (2 ^ E - 1) * 2 ^ F + shV M (52 - F) else if 1 ≤ y then y.toNat * 2 ^ F + shV M (52 - F) else shV (M + 4503599627370496) (53 - F - y).toNat
/-- the answer: the bits and whether there are any -/
def nwA (E F : Nat) (S : Bool) (X M : Nat) : Nat := if nwO E F X M then (if S then 2 ^ (E + F) else 0) + nwV E F X M else 0
end Go.Proofs.Yteebokhpoppgeaa.nn
namespace Go.Proofs.Yteebokhpoppgeaa.nn
open Go.RowKit

def InAns (r : Bool × Nat × Bool) (W : World) (e : Ending) (W' : World) : Prop := e = .returned (.tuple #[.bool r.1, .int .u64 (r.2.1 : Int), .bool r.2.2]) ∧ Below W.heap.size W W'
theorem InAns.mk {r : Bool × Nat × Bool} {a c : Bool} {b : Int} {W W' : World} (h1 : r.1 = a) (h2 : (r.2.1 : Int) = b) (h3 : r.2.2 = c) (hb : Below W.heap.size W W') : InAns r W (.returned (.tuple #[.bool a, .int .u64 b, .bool c])) W' := by
  unfold InAns
  rw [h1, h2, h3]
  exact ⟨rfl, hb⟩
end Go.Proofs.Yteebokhpoppgeaa.nn
namespace Go.Proofs.Yteebokhpoppgeaa.nn

/-! parts and bits -/
theorem b52 : (2 : Nat) ^ 52 = 4503599627370496 := by decide
/-- the bits of a width of parts; E, F: how many bits of an exponent, of a fraction -/
def kv (E F : Nat) (S : Bool) (X M : Nat) : Nat := (if S then 2 ^ (E + F) else 0) + X * 2 ^ F + M
/-! widened and narrowed, in parts -/
/-- a width's parts: bits of an exponent, of a fraction; what is taken from the exponent; the exponents' number -/
structure Wd (E F B T : Nat) : Prop where
  e : 2 ^ (E - 1) - 1 = B
  t : 2 ^ E = T
  bt : T = 2 * B + 2
  b : 1 ≤ B ∧ B ≤ 127
  f : 1 ≤ F ∧ F ≤ 23 ∧ F ≤ B
/-- the wider parts -/
def wX (B T F X M : Nat) : Nat := if X = T - 1 then 2047 else if 0 < X then X + 1023 - B else if 0 < M then 1024 - B - nrm (M * 2 ^ (52 - F)) else 0
def wM (T F X M : Nat) : Nat := if X = T - 1 ∨ 0 < X then M * 2 ^ (52 - F) else if 0 < M then M * 2 ^ (52 - F) * 2 ^ nrm (M * 2 ^ (52 - F)) - 4503599627370496 else 0
section
variable {E F B T X M : Nat}
theorem Wd.small (_ : Wd E F B T) (hM : M < 2 ^ F) (h0 : 0 < M) : 0 < M * 2 ^ (52 - F) ∧ M * 2 ^ (52 - F) < 4503599627370496 ∧ 2 ^ (52 - F) ≤ M * 2 ^ (52 - F) := by
  have hF := (‹Wd E F B T›).f
  have hp := Nat.two_pow_pos (52 - F)
  refine ⟨Nat.mul_pos h0 hp, ?_, Nat.le_mul_of_pos_left _ h0⟩
  rw [← b52, show 52 = F + (52 - F) by omega, Nat.pow_add, show F + (52 - F) - F = 52 - F by omega]
  exact Nat.mul_lt_mul_of_pos_right hM hp
theorem nrm_pos {m : Nat} (hm : 0 < m) (hb : m < 4503599627370496) : 1 ≤ nrm m := (nrm_lt hm hb).2 (by simpa using hb)
theorem Wd.nrm_le (h : Wd E F B T) (hM : M < 2 ^ F) (h0 : 0 < M) : nrm (M * 2 ^ (52 - F)) ≤ F := by
  obtain ⟨s1, s2, s3⟩ := h.small hM h0
  have hF := h.f
  rcases Nat.lt_or_ge F (nrm (M * 2 ^ (52 - F))) with h' | h'
  · have h1 := (nrm_lt s1 s2).1 h'
    have h2 : 2 ^ (52 - F) * 2 ^ F ≤ M * 2 ^ (52 - F) * 2 ^ F := Nat.mul_le_mul_right _ s3
    rw [← Nat.pow_add, show 52 - F + F = 52 by omega, b52] at h2
    omega
  · exact h'
theorem sh_mul {m n : Nat} : shOk (m * 2 ^ n) n = true ∧ shV (m * 2 ^ n) n = m := by
  unfold shOk shV
  exact ⟨decide_eq_true (Nat.mul_mod_left _ _), by rw [if_pos (Nat.mul_mod_left _ _), Nat.mul_div_cancel _ (Nat.two_pow_pos n)]⟩
/-- the wider parts are parts -/
theorem Wd.wide (h : Wd E F B T) (hX : X < T) (hM : M < 2 ^ F) : wX B T F X M ≤ 2047 ∧ wM T F X M < 4503599627370496 := by
  have hF := h.f
  have hB := h.b
  have hbt := h.bt
  have hp := Nat.two_pow_pos (52 - F)
  have hm : M * 2 ^ (52 - F) < 4503599627370496 := by
    rw [← b52, show 52 = F + (52 - F) by omega, Nat.pow_add, show F + (52 - F) - F = 52 - F by omega]
    exact Nat.mul_lt_mul_of_pos_right hM hp
  unfold wX wM
  by_cases c1 : X = T - 1
  · rw [if_pos c1, if_pos (.inl c1)]; exact ⟨Nat.le_refl _, hm⟩
  · rw [if_neg c1]
    by_cases c2 : 0 < X
    · rw [if_pos c2, if_pos (.inr c2)]; exact ⟨by omega, hm⟩
    · rw [if_neg c2, if_neg (show ¬ (X = T - 1 ∨ 0 < X) by omega)]
      by_cases c3 : 0 < M
      · obtain ⟨s1, s2, _⟩ := h.small hM c3
        have := nrm_hi s1 s2
        rw [if_pos c3, if_pos c3]; omega
      · rw [if_neg c3, if_neg c3]; omega
/-- what is widened is narrowed to itself -/
theorem Wd.back (h : Wd E F B T) (hX : X < T) (hM : M < 2 ^ F) (S : Bool) : nwO E F (wX B T F X M) (wM T F X M) = true ∧ nwA E F S (wX B T F X M) (wM T F X M) = kv E F S X M := by
  have hF := h.f
  have hB := h.b
  have hbt := h.bt
  suffices hs : nwO E F (wX B T F X M) (wM T F X M) = true ∧ nwV E F (wX B T F X M) (wM T F X M) = X * 2 ^ F + M by
    refine ⟨hs.1, ?_⟩
    unfold nwA kv
    rw [hs.1, if_pos rfl, hs.2, Nat.add_assoc]
  unfold nwO nwV
  dsimp only
  rw [h.e, h.t]
  obtain ⟨k1, k2⟩ := sh_mul (m := M) (n := 52 - F)
  by_cases c1 : X = T - 1
  · have e1 : wX B T F X M = 2047 := if_pos c1
    have e2 : wM T F X M = M * 2 ^ (52 - F) := if_pos (.inl c1)
    rw [e1, e2, if_neg (by decide), if_pos rfl, if_neg (by decide), if_pos rfl, k1, k2, c1]
    exact ⟨rfl, rfl⟩
  · by_cases c2 : 0 < X
    · have e1 : wX B T F X M = X + 1023 - B := by unfold wX; rw [if_neg c1, if_pos c2]
      have e2 : wM T F X M = M * 2 ^ (52 - F) := if_pos (.inr c2)
      rw [e1, e2]
      have ey : ((X + 1023 - B : Nat) : Int) - 1023 + (B : Int) = (X : Int) := by omega
      rw [ey, if_neg (by omega), if_neg (by omega), if_neg (by omega), if_pos (by omega), if_neg (by omega), if_neg (by omega), if_pos (by omega), k1, k2, Int.toNat_natCast]
      exact ⟨rfl, rfl⟩
    · obtain rfl : X = 0 := by omega
      by_cases c3 : 0 < M
      · obtain ⟨s1, s2, _⟩ := h.small hM c3
        obtain ⟨n1, n2⟩ := nrm_hi s1 s2
        have n3 := nrm_pos s1 s2
        have n4 := h.nrm_le hM c3
        have e1 : wX B T F 0 M = 1024 - B - nrm (M * 2 ^ (52 - F)) := by unfold wX; rw [if_neg c1, if_neg c2, if_pos c3]
        have e2 : wM T F 0 M = M * 2 ^ (52 - F) * 2 ^ nrm (M * 2 ^ (52 - F)) - 4503599627370496 := by unfold wM; rw [if_neg (by omega), if_pos c3]
        rw [e1, e2]
        obtain ⟨t, ht⟩ : ∃ t, nrm (M * 2 ^ (52 - F)) = t := ⟨_, rfl⟩
        rw [ht] at n1 n2 n3 n4 ⊢
        have ey : ((1024 - B - t : Nat) : Int) - 1023 + (B : Int) = 1 - (t : Int) := by omega
        have ez : M * 2 ^ (52 - F) * 2 ^ t - 4503599627370496 + 4503599627370496 = M * 2 ^ (52 - F + t) := by rw [Nat.pow_add, ← Nat.mul_assoc]; omega
        have ew : (53 - (F : Int) - (1 - (t : Int))).toNat = 52 - F + t := by omega
        rw [ey, if_neg (by omega), if_neg (by omega), if_neg (by omega), if_neg (by omega), if_neg (by omega), if_neg (by omega), if_neg (by omega), ez, ew]
        obtain ⟨j1, j2⟩ := sh_mul (m := M) (n := 52 - F + t)
        rw [j1, j2, Nat.zero_mul, Nat.zero_add]
        exact ⟨rfl, rfl⟩
      · obtain rfl : M = 0 := by omega
        have e1 : wX B T F 0 0 = 0 := by unfold wX; rw [if_neg c1, if_neg c2, if_neg c2]
        have e2 : wM T F 0 0 = 0 := by unfold wM; rw [if_neg (by omega), if_neg c2]
        rw [e1, e2, if_pos rfl, if_pos rfl, Nat.zero_mul]
        exact ⟨rfl, rfl⟩
end
end Go.Proofs.Yteebokhpoppgeaa.nn
namespace Go.Proofs.Yteebokhpoppgeaa.nn
open Go.RowKit

def lim (k : Nat) : Nat := if k = 16 then 65536 else if k = 32 then 4294967296 else 18446744073709551616
theorem ret_spl {a c : Bool} {i j m n : Int} (h1 : a = c) (h2 : i = j) (h3 : m = n) : Ending.returned (.tuple #[.bool a, .int .i64 i, .int .u64 m]) = .returned (.tuple #[.bool c, .int .i64 j, .int .u64 n]) := by rw [h1, h2, h3]
theorem ne_nat_div {x d : Nat} (hx : x < 2 * d) : ((x : Int) / (d : Int) != 0) = decide (x / d = 1) := by
  rw [← Int.natCast_ediv]
  have hd : 0 < d := by omega
  have h2 : x / d < 2 := Nat.div_lt_of_lt_mul (by omega)
  generalize x / d = q at h2 ⊢
  by_cases h : q = 1
  · rw [h]; rfl
  · have h0 : q = 0 := by omega
    rw [decide_eq_false h, h0]
    rfl
set_option maxRecDepth 100000 in
set_option maxHeartbeats 1000000 in
theorem split_16 (x : Nat) (w : World) (hx : x < 65536) : Calls Try.prog 63 #[sv 16, .int .u64 (x : Int)] w fun e w' => e = .returned (.tuple #[.bool (sg 16 x), .int .i64 (ex 16 x : Int), .int .u64 (fr 16 x : Int)]) ∧ Below w.heap.size w w' := by
  have hk : kOk 16 := by unfold kOk; omega
  have hd : ((x : Int) / 32768 != 0) = sg 16 x := by
    unfold sg
    rw [show xb 16 + fb 16 = 15 from rfl, show (2 : Nat) ^ 15 = 32768 from rfl]
    exact ne_nat_div (d := 32768) (by omega)
  have hm : bits .and .i64 ((x : Int) / 1024) 31 = (ex 16 x : Int) := by
    unfold ex
    rw [show xb 16 = 5 from rfl, show fb 16 = 10 from rfl, show (2 : Nat) ^ 10 = 1024 from rfl]
    rw [show ((x : Int) / 1024) = ((x / 1024 : Nat) : Int) by omega]
    exact (i64_and_nat (x / 1024) 31 (by omega) (by decide)).trans (by rw [and_mask (x / 1024) 5])
  have hf : bits .and .u64 (x : Int) 1023 = (fr 16 x : Int) := by
    unfold fr
    rw [show fb 16 = 10 from rfl]
    exact (u64_and_nat x 1023 (by omega) (by decide)).trans (by rw [and_mask x 10])
  have hw : IntKind.i64.wrap ((x : Int) / 1024) = (x : Int) / 1024 := IntWalk.i64_in _ (by omega)
  have HD := Lib.hid hd
  have HM := Lib.hid hm
  have HF := Lib.hid hf
  have hO : ∀ W, Bs w 16 W → Calls Try.prog 64 #[sv 16] W fun e w' => e = .returned (.int .i64 31) ∧ Bs w 16 w' := fun W hW => (ones_any 16 W hk).mono fun e w' ⟨he, hb⟩ => ⟨he, hW.on hb⟩
  have hI : ∀ W, Bs w 16 W → Calls Try.prog 67 #[sv 16] W fun e w' => e = .returned (.int .u64 1024) ∧ Bs w 16 w' := fun W hW => (hidden_any 16 W hk).mono fun e w' ⟨he, hb⟩ => ⟨he, hW.on hb⟩
  rw [show sv 16 = .agg #[.int .i64 16, .int .i64 5, .int .i64 10] from rfl] at hO hI ⊢
  have HO := Lib.hid hO
  have HI := Lib.hid hI
  have HB : Hid (∀ T, Bs w 16 (w.alloc (.cells #[.int .i64 16, .int .i64 5, .int .i64 10] T))) := Lib.hid (Bs.new w 16)
  have HL : Hid (∀ W, Bs w 16 W → W.cell? ⟨w.heap.size, 0, none⟩ = some (.int .i64 16) ∧ W.cell? ⟨w.heap.size, 1, none⟩ = some (.int .i64 5) ∧ W.cell? ⟨w.heap.size, 2, none⟩ = some (.int .i64 10) ∧ Bs w 16 W) := Lib.hid fun W hW => hW.all
  clear hd hm hf hO hI hk
  go_enter Try.func63, Try.ntmps63
  go_wp2_with fail
  have hb0 := HB.out 93
  generalize w.alloc _ = W0 at hb0 ⊢
  have hb1 := hb0.drew
  have hb := HL.out _ hb1
  go_region_held3 (fun W => W.cell? ⟨w.heap.size, 0, none⟩ = some (.int .i64 16) ∧ W.cell? ⟨w.heap.size, 1, none⟩ = some (.int .i64 5) ∧ W.cell? ⟨w.heap.size, 2, none⟩ = some (.int .i64 10) ∧ Bs w 16 W) (first | exact HL.out _ ‹_› | exact HL.out _ (And.right ‹_›))
    (first | (go_at_call 64; with_reducible refine (HO.out _ ?_).mono ?_; (first | assumption | exact And.right ‹_›); rintro e w' ⟨rfl, hk5⟩))
  go_wp2_with fail
  with_reducible refine (HI.out _ (by assumption)).mono ?_
  rintro e w2 ⟨rfl, hk6⟩
  go_wp2_with fail
  exact bodyPost_ret (v := .tuple #[.bool ((x : Int) / 32768 != 0), .int .i64 (bits .and .i64 ((x : Int) / 1024) 31), .int .u64 (bits .and .u64 (x : Int) 1023)]) (by simp [results, Try.results63, go_sem]) rfl ⟨ret_spl HD.out HM.out HF.out, hk6.b⟩

set_option maxRecDepth 100000 in
set_option maxHeartbeats 1000000 in
theorem split_32 (x : Nat) (w : World) (hx : x < 4294967296) : Calls Try.prog 63 #[sv 32, .int .u64 (x : Int)] w fun e w' => e = .returned (.tuple #[.bool (sg 32 x), .int .i64 (ex 32 x : Int), .int .u64 (fr 32 x : Int)]) ∧ Below w.heap.size w w' := by
  have hk : kOk 32 := by unfold kOk; omega
  have hd : ((x : Int) / 2147483648 != 0) = sg 32 x := by
    unfold sg
    rw [show xb 32 + fb 32 = 31 from rfl, show (2 : Nat) ^ 31 = 2147483648 from rfl]
    exact ne_nat_div (d := 2147483648) (by omega)
  have hm : bits .and .i64 ((x : Int) / 8388608) 255 = (ex 32 x : Int) := by
    unfold ex
    rw [show xb 32 = 8 from rfl, show fb 32 = 23 from rfl, show (2 : Nat) ^ 23 = 8388608 from rfl]
    rw [show ((x : Int) / 8388608) = ((x / 8388608 : Nat) : Int) by omega]
    exact (i64_and_nat (x / 8388608) 255 (by omega) (by decide)).trans (by rw [and_mask (x / 8388608) 8])
  have hf : bits .and .u64 (x : Int) 8388607 = (fr 32 x : Int) := by
    unfold fr
    rw [show fb 32 = 23 from rfl]
    exact (u64_and_nat x 8388607 (by omega) (by decide)).trans (by rw [and_mask x 23])
  have hw : IntKind.i64.wrap ((x : Int) / 8388608) = (x : Int) / 8388608 := IntWalk.i64_in _ (by omega)
  have HD := Lib.hid hd
  have HM := Lib.hid hm
  have HF := Lib.hid hf
  have hO : ∀ W, Bs w 32 W → Calls Try.prog 64 #[sv 32] W fun e w' => e = .returned (.int .i64 255) ∧ Bs w 32 w' := fun W hW => (ones_any 32 W hk).mono fun e w' ⟨he, hb⟩ => ⟨he, hW.on hb⟩
  have hI : ∀ W, Bs w 32 W → Calls Try.prog 67 #[sv 32] W fun e w' => e = .returned (.int .u64 8388608) ∧ Bs w 32 w' := fun W hW => (hidden_any 32 W hk).mono fun e w' ⟨he, hb⟩ => ⟨he, hW.on hb⟩
  rw [show sv 32 = .agg #[.int .i64 32, .int .i64 8, .int .i64 23] from rfl] at hO hI ⊢
  have HO := Lib.hid hO
  have HI := Lib.hid hI
  have HB : Hid (∀ T, Bs w 32 (w.alloc (.cells #[.int .i64 32, .int .i64 8, .int .i64 23] T))) := Lib.hid (Bs.new w 32)
  have HL : Hid (∀ W, Bs w 32 W → W.cell? ⟨w.heap.size, 0, none⟩ = some (.int .i64 32) ∧ W.cell? ⟨w.heap.size, 1, none⟩ = some (.int .i64 8) ∧ W.cell? ⟨w.heap.size, 2, none⟩ = some (.int .i64 23) ∧ Bs w 32 W) := Lib.hid fun W hW => hW.all
  clear hd hm hf hO hI hk
  go_enter Try.func63, Try.ntmps63
  go_wp2_with fail
  have hb0 := HB.out 93
  generalize w.alloc _ = W0 at hb0 ⊢
  have hb1 := hb0.drew
  have hb := HL.out _ hb1
  go_region_held3 (fun W => W.cell? ⟨w.heap.size, 0, none⟩ = some (.int .i64 32) ∧ W.cell? ⟨w.heap.size, 1, none⟩ = some (.int .i64 8) ∧ W.cell? ⟨w.heap.size, 2, none⟩ = some (.int .i64 23) ∧ Bs w 32 W) (first | exact HL.out _ ‹_› | exact HL.out _ (And.right ‹_›))
    (first | (go_at_call 64; with_reducible refine (HO.out _ ?_).mono ?_; (first | assumption | exact And.right ‹_›); rintro e w' ⟨rfl, hk5⟩))
  go_wp2_with fail
  with_reducible refine (HI.out _ (by assumption)).mono ?_
  rintro e w2 ⟨rfl, hk6⟩
  go_wp2_with fail
  exact bodyPost_ret (v := .tuple #[.bool ((x : Int) / 2147483648 != 0), .int .i64 (bits .and .i64 ((x : Int) / 8388608) 255), .int .u64 (bits .and .u64 (x : Int) 8388607)]) (by simp [results, Try.results63, go_sem]) rfl ⟨ret_spl HD.out HM.out HF.out, hk6.b⟩
set_option maxRecDepth 100000 in
set_option maxHeartbeats 1000000 in
theorem split_64 (x : Nat) (w : World) (hx : x < 18446744073709551616) : Calls Try.prog 63 #[sv 64, .int .u64 (x : Int)] w fun e w' => e = .returned (.tuple #[.bool (sg 64 x), .int .i64 (ex 64 x : Int), .int .u64 (fr 64 x : Int)]) ∧ Below w.heap.size w w' := by
  have hk : kOk 64 := by unfold kOk; omega
  have hd : ((x : Int) / 9223372036854775808 != 0) = sg 64 x := by
    unfold sg
    rw [show xb 64 + fb 64 = 63 from rfl, show (2 : Nat) ^ 63 = 9223372036854775808 from rfl]
    exact ne_nat_div (d := 9223372036854775808) (by omega)
  have hm : bits .and .i64 ((x : Int) / 4503599627370496) 2047 = (ex 64 x : Int) := by
    unfold ex
    rw [show xb 64 = 11 from rfl, show fb 64 = 52 from rfl, show (2 : Nat) ^ 52 = 4503599627370496 from rfl]
    rw [show ((x : Int) / 4503599627370496) = ((x / 4503599627370496 : Nat) : Int) by omega]
    exact (i64_and_nat (x / 4503599627370496) 2047 (by omega) (by decide)).trans (by rw [and_mask (x / 4503599627370496) 11])
  have hf : bits .and .u64 (x : Int) 4503599627370495 = (fr 64 x : Int) := by
    unfold fr
    rw [show fb 64 = 52 from rfl]
    exact (u64_and_nat x 4503599627370495 (by omega) (by decide)).trans (by rw [and_mask x 52])
  have hw : IntKind.i64.wrap ((x : Int) / 4503599627370496) = (x : Int) / 4503599627370496 := IntWalk.i64_in _ (by omega)
  have HD := Lib.hid hd
  have HM := Lib.hid hm
  have HF := Lib.hid hf
  have hO : ∀ W, Bs w 64 W → Calls Try.prog 64 #[sv 64] W fun e w' => e = .returned (.int .i64 2047) ∧ Bs w 64 w' := fun W hW => (ones_any 64 W hk).mono fun e w' ⟨he, hb⟩ => ⟨he, hW.on hb⟩
  have hI : ∀ W, Bs w 64 W → Calls Try.prog 67 #[sv 64] W fun e w' => e = .returned (.int .u64 4503599627370496) ∧ Bs w 64 w' := fun W hW => (hidden_any 64 W hk).mono fun e w' ⟨he, hb⟩ => ⟨he, hW.on hb⟩
  rw [show sv 64 = .agg #[.int .i64 64, .int .i64 11, .int .i64 52] from rfl] at hO hI ⊢
  have HO := Lib.hid hO
  have HI := Lib.hid hI
  have HB : Hid (∀ T, Bs w 64 (w.alloc (.cells #[.int .i64 64, .int .i64 11, .int .i64 52] T))) := Lib.hid (Bs.new w 64)
  have HL : Hid (∀ W, Bs w 64 W → W.cell? ⟨w.heap.size, 0, none⟩ = some (.int .i64 64) ∧ W.cell? ⟨w.heap.size, 1, none⟩ = some (.int .i64 11) ∧ W.cell? ⟨w.heap.size, 2, none⟩ = some (.int .i64 52) ∧ Bs w 64 W) := Lib.hid fun W hW => hW.all
  clear hd hm hf hO hI hk
  go_enter Try.func63, Try.ntmps63
  go_wp2_with fail
  have hb0 := HB.out 93
  generalize w.alloc _ = W0 at hb0 ⊢
  have hb1 := hb0.drew
  have hb := HL.out _ hb1
  go_region_held3 (fun W => W.cell? ⟨w.heap.size, 0, none⟩ = some (.int .i64 64) ∧ W.cell? ⟨w.heap.size, 1, none⟩ = some (.int .i64 11) ∧ W.cell? ⟨w.heap.size, 2, none⟩ = some (.int .i64 52) ∧ Bs w 64 W) (first | exact HL.out _ ‹_› | exact HL.out _ (And.right ‹_›))
    (first | (go_at_call 64; with_reducible refine (HO.out _ ?_).mono ?_; (first | assumption | exact And.right ‹_›); rintro e w' ⟨rfl, hk5⟩))
  go_wp2_with fail
  with_reducible refine (HI.out _ (by assumption)).mono ?_
  rintro e w2 ⟨rfl, hk6⟩
  go_wp2_with fail
  exact bodyPost_ret (v := .tuple #[.bool ((x : Int) / 9223372036854775808 != 0), .int .i64 (bits .and .i64 ((x : Int) / 4503599627370496) 2047), .int .u64 (bits .and .u64 (x : Int) 4503599627370495)]) (by simp [results, Try.results63, go_sem]) rfl ⟨ret_spl HD.out HM.out HF.out, hk6.b⟩
theorem split_any (k x : Nat) (w : World) (hk : kOk k) (hx : x < lim k) : Calls Try.prog 63 #[sv k, .int .u64 (x : Int)] w fun e w' => e = .returned (.tuple #[.bool (sg k x), .int .i64 (ex k x : Int), .int .u64 (fr k x : Int)]) ∧ Below w.heap.size w w' := by
  rcases hk with rfl | rfl | rfl
  · exact split_16 x w hx
  · exact split_32 x w hx
  · exact split_64 x w hx
end Go.Proofs.Yteebokhpoppgeaa.nn
namespace Go.Proofs.Yteebokhpoppgeaa.nn
open Go.RowKit

set_option maxRecDepth 100000 in
set_option maxHeartbeats 2000000 in
theorem class_walk (k x : Nat) (w : World) (S : Bool) (X M : Nat) (hk : kOk k) (_ : M < 18446744073709551616) (_ : X < 4096)
    (HS : Hid (∀ W, Calls Try.prog 63 #[sv k, .int .u64 (x : Int)] W fun e w' => e = .returned (.tuple #[.bool S, .int .i64 (X : Int), .int .u64 (M : Int)]) ∧ Below W.heap.size W w')) :
    Calls Try.prog 60 #[sv k, .int .u64 (x : Int)] w fun e w' => e = .returned (.int .i64 (cl5 (xb k) X M : Int)) ∧ Below w.heap.size w w' := by
  obtain ⟨R, hR⟩ : ∃ R, cl5 (xb k) X M = R := ⟨_, rfl⟩
  rw [hR]
  unfold cl5 at hR
  rw [show 2 ^ xb k - 1 = onz k from rfl] at hR
  have HO := Lib.hid (fun W => ones_any k W hk)
  have HB := Lib.hid (Bs.new w k)
  have hT := hk.facts
  have hT2 : onz k ≤ 2047 := by omega
  unfold sv at HO HS ⊢
  obtain ⟨T, hTT⟩ : ∃ T, onz k = T := ⟨_, rfl⟩
  rw [hTT] at HO hR hT2
  clear hT hTT
  by_cases h1 : X = T
  · have q1 : ((X : Int) == (T : Int)) = true := by rw [h1]; simp
    rw [if_pos h1] at hR
    by_cases h2 : M = 0
    · rw [if_pos h2] at hR
      have q2 : ((M : Int) != 0) = false := by rw [h2]; rfl
      subst hR
      clear h1 h2
      go_enter Try.func60, Try.ntmps60
      go_wp2_with fail
      refine (HS.out _).mono ?_
      rintro e w1 ⟨rfl, hb⟩
      have H1 := Lib.hid ((HB.out _).on hb)
      have hc := H1.out.all
      clear hb
      go_wp2_with fail
      refine (HO.out _).mono ?_
      rintro e w2 ⟨rfl, hb⟩
      have H2 := Lib.hid (H1.out.on hb)
      have hc2 := H2.out.all
      clear hb hc
      go_wp2_with fail
      refine (HO.out _).mono ?_
      rintro e w3 ⟨rfl, hb⟩
      have H3 := Lib.hid (H2.out.on hb)
      clear hb hc2
      go_wp2_with fail
      go_ret
      exact ⟨rfl, H3.out.b⟩
    · rw [if_neg h2] at hR
      have q2 : ((M : Int) != 0) = true := by simp; omega
      subst hR
      clear h1 h2
      go_enter Try.func60, Try.ntmps60
      go_wp2_with fail
      refine (HS.out _).mono ?_
      rintro e w1 ⟨rfl, hb⟩
      have H1 := Lib.hid ((HB.out _).on hb)
      have hc := H1.out.all
      clear hb
      go_wp2_with fail
      refine (HO.out _).mono ?_
      rintro e w2 ⟨rfl, hb⟩
      have H2 := Lib.hid (H1.out.on hb)
      have hc2 := H2.out.all
      clear hb hc
      go_wp2_with fail
      go_ret
      exact ⟨rfl, H2.out.b⟩
  · have q1 : ((X : Int) == (T : Int)) = false := by simp; omega
    rw [if_neg h1] at hR
    obtain ⟨B1, hB1⟩ : ∃ B1, ((X : Int) != 0) = B1 := ⟨_, rfl⟩
    obtain ⟨B2, hB2⟩ : ∃ B2, ((M : Int) != 0) = B2 := ⟨_, rfl⟩
    have HR : Hid (R = if B1 then 2 else if B2 then 1 else 0) := Lib.hid (by
      rw [← hR, ← hB1, ← hB2]
      by_cases c1 : X = 0
      · by_cases c2 : M = 0
        · simp [c1, c2]
        · simp [c1, c2]
      · simp [c1])
    clear h1 hR
    cases B1 <;> cases B2
    all_goals
      go_enter Try.func60, Try.ntmps60
      go_wp2_with fail
      refine (HS.out _).mono ?_
      rintro e w1 ⟨rfl, hb⟩
      have H1 := Lib.hid ((HB.out _).on hb)
      have hc := H1.out.all
      clear hb
      go_wp2_with fail
      refine (HO.out _).mono ?_
      rintro e w2 ⟨rfl, hb⟩
      have H2 := Lib.hid (H1.out.on hb)
      have hc2 := H2.out.all
      clear hb hc
      go_wp2_with fail
      refine (HO.out _).mono ?_
      rintro e w3 ⟨rfl, hb⟩
      have H3 := Lib.hid (H2.out.on hb)
      clear hb hc2
      go_wp2_with fail
      go_ret
      exact ⟨by rw [HR.out]; rfl, H3.out.b⟩
theorem class_any (k x : Nat) (w : World) (hk : kOk k) (hx : x < lim k) : Calls Try.prog 60 #[sv k, .int .u64 (x : Int)] w fun e w' => e = .returned (.int .i64 (clk k x : Int)) ∧ Below w.heap.size w w' := by
  have h2 := fr_lt (w := k) (x := x)
  have h1 := ex_lt (w := k) (x := x)
  have hf := hk.facts
  rw [show 2 ^ fb k = hdn k from rfl] at h2
  have h3 : ex k x ≤ onz k := by unfold onz; omega
  exact class_walk k x w (sg k x) (ex k x) (fr k x) hk (by omega) (by omega) (Lib.hid fun W => split_any k x W hk hx)

end Go.Proofs.Yteebokhpoppgeaa.nn
namespace Go.Proofs.Yteebokhpoppgeaa.nn
open Go.RowKit Go.Great

def shT : Array Value := #[.int .i64 16, .int .i64 5, .int .i64 10, .int .i64 32, .int .i64 8, .int .i64 23, .int .i64 64, .int .i64 11, .int .i64 52]
set_option maxRecDepth 100000 in
set_option maxHeartbeats 1000000 in
theorem shapes_any (w : World) : Calls Try.prog 66 #[] w fun e w' => e = .returned (.agg shT) ∧ Below w.heap.size w w' := by
  have HB := Lib.hid (fun o => (Below.refl w.heap.size w).alloc (Nat.le_refl _) o)
  go_enter Try.func66, Try.ntmps66
  go_wp2_with fail
  exact bodyPost_ret (v := .agg shT) (by simp [results, Try.results66, go_sem, shT]) rfl ⟨rfl, HB.out _⟩
theorem hsz1 (w : World) (o : Obj) : (w.alloc o).heap.size = w.heap.size + 1 := by simp
/-- a result of a struct of three numbers: its block, of a world that calls have changed -/
structure Rs3 (w : World) (T : TypeId) (W : World) : Prop where
  blk : W.heap[w.heap.size]? = some (.cells #[.int .i64 0, .int .i64 0, .int .i64 0] T (0, 0))
  b : Below w.heap.size w W
  z : w.heap.size < W.heap.size
theorem Rs3.new (w : World) (T : TypeId) : Rs3 w T (w.alloc (.cells #[.int .i64 0, .int .i64 0, .int .i64 0] T)) :=
  ⟨heap_alloc_last _ _, (Below.refl _ _).alloc (Nat.le_refl _) _, by rw [hsz1]; omega⟩
theorem Rs3.on {w W W' : World} {T : TypeId} (h : Rs3 w T W) (hB : Below W.heap.size W W') : Rs3 w T W' :=
  ⟨(hB.block _ h.z).trans h.blk, h.b.trans (hB.mono (Nat.le_of_lt h.z)), Nat.lt_of_lt_of_le h.z hB.size⟩
theorem Rs3.all {w W : World} {T : TypeId} (h : Rs3 w T W) : W.cell? ⟨w.heap.size, 0, none⟩ = some (.int .i64 0) ∧ W.cell? ⟨w.heap.size, 1, none⟩ = some (.int .i64 0) ∧ W.cell? ⟨w.heap.size, 2, none⟩ = some (.int .i64 0) ∧ (∀ i, W.frozen? ⟨w.heap.size, i, none⟩ = false) :=
  ⟨cell_of_row _ _ 0 _ _ _ h.blk, cell_of_row _ _ 1 _ _ _ h.blk, cell_of_row _ _ 2 _ _ _ h.blk, fun i => by have := h.blk; simp [World.frozen?, this]⟩
/-- row j of the table -/
def tW : Nat → Nat | 0 => 16 | 1 => 32 | _ => 64
set_option maxRecDepth 100000 in
theorem ix3 (j : Nat) (h : j < 3) (w : World) : (Instr.index 104 (.agg shT) (.int .i64 (j : Int))).run Try.prog w = .ok (.agg #[.int .i64 (tW j : Int), .int .i64 (xb (tW j) : Int), .int .i64 (fb (tW j) : Int)]) w := by
  match j, h with
  | 0, _ => exact (by kernel_rfl : (Instr.index 104 (.agg shT) (.int .i64 0)).run Try.prog w = .ok (.agg #[.int .i64 16, .int .i64 5, .int .i64 10]) w)
  | 1, _ => exact (by kernel_rfl : (Instr.index 104 (.agg shT) (.int .i64 1)).run Try.prog w = .ok (.agg #[.int .i64 32, .int .i64 8, .int .i64 23]) w)
  | 2, _ => exact (by kernel_rfl : (Instr.index 104 (.agg shT) (.int .i64 2)).run Try.prog w = .ok (.agg #[.int .i64 64, .int .i64 11, .int .i64 52]) w)
def soV (k : Int) : Value := if wOk k then sv k.toNat else .agg #[.int .i64 0, .int .i64 0, .int .i64 0]
theorem tW_ok (j : Nat) : wOk (tW j) := by
  unfold tW wOk
  split <;> simp
theorem tW_all {k : Int} (h : ∀ i, i < 3 → (tW i : Int) ≠ k) : ¬ wOk k := by
  have h0 := h 0 (by omega)
  have h1 := h 1 (by omega)
  have h2 := h 2 (by omega)
  simp only [tW] at h0 h1 h2
  unfold wOk
  omega
set_option maxRecDepth 100000 in
set_option maxHeartbeats 1000000 in
theorem shapeOf_any (k : Int) (w : World) : Calls Try.prog 62 #[.int .i64 k] w fun e w' => e = .returned (.tuple #[soV k, .bool (decide (wOk k))]) ∧ Below w.heap.size w w' := by
  obtain ⟨V, hV⟩ : ∃ V, soV k = V := ⟨_, rfl⟩
  obtain ⟨O, hO⟩ : ∃ O, decide (wOk k) = O := ⟨_, rfl⟩
  rw [hV, hO]
  have HV := Lib.hid (And.intro hV hO)
  clear hV hO
  have HB := Lib.hid (Rs3.new w 93)
  go_enter Try.func62, Try.ntmps62
  go_wp2_with fail
  refine (shapes_any _).mono ?_
  rintro e w1 ⟨rfl, hb⟩
  have H1 := Lib.hid (HB.out.on hb)
  clear hb
  go_wp2_with fail
  go_loopw [7] (fun s7 wr => ∃ j : Nat, j ≤ 3 ∧ s7 = .int .i64 (j : Int) ∧ Hid (∀ i, i < j → (tW i : Int) ≠ k) ∧ Hid (Rs3 w 93 wr)) (fun s7 _ => (3 - intOf s7).toNat)
  case atStart => exact ⟨0, by omega, rfl, Lib.hid (fun i hi => absurd hi (by omega)), H1⟩
  case round =>
    obtain ⟨j, hj, rfl, hno, hR⟩ := hrel
    obtain ⟨c0, c1, c2, f0⟩ := hR.out.all
    have hz := hR.out.z
    have hlt : ∀ o, w.heap.size < (wr.alloc o).heap.size := fun o => by rw [hsz1]; omega
    by_cases hj3 : j < 3
    · have hix := ix3 j hj3
      have HW := Lib.hid (And.intro (tW_ok j) (show (tW j : Int).toNat = tW j from Int.toNat_natCast _))
      obtain ⟨K, hK⟩ : ∃ K, tW j = K := ⟨_, rfl⟩
      rw [hK] at hix HW
      have HKJ := Lib.hid hK
      clear hK
      by_cases he : (K : Int) = k
      · have q1 : ((K : Int) == k) = true := by simp [he]
        have HE := Lib.hid he
        clear he
        go_wp2_with fail
        have hne : ¬ w.heap.size = wr.heap.size := by omega
        have hblk := hR.out.blk
        refine bodyPost_ret (v := .tuple #[.agg #[.int .i64 (K : Int), .int .i64 (xb K : Int), .int .i64 (fb K : Int)], .bool true]) (by simp [results, Try.results62, go_sem, World.cell?, World.setCell, World.alloc, Array.getElem?_push, Array.getElem?_modify, hblk, hne]) rfl ⟨?_, ?_⟩
        · rw [← HV.out.1, ← HV.out.2]
          unfold soV
          rw [← HE.out, if_pos HW.out.1, HW.out.2, decide_eq_true HW.out.1]
          rfl
        · exact (((hR.out.b.setCell (Nat.le_refl _) _).setCell (Nat.le_refl _) _).setCell (Nat.le_refl _) _).alloc (by simp [World.setCell]; omega) _
      · have q1 : ((K : Int) == k) = false := by simp [he]
        have HN2 : Hid (∀ i, i < j + 1 → (tW i : Int) ≠ k) := Lib.hid fun i hi => by
          by_cases h : i < j
          · exact hno.out i h
          · have e : i = j := by omega
            rw [e, HKJ.out]
            exact he
        clear he
        go_wp2_with fail
        go_roundw
        case rel => exact ⟨j + 1, by omega, by go_num, HN2, Lib.hid (hR.out.on ((Below.refl _ _).alloc (Nat.le_refl _) _))⟩
        case measure => simp [intOf]; omega
    · obtain rfl : j = 3 := by omega
      have HN := Lib.hid (tW_all hno.out)
      clear hno
      go_wp2_with fail
      have hblk := hR.out.blk
      refine bodyPost_ret (v := .tuple #[.agg #[.int .i64 0, .int .i64 0, .int .i64 0], .bool false]) (by simp [results, Try.results62, go_sem, World.cell?, World.setCell, Array.getElem?_modify, hblk]) rfl ⟨?_, ?_⟩
      · rw [← HV.out.1, ← HV.out.2]
        unfold soV
        rw [if_neg HN.out, decide_eq_false HN.out]
      · exact ((hR.out.b.setCell (Nat.le_refl _) _).setCell (Nat.le_refl _) _).setCell (Nat.le_refl _) _
end Go.Proofs.Yteebokhpoppgeaa.nn
namespace Go.Proofs.Yteebokhpoppgeaa.nn
open Go.RowKit Go.Great

def z3 : Value := .agg #[.int .i64 0, .int .i64 0, .int .i64 0]
def sfV (k : Int) (x : Nat) : Value := if fits k x then sv k.toNat else z3
def SfAns (k : Int) (x : Nat) (W : World) (e : Ending) (W' : World) : Prop := e = .returned (.tuple #[sfV k x, .int .i64 (paE k x : Int)]) ∧ Below W.heap.size W W'
set_option maxRecDepth 100000 in
set_option maxHeartbeats 1000000 in
theorem shapeFor_no (k : Int) (x : Nat) (w : World) (hk : ¬ wOk k) : Calls Try.prog 59 #[.int .i64 k, .int .u64 (x : Int)] w (SfAns k x w) := by
  have HNO : Hid (¬ fits k x) := Lib.hid fun h => hk h.1
  have HS : Hid (∀ W, Calls Try.prog 62 #[.int .i64 k] W fun e w' => e = .returned (.tuple #[.agg #[.int .i64 0, .int .i64 0, .int .i64 0], .bool false]) ∧ Below W.heap.size W w') := Lib.hid fun W => by
    have h := shapeOf_any k W
    unfold soV at h
    rw [if_neg hk, decide_eq_false hk] at h
    exact h
  clear hk
  have HB := Lib.hid (Rs3.new w 93)
  go_enter Try.func59, Try.ntmps59
  go_wp2_with fail
  refine (HS.out _).mono ?_
  rintro e w1 ⟨rfl, hb⟩
  have H1 := Lib.hid (HB.out.on hb)
  obtain ⟨c0, c1, c2, f0⟩ := H1.out.all
  have hz := H1.out.z
  have hlt : ∀ o, w.heap.size < (w1.alloc o).heap.size := fun o => by rw [hsz1]; omega
  clear hb
  go_wp2_with fail
  have hne : ¬ w.heap.size = w1.heap.size := by omega
  have hblk := H1.out.blk
  refine bodyPost_ret (v := .tuple #[.agg #[.int .i64 0, .int .i64 0, .int .i64 0], .int .i64 1]) (by simp [results, Try.results59, go_sem, World.cell?, World.setCell, World.alloc, Array.getElem?_push, Array.getElem?_modify, hblk, hne]) rfl ⟨?_, ?_⟩
  · unfold sfV paE
    rw [if_neg HNO.out, if_neg HNO.out]
    rfl
  · exact (((H1.out.b.setCell (Nat.le_refl _) _).setCell (Nat.le_refl _) _).setCell (Nat.le_refl _) _).alloc (by simp [World.setCell]; omega) _
set_option maxRecDepth 100000 in
set_option maxHeartbeats 1000000 in
theorem shapeFor_16_yes (x : Nat) (w : World) (hx : x < 18446744073709551616) (h : x < 65536) : Calls Try.prog 59 #[.int .i64 16, .int .u64 (x : Int)] w (SfAns ((16 : Nat) : Int) x w) := by
  have HF : Hid (fits ((16 : Nat) : Int) x) := Lib.hid (⟨by unfold wOk; omega, fun _ => h⟩)
  have q1 : ((x : Int) / 65536 != 0) = false := by simp; omega
  clear h
  have HS : Hid (∀ W, Calls Try.prog 62 #[.int .i64 16] W fun e w' => e = .returned (.tuple #[.agg #[.int .i64 16, .int .i64 5, .int .i64 10], .bool true]) ∧ Below W.heap.size W w') := Lib.hid fun W => shapeOf_any 16 W
  have HB := Lib.hid (Rs3.new w 93)
  go_enter Try.func59, Try.ntmps59
  go_wp2_with fail
  refine (HS.out _).mono ?_
  rintro e w1 ⟨rfl, hb⟩
  have H1 := Lib.hid (HB.out.on hb)
  obtain ⟨c0, c1, c2, f0⟩ := H1.out.all
  have hz := H1.out.z
  have hlt : ∀ o, w.heap.size < (w1.alloc o).heap.size := fun o => by rw [hsz1]; omega
  clear hb
  go_wp2_with fail
  have hne : ¬ w.heap.size = w1.heap.size := by omega
  have hblk := H1.out.blk
  refine bodyPost_ret (v := .tuple #[.agg #[.int .i64 16, .int .i64 5, .int .i64 10], .int .i64 0]) (by simp [results, Try.results59, go_sem, World.cell?, World.setCell, World.alloc, Array.getElem?_push, Array.getElem?_modify, hblk, hne]) rfl ⟨?_, ?_⟩
  · unfold sfV paE
    rw [if_pos HF.out, if_pos HF.out]
    rfl
  · exact (((H1.out.b.setCell (Nat.le_refl _) _).setCell (Nat.le_refl _) _).setCell (Nat.le_refl _) _).alloc (by simp [World.setCell]; omega) _
set_option maxRecDepth 100000 in
set_option maxHeartbeats 1000000 in
theorem shapeFor_16_no (x : Nat) (w : World) (hx : x < 18446744073709551616) (h : ¬ x < 65536) : Calls Try.prog 59 #[.int .i64 16, .int .u64 (x : Int)] w (SfAns ((16 : Nat) : Int) x w) := by
  have HF : Hid (¬ fits ((16 : Nat) : Int) x) := Lib.hid (fun h' => h (h'.2 (by decide)))
  have q1 : ((x : Int) / 65536 != 0) = true := by simp; omega
  clear h
  have HS : Hid (∀ W, Calls Try.prog 62 #[.int .i64 16] W fun e w' => e = .returned (.tuple #[.agg #[.int .i64 16, .int .i64 5, .int .i64 10], .bool true]) ∧ Below W.heap.size W w') := Lib.hid fun W => shapeOf_any 16 W
  have HB := Lib.hid (Rs3.new w 93)
  go_enter Try.func59, Try.ntmps59
  go_wp2_with fail
  refine (HS.out _).mono ?_
  rintro e w1 ⟨rfl, hb⟩
  have H1 := Lib.hid (HB.out.on hb)
  obtain ⟨c0, c1, c2, f0⟩ := H1.out.all
  have hz := H1.out.z
  have hlt : ∀ o, w.heap.size < (w1.alloc o).heap.size := fun o => by rw [hsz1]; omega
  clear hb
  go_wp2_with fail
  have hne : ¬ w.heap.size = w1.heap.size := by omega
  have hblk := H1.out.blk
  refine bodyPost_ret (v := .tuple #[.agg #[.int .i64 0, .int .i64 0, .int .i64 0], .int .i64 1]) (by simp [results, Try.results59, go_sem, World.cell?, World.setCell, World.alloc, Array.getElem?_push, Array.getElem?_modify, hblk, hne]) rfl ⟨?_, ?_⟩
  · unfold sfV paE
    rw [if_neg HF.out, if_neg HF.out]
    rfl
  · exact (((H1.out.b.setCell (Nat.le_refl _) _).setCell (Nat.le_refl _) _).setCell (Nat.le_refl _) _).alloc (by simp [World.setCell]; omega) _
set_option maxRecDepth 100000 in
set_option maxHeartbeats 1000000 in
theorem shapeFor_32_yes (x : Nat) (w : World) (hx : x < 18446744073709551616) (h : x < 4294967296) : Calls Try.prog 59 #[.int .i64 32, .int .u64 (x : Int)] w (SfAns ((32 : Nat) : Int) x w) := by
  have HF : Hid (fits ((32 : Nat) : Int) x) := Lib.hid (⟨by unfold wOk; omega, fun _ => h⟩)
  have q1 : ((x : Int) / 4294967296 != 0) = false := by simp; omega
  clear h
  have HS : Hid (∀ W, Calls Try.prog 62 #[.int .i64 32] W fun e w' => e = .returned (.tuple #[.agg #[.int .i64 32, .int .i64 8, .int .i64 23], .bool true]) ∧ Below W.heap.size W w') := Lib.hid fun W => shapeOf_any 32 W
  have HB := Lib.hid (Rs3.new w 93)
  go_enter Try.func59, Try.ntmps59
  go_wp2_with fail
  refine (HS.out _).mono ?_
  rintro e w1 ⟨rfl, hb⟩
  have H1 := Lib.hid (HB.out.on hb)
  obtain ⟨c0, c1, c2, f0⟩ := H1.out.all
  have hz := H1.out.z
  have hlt : ∀ o, w.heap.size < (w1.alloc o).heap.size := fun o => by rw [hsz1]; omega
  clear hb
  go_wp2_with fail
  have hne : ¬ w.heap.size = w1.heap.size := by omega
  have hblk := H1.out.blk
  refine bodyPost_ret (v := .tuple #[.agg #[.int .i64 32, .int .i64 8, .int .i64 23], .int .i64 0]) (by simp [results, Try.results59, go_sem, World.cell?, World.setCell, World.alloc, Array.getElem?_push, Array.getElem?_modify, hblk, hne]) rfl ⟨?_, ?_⟩
  · unfold sfV paE
    rw [if_pos HF.out, if_pos HF.out]
    rfl
  · exact (((H1.out.b.setCell (Nat.le_refl _) _).setCell (Nat.le_refl _) _).setCell (Nat.le_refl _) _).alloc (by simp [World.setCell]; omega) _
set_option maxRecDepth 100000 in
set_option maxHeartbeats 1000000 in
theorem shapeFor_32_no (x : Nat) (w : World) (hx : x < 18446744073709551616) (h : ¬ x < 4294967296) : Calls Try.prog 59 #[.int .i64 32, .int .u64 (x : Int)] w (SfAns ((32 : Nat) : Int) x w) := by
  have HF : Hid (¬ fits ((32 : Nat) : Int) x) := Lib.hid (fun h' => h (h'.2 (by decide)))
  have q1 : ((x : Int) / 4294967296 != 0) = true := by simp; omega
  clear h
  have HS : Hid (∀ W, Calls Try.prog 62 #[.int .i64 32] W fun e w' => e = .returned (.tuple #[.agg #[.int .i64 32, .int .i64 8, .int .i64 23], .bool true]) ∧ Below W.heap.size W w') := Lib.hid fun W => shapeOf_any 32 W
  have HB := Lib.hid (Rs3.new w 93)
  go_enter Try.func59, Try.ntmps59
  go_wp2_with fail
  refine (HS.out _).mono ?_
  rintro e w1 ⟨rfl, hb⟩
  have H1 := Lib.hid (HB.out.on hb)
  obtain ⟨c0, c1, c2, f0⟩ := H1.out.all
  have hz := H1.out.z
  have hlt : ∀ o, w.heap.size < (w1.alloc o).heap.size := fun o => by rw [hsz1]; omega
  clear hb
  go_wp2_with fail
  have hne : ¬ w.heap.size = w1.heap.size := by omega
  have hblk := H1.out.blk
  refine bodyPost_ret (v := .tuple #[.agg #[.int .i64 0, .int .i64 0, .int .i64 0], .int .i64 1]) (by simp [results, Try.results59, go_sem, World.cell?, World.setCell, World.alloc, Array.getElem?_push, Array.getElem?_modify, hblk, hne]) rfl ⟨?_, ?_⟩
  · unfold sfV paE
    rw [if_neg HF.out, if_neg HF.out]
    rfl
  · exact (((H1.out.b.setCell (Nat.le_refl _) _).setCell (Nat.le_refl _) _).setCell (Nat.le_refl _) _).alloc (by simp [World.setCell]; omega) _
set_option maxRecDepth 100000 in
set_option maxHeartbeats 1000000 in
theorem shapeFor_64_yes (x : Nat) (w : World) (hx : x < 18446744073709551616) (_ : x < 18446744073709551616) : Calls Try.prog 59 #[.int .i64 64, .int .u64 (x : Int)] w (SfAns ((64 : Nat) : Int) x w) := by
  have HF : Hid (fits ((64 : Nat) : Int) x) := Lib.hid (⟨by unfold wOk; omega, fun h => absurd h (by decide)⟩)
  have q1 : ((x : Int) / 18446744073709551616 != 0) = false := by simp; omega
  have HS : Hid (∀ W, Calls Try.prog 62 #[.int .i64 64] W fun e w' => e = .returned (.tuple #[.agg #[.int .i64 64, .int .i64 11, .int .i64 52], .bool true]) ∧ Below W.heap.size W w') := Lib.hid fun W => shapeOf_any 64 W
  have HB := Lib.hid (Rs3.new w 93)
  go_enter Try.func59, Try.ntmps59
  go_wp2_with fail
  refine (HS.out _).mono ?_
  rintro e w1 ⟨rfl, hb⟩
  have H1 := Lib.hid (HB.out.on hb)
  obtain ⟨c0, c1, c2, f0⟩ := H1.out.all
  have hz := H1.out.z
  have hlt : ∀ o, w.heap.size < (w1.alloc o).heap.size := fun o => by rw [hsz1]; omega
  clear hb
  go_wp2_with fail
  have hne : ¬ w.heap.size = w1.heap.size := by omega
  have hblk := H1.out.blk
  refine bodyPost_ret (v := .tuple #[.agg #[.int .i64 64, .int .i64 11, .int .i64 52], .int .i64 0]) (by simp [results, Try.results59, go_sem, World.cell?, World.setCell, World.alloc, Array.getElem?_push, Array.getElem?_modify, hblk, hne]) rfl ⟨?_, ?_⟩
  · unfold sfV paE
    rw [if_pos HF.out, if_pos HF.out]
    rfl
  · exact (((H1.out.b.setCell (Nat.le_refl _) _).setCell (Nat.le_refl _) _).setCell (Nat.le_refl _) _).alloc (by simp [World.setCell]; omega) _

theorem shapeFor_any (k : Int) (x : Nat) (w : World) (hx : x < 18446744073709551616) : Calls Try.prog 59 #[.int .i64 k, .int .u64 (x : Int)] w (SfAns k x w) := by
  by_cases hk : wOk k
  · unfold wOk at hk
    rcases hk with rfl | rfl | rfl
    · by_cases h : x < 65536
      · exact shapeFor_16_yes x w hx h
      · exact shapeFor_16_no x w hx h
    · by_cases h : x < 4294967296
      · exact shapeFor_32_yes x w hx h
      · exact shapeFor_32_no x w hx h
    · exact shapeFor_64_yes x w hx hx
  · exact shapeFor_no k x w hk
theorem fits.facts {k : Int} {x : Nat} (h : fits k x) (hx : x < 18446744073709551616) : kOk k.toNat ∧ x < lim k.toNat := by
  obtain ⟨h1, h2⟩ := h
  unfold wOk at h1
  rcases h1 with rfl | rfl | rfl
  · exact ⟨.inl rfl, h2 (by decide)⟩
  · exact ⟨.inr (.inl rfl), h2 (by decide)⟩
  · exact ⟨.inr (.inr rfl), hx⟩
/-- the two ways of shapeFor -/
theorem shapeFor_yes {k : Int} {x : Nat} (W : World) (hx : x < 18446744073709551616) (h : fits k x) : Calls Try.prog 59 #[.int .i64 k, .int .u64 (x : Int)] W fun e w' => e = .returned (.tuple #[sv k.toNat, .int .i64 0]) ∧ Below W.heap.size W w' := by
  have := shapeFor_any k x W hx
  unfold SfAns sfV paE at this
  rw [if_pos h, if_pos h] at this
  exact this
theorem shapeFor_not {k : Int} {x : Nat} (W : World) (hx : x < 18446744073709551616) (h : ¬ fits k x) : Calls Try.prog 59 #[.int .i64 k, .int .u64 (x : Int)] W fun e w' => e = .returned (.tuple #[z3, .int .i64 1]) ∧ Below W.heap.size W w' := by
  have := shapeFor_any k x W hx
  unfold SfAns sfV paE at this
  rw [if_neg h, if_neg h] at this
  exact this
set_option maxRecDepth 100000 in
set_option maxHeartbeats 1000000 in
theorem fclass_any (k : Int) (x : Nat) (w : World) (hx : x < 18446744073709551616) : Calls Try.prog 57 #[.int .i64 k, .int .u64 (x : Int)] w (ClAns k x w) := by
  unfold ClAns
  by_cases hf : fits k x
  · have HS := Lib.hid (fun W => shapeFor_yes W hx hf)
    obtain ⟨hk, hl⟩ := hf.facts hx
    have e3 : paE k x = 0 := by unfold paE; rw [if_pos hf]
    have e4 : clC k x = clk k.toNat x := by unfold clC; rw [if_pos hf]; rfl
    rw [e3, e4]
    have HC := Lib.hid (fun W => class_any k.toNat x W hk hl)
    clear e3 e4 hf hk hl
    obtain ⟨R, hR⟩ : ∃ R, clk k.toNat x = R := ⟨_, rfl⟩
    rw [hR] at HC ⊢
    clear hR
    obtain ⟨K, hK⟩ : ∃ K, k.toNat = K := ⟨_, rfl⟩
    rw [hK] at HC HS
    clear hK
    unfold sv at HS HC
    go_enter Try.func57, Try.ntmps57
    go_wp2_with fail
    with_reducible refine (HS.out _).mono ?_
    rintro e w1 ⟨rfl, hb⟩
    have H1 := Lib.hid hb
    clear hb
    go_wp2_with fail
    with_reducible refine (HC.out _).mono ?_
    rintro e w2 ⟨rfl, hb⟩
    have H2 := Lib.hid ((H1.out.alloc H1.out.size _).trans (hb.mono (Nat.le_trans H1.out.size (by simp))))
    clear hb
    go_wp2_with fail
    go_ret2
    exact ⟨rfl, H2.out⟩
  · have HS := Lib.hid (fun W => shapeFor_not W hx hf)
    have e3 : paE k x = 1 := by unfold paE; rw [if_neg hf]
    have e4 : clC k x = 0 := by unfold clC; rw [if_neg hf]
    rw [e3, e4]
    clear e3 e4 hf
    unfold z3 at HS
    go_enter Try.func57, Try.ntmps57
    go_wp2_with fail
    with_reducible refine (HS.out _).mono ?_
    rintro e w1 ⟨rfl, hb⟩
    have H1 := Lib.hid hb
    clear hb
    go_wp2_with fail
    go_ret2
    exact ⟨rfl, H1.out.alloc H1.out.size _⟩
end Go.Proofs.Yteebokhpoppgeaa.nn
