/- The real fbits: a shape as value, and its small functions: ones, bias, hidden, leastUnit. -/
import Derived.Test.YtkgejncolchobaaRefWiden2
import Derived.Deep.RegionHeld3
namespace Go.Proofs.Ytkgejncolchobaa.nn
open Go.RowKit

/-- the shape of a width -/
def sv (k : Nat) : Value := .agg #[.int .i64 (k : Int), .int .i64 (xb k : Int), .int .i64 (fb k : Int)]
def kOk (k : Nat) : Prop := k = 16 ∨ k = 32 ∨ k = 64
def onz (k : Nat) : Nat := 2 ^ xb k - 1
def hdn (k : Nat) : Nat := 2 ^ fb k
theorem kOk.facts {k : Nat} (h : kOk k) : (k = 16 ∧ xb k = 5 ∧ fb k = 10 ∧ onz k = 31 ∧ bia k = 15 ∧ hdn k = 1024) ∨ (k = 32 ∧ xb k = 8 ∧ fb k = 23 ∧ onz k = 255 ∧ bia k = 127 ∧ hdn k = 8388608) ∨ (k = 64 ∧ xb k = 11 ∧ fb k = 52 ∧ onz k = 2047 ∧ bia k = 1023 ∧ hdn k = 4503599627370496) := by
  rcases h with rfl | rfl | rfl
  · exact .inl (by decide)
  · exact .inr (.inl (by decide))
  · exact .inr (.inr (by decide))
/-- the worlds behind a call's boxed shape -/
structure Bs (w : World) (k : Nat) (W : World) : Prop where
  c0 : W.cell? ⟨w.heap.size, 0, none⟩ = some (.int .i64 (k : Int))
  c1 : W.cell? ⟨w.heap.size, 1, none⟩ = some (.int .i64 (xb k : Int))
  c2 : W.cell? ⟨w.heap.size, 2, none⟩ = some (.int .i64 (fb k : Int))
  b : Below w.heap.size w W
  z : w.heap.size < W.heap.size
theorem Bs.new (w : World) (k : Nat) (T : TypeId) : Bs w k (w.alloc (.cells #[.int .i64 (k : Int), .int .i64 (xb k : Int), .int .i64 (fb k : Int)] T)) :=
  ⟨by simp, by simp, by simp, (Below.refl _ _).alloc (Nat.le_refl _) _, by simp⟩
theorem Bs.on {w W W' : World} {k : Nat} (h : Bs w k W) (hB : Below W.heap.size W W') : Bs w k W' :=
  ⟨(hB.cell (p := ⟨_, _, none⟩) h.z).trans h.c0, (hB.cell (p := ⟨_, _, none⟩) h.z).trans h.c1, (hB.cell (p := ⟨_, _, none⟩) h.z).trans h.c2, h.b.trans (hB.mono (Nat.le_of_lt h.z)), Nat.lt_of_lt_of_le h.z hB.size⟩
theorem Bs.drew {w W : World} {k : Nat} (h : Bs w k W) : Bs w k W.drew := h.on (Below.drew (Below.refl _ _))
theorem Bs.all {w W : World} {k : Nat} (h : Bs w k W) : W.cell? ⟨w.heap.size, 0, none⟩ = some (.int .i64 (k : Int)) ∧ W.cell? ⟨w.heap.size, 1, none⟩ = some (.int .i64 (xb k : Int)) ∧ W.cell? ⟨w.heap.size, 2, none⟩ = some (.int .i64 (fb k : Int)) ∧ Bs w k W := ⟨h.c0, h.c1, h.c2, h⟩
theorem ret_int {k : IntKind} {a b : Int} (h : a = b) : Ending.returned (.int k a) = .returned (.int k b) := by rw [h]
set_option maxRecDepth 100000 in
theorem ones_any (k : Nat) (w : World) (hk : kOk k) : Calls Try.prog 40 #[sv k] w fun e w' => e = .returned (.int .i64 (onz k : Int)) ∧ Below w.heap.size w w' := by
  have HA := Lib.hid (fun o => (Below.refl w.heap.size w).alloc (Nat.le_refl _) o)
  unfold kOk at hk
  rcases hk with rfl | rfl | rfl
  · show Calls _ _ #[.agg #[.int .i64 16, .int .i64 5, .int .i64 10]] _ _
    go_enter Try.func40, Try.ntmps40
    go_wp2
    go_ret
    exact ⟨rfl, HA.out _⟩
  · show Calls _ _ #[.agg #[.int .i64 32, .int .i64 8, .int .i64 23]] _ _
    go_enter Try.func40, Try.ntmps40
    go_wp2
    go_ret
    exact ⟨rfl, HA.out _⟩
  · show Calls _ _ #[.agg #[.int .i64 64, .int .i64 11, .int .i64 52]] _ _
    go_enter Try.func40, Try.ntmps40
    go_wp2
    go_ret
    exact ⟨rfl, HA.out _⟩
set_option maxRecDepth 100000 in
theorem hidden_any (k : Nat) (w : World) (hk : kOk k) : Calls Try.prog 41 #[sv k] w fun e w' => e = .returned (.int .u64 (hdn k : Int)) ∧ Below w.heap.size w w' := by
  have HA := Lib.hid (fun o => (Below.refl w.heap.size w).alloc (Nat.le_refl _) o)
  unfold kOk at hk
  rcases hk with rfl | rfl | rfl
  · show Calls _ _ #[.agg #[.int .i64 16, .int .i64 5, .int .i64 10]] _ _
    go_enter Try.func41, Try.ntmps41
    go_wp2
    go_ret
    exact ⟨rfl, HA.out _⟩
  · show Calls _ _ #[.agg #[.int .i64 32, .int .i64 8, .int .i64 23]] _ _
    go_enter Try.func41, Try.ntmps41
    go_wp2
    go_ret
    exact ⟨rfl, HA.out _⟩
  · show Calls _ _ #[.agg #[.int .i64 64, .int .i64 11, .int .i64 52]] _ _
    go_enter Try.func41, Try.ntmps41
    go_wp2
    go_ret
    exact ⟨rfl, HA.out _⟩
set_option maxRecDepth 100000 in
theorem bias_any (k : Nat) (w : World) (hk : kOk k) : Calls Try.prog 45 #[sv k] w fun e w' => e = .returned (.int .i64 (bia k : Int)) ∧ Below w.heap.size w w' := by
  have hf := hk.facts
  have HQ : Hid ((onz k : Int) / 2 = (bia k : Int)) := Lib.hid (by omega)
  have ho : (onz k : Int) ≤ 2047 := by omega
  have HO := Lib.hid (fun W => ones_any k W hk)
  have HB := Lib.hid (Bs.new w k)
  unfold sv at HO ⊢
  clear hf
  go_enter Try.func45, Try.ntmps45
  go_wp2_with fail
  refine (HO.out _).mono ?_
  rintro e w1 ⟨rfl, hb⟩
  have H1 := Lib.hid ((HB.out _).on hb)
  clear hb
  go_wp2_with fail
  go_ret
  exact ⟨ret_int HQ.out, H1.out.b⟩
set_option maxRecDepth 100000 in
set_option maxHeartbeats 400000 in
theorem leastUnit_any (k : Nat) (w : World) (hk : kOk k) : Calls Try.prog 43 #[sv k] w fun e w' => e = .returned (.int .i64 (1 - (bia k : Int) - (fb k : Int))) ∧ Below w.heap.size w w' := by
  have hf := hk.facts
  have h1 : (bia k : Int) ≤ 1023 := by omega
  have h2 : (fb k : Int) ≤ 52 := by omega
  have HC : Hid (∀ W, Bs w k W → Calls Try.prog 45 #[sv k] W fun e w' => e = .returned (.int .i64 (bia k : Int)) ∧ Bs w k w') := Lib.hid fun W hW => (bias_any k W hk).mono fun e w' ⟨he, hb⟩ => ⟨he, hW.on hb⟩
  have HB := Lib.hid (Bs.new w k)
  unfold sv at HC ⊢
  clear hf
  have q1 : IntKind.i64.wrap (1 - (bia k : Int)) = 1 - (bia k : Int) := IntWalk.i64_in _ (by omega)
  have q2 : IntKind.i64.wrap (1 - (bia k : Int) - (fb k : Int)) = 1 - (bia k : Int) - (fb k : Int) := IntWalk.i64_in _ (by omega)
  go_enter Try.func43, Try.ntmps43
  go_wp2_with fail
  have hb0 := HB.out 58
  generalize w.alloc _ = W0 at hb0 ⊢
  have hb1 := hb0.drew
  have hb := hb1.all
  go_region_held3 (fun W => W.cell? ⟨w.heap.size, 0, none⟩ = some (.int .i64 (k : Int)) ∧ W.cell? ⟨w.heap.size, 1, none⟩ = some (.int .i64 (xb k : Int)) ∧ W.cell? ⟨w.heap.size, 2, none⟩ = some (.int .i64 (fb k : Int)) ∧ Bs w k W) (first | exact Bs.all ‹_› | exact Bs.all (And.right ‹_›))
    (first | (go_at_call 45; with_reducible refine (HC.out _ ?_).mono ?_; (first | assumption | exact And.right ‹_›); rintro e w' ⟨rfl, hk5⟩))
  go_wp2_with fail
  go_ret
  exact ⟨rfl, (by assumption : Bs w k _).b⟩
end Go.Proofs.Ytkgejncolchobaa.nn
