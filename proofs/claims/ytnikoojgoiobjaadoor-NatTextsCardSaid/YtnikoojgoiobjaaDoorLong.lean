/- The walk of tooLong: true just if one of the numbers has more than 4096 limbs without those at the end. -/
import Derived.Test.YtnikoojgoiobjaaDoorTrim
namespace Go.Proofs.YtnikoojgoiobjaaDoor.nn
open Go.RowKit

/-- a slice of slices of 32-bit limbs -/
def Rds (w : World) (A : Option Addr) (n : Nat) (AA : Nat → Option Addr) (L C : Nat → Nat) (F : Nat → Nat → Nat) : Prop :=
  0 < n → ∃ b off, A = some ⟨b, off, none⟩ ∧ b < w.heap.size ∧ ∀ i, i < n → w.cell? ⟨b, off + i, none⟩ = some (.slice (AA i) (L i) (C i)) ∧ L i ≤ C i ∧ C i ≤ maxLen ∧ Rd w .u32 (AA i) (L i) (F i)

theorem Rds.keep {w w' : World} {A : Option Addr} {n : Nat} {AA : Nat → Option Addr} {L C : Nat → Nat} {F : Nat → Nat → Nat} (h : Rds w A n AA L C F)
    (hs : w.heap.size ≤ w'.heap.size) (hk : ∀ b o, b < w.heap.size → w'.cell? ⟨b, o, none⟩ = w.cell? ⟨b, o, none⟩) : Rds w' A n AA L C F := fun hn => by
  obtain ⟨b, off, e, hb, hc⟩ := h hn
  exact ⟨b, off, e, by omega, fun i hi => ⟨(hk b _ hb).trans (hc i hi).1, (hc i hi).2.1, (hc i hi).2.2.1, (hc i hi).2.2.2.keep hs hk⟩⟩
theorem Rds.below {w w' : World} {A : Option Addr} {n : Nat} {AA : Nat → Option Addr} {L C : Nat → Nat} {F : Nat → Nat → Nat} (h : Rds w A n AA L C F)
    (hb : Below w.heap.size w w') : Rds w' A n AA L C F :=
  h.keep hb.size fun b o hlt => hb.cell (p := ⟨b, o, none⟩) hlt

/-- is one of the first n too long? -/
def lg (L : Nat → Nat) (F : Nat → Nat → Nat) : Nat → Bool
  | 0 => false
  | n + 1 => lg L F n || decide (4096 < tr (F n) (L n))

theorem lg_yes {L : Nat → Nat} {F : Nat → Nat → Nat} {n : Nat} (i : Nat) (hi : i < n) (h : 4096 < tr (F i) (L i)) : lg L F n = true := by
  induction n with
  | zero => omega
  | succ n ih =>
    rw [lg]
    by_cases e : i = n
    · subst e; simp [h]
    · rw [ih (by omega)]; rfl
theorem lg_next {L : Nat → Nat} {F : Nat → Nat → Nat} {i : Nat} (h : lg L F i = false) (hi : ¬ 4096 < tr (F i) (L i)) : lg L F (i + 1) = false := by
  rw [lg, h]; simp; omega
theorem lg_no {L : Nat → Nat} {F : Nat → Nat → Nat} {n : Nat} (h : lg L F n = false) : ∀ i, i < n → tr (F i) (L i) ≤ 4096 := fun i hi => by
  rcases Nat.lt_or_ge 4096 (tr (F i) (L i)) with h1 | h1
  · rw [lg_yes i hi h1] at h; cases h
  · exact h1
theorem ret_bool {a b : Bool} (h : a = b) : Ending.returned (.bool a) = .returned (.bool b) := by rw [h]

set_option maxHeartbeats 400000 in
theorem long_any (A : Option Addr) (n c : Nat) (AA : Nat → Option Addr) (L C : Nat → Nat) (F : Nat → Nat → Nat) (w : World) (hA : Rds w A n AA L C F) (hn : n ≤ c) (hc : c ≤ maxLen) :
    Calls Tryd.prog 27 #[.slice A n c] w fun e w' => e = .returned (.bool (lg L F n)) ∧ w = w' := by
  unfold maxLen at hc
  go_enter Tryd.func27, Tryd.ntmps27
  go_wp2
  go_loop [7] (fun s => ∃ i : Nat, i ≤ n ∧ s = .int .i64 i ∧ Hid (lg L F i = false)) (fun s => n - (intOf s).toNat)
  case atStart => exact ⟨0, Nat.zero_le _, rfl, Lib.hid rfl⟩
  case round =>
    obtain ⟨i, hi, rfl, hl⟩ := hrel
    by_cases hlt : i < n
    · obtain ⟨b, off, rfl, _, hcell⟩ := hA (by omega)
      obtain ⟨hx, hlc, hcm, hr⟩ := hcell i hlt
      clear hcell
      have hle := tr_le (F i) (L i)
      unfold maxLen at hcm
      by_cases hz : 4096 < tr (F i) (L i)
      · have H := Lib.hid (lg_yes (L := L) (F := F) (n := n) i hlt hz)
        go_wp2_with (go_at_call 30; refine (trim_any _ _ _ _ _ hr hlc (by unfold maxLen; omega)).mono ?_; rintro e w' ⟨rfl, rfl⟩)
        go_ret
        exact ⟨ret_bool H.out.symm, rfl⟩
      · have H := Lib.hid (lg_next hl.out hz)
        go_wp2_with (go_at_call 30; refine (trim_any _ _ _ _ _ hr hlc (by unfold maxLen; omega)).mono ?_; rintro e w' ⟨rfl, rfl⟩)
        go_round
        case rel => exact ⟨i + 1, by omega, by go_num, H⟩
        case measure => simp [intOf]; omega
    · obtain rfl : i = n := by omega
      go_wp2
      go_ret
      exact ⟨ret_bool hl.out.symm, rfl⟩

end Go.Proofs.YtnikoojgoiobjaaDoor.nn
