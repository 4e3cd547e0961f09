/- The walk of subtract: in place it takes the limbs h from the limbs f. -/
import Derived.Test.YtnikoojgoiobjaaDoorSub32
import Derived.Test.YtnikoojgoiobjaaDoorAddRel
import Derived.Test.YtnikoojgoiobjaaDoorRefSub
import Derived.Deep.RegionWith
import Derived.Deep.DeepCutAuto
namespace Go.Proofs.YtnikoojgoiobjaaDoor.nn
open Go.RowKit

/-- what holds when the first i limbs are done, with the borrow k -/
def SubRel (w wr : World) (g : Nat) (e : TypeId) (cur : Array Value) (off n : Nat) (f G f' : Nat → Nat) (cur' : Array Value) (k i : Nat) : Prop :=
  Wrote w wr g e cur cur' off n ∧ Ints cur' .u32 off n f' ∧ Lt (2 ^ 32) f' n ∧ (∀ j, i ≤ j → j < n → f' j = f j) ∧
    sm (2 ^ 32) f i + k * (2 ^ 32) ^ i = sm (2 ^ 32) f' i + sm (2 ^ 32) G i

theorem SubRel.step {w wr : World} {g : Nat} {e : TypeId} {cur : Array Value} {off n : Nat} {f G f' : Nat → Nat} {cur' : Array Value} {k i : Nat} (H : SubRel w wr g e cur off n f G f' cur' k i) (hi : i < n) (hG : G i < 4294967296) (hk : k ≤ 1) :
    SubRel w (wr.setCell ⟨g, off + i, none⟩ (.int .u32 (sd (f' i) (G i) k : Nat))) g e cur off n f G (upd f' i (sd (f' i) (G i) k)) (cur'.setIfInBounds (off + i) (.int .u32 (sd (f' i) (G i) k : Nat))) (sb (f' i) (G i) k) (i + 1) := by
  obtain ⟨h1, h2, h3, h4, h5⟩ := H
  have hx : f' i < 2 ^ 32 := h3 i hi
  refine ⟨h1.set_ i hi _, h2.set_ i _ hi, h3.upd (Nat.mod_lt _ (by decide)), fun j ha hb => ?_, ?_⟩
  · rw [upd_ne f' (by omega)]; exact h4 j (by omega) hb
  · rw [sm_snoc]
    simp only [sm]
    rw [pow_s (2 ^ 32) i, ← h4 i (Nat.le_refl _) hi]
    have e := borrow_eq (P := (2 ^ 32) ^ i) (Bs := 2 ^ 32) (a := f' i) (b := G i) (c := k) (v := sd (f' i) (G i) k) (k' := sb (f' i) (G i) k) (by unfold sd sb; split <;> omega)
    omega

theorem SubRel.drew {w wr : World} {g : Nat} {e : TypeId} {cur : Array Value} {off n : Nat} {f G f' : Nat → Nat} {cur' : Array Value} {k i : Nat} (H : SubRel w wr g e cur off n f G f' cur' k i) : SubRel w wr.drew g e cur off n f G f' cur' k i :=
  ⟨H.1.drewN 1, H.2.1, H.2.2.1, H.2.2.2.1, H.2.2.2.2⟩

theorem sb_le (x y b : Nat) : sb x y b ≤ 1 := by unfold sb; split <;> omega

set_option maxRecDepth 100000 in
set_option maxHeartbeats 1000000 in
theorem subtract_any (g off n c : Nat) (e : TypeId) (cur : Array Value) (f : Nat → Nat) (B : Option Addr) (m d : Nat) (h : Nat → Nat) (w : World)
    (hb : Bk w g e cur) (hi : Ints cur .u32 off n f) (hB : Rd w .u32 B m h) (hne : ∀ b o, B = some ⟨b, o, none⟩ → 0 < m → b ≠ g) (lf : Lt (2 ^ 32) f n) (lh : Lt (2 ^ 32) h m) (hn : n ≤ maxLen) (hm : m ≤ maxLen) :
    Calls Tryd.prog 40 #[.slice (some ⟨g, off, none⟩) n c, .slice B m d] w fun e' w' => e' = .returned (.tuple #[]) ∧ ∃ f' cur' k, SubRel w w' g e cur off n f (pad h m) f' cur' k n := by
  unfold maxLen at hn hm
  go_enter Tryd.func40, Tryd.ntmps40
  go_wp2
  go_loopw [4, 8] (fun s4 s8 wr => ∃ (k i : Nat) (f' : Nat → Nat) (cur' : Array Value), k ≤ 1 ∧ i ≤ n ∧ s4 = .int .u32 (k : Int) ∧ s8 = .int .i64 i ∧ SubRel w wr g e cur off n f (pad h m) f' cur' k i) (fun _ s8 _ => n - (intOf s8).toNat)
  case atStart => exact ⟨0, 0, f, cur, by omega, by omega, rfl, rfl, Wrote.refl hb off n, hi, lf, fun _ _ _ => rfl, by simp [sm]⟩
  case round =>
    obtain ⟨k, i, f', cur', hk, hin, rfl, rfl, hh⟩ := hrel
    by_cases hlt : i < n
    · have hx := (Bk.cell hh.1.blk (off + i)).trans (hh.2.1 i (by omega))
      have hxf := Bk.frozen hh.1.blk (off + i)
      have bx : f' i < 4294967296 := hh.2.2.1 i (by omega)
      by_cases hlm : i < m
      · obtain ⟨b, o, rfl, _, hcell⟩ := (hB.wrote hh.1 hne) (by omega)
        have hy := hcell i hlm
        have by_ : h i < 4294967296 := lh i hlm
        have hp : Hid (pad h m i = h i) := if_pos hlm
        clear hcell
        go_wp2_with fail
        go_region_with (go_at_call 57; refine (sub32_any (f' i) (h i) k _ bx by_ hk).mono ?_; rintro e w' ⟨rfl, rfl⟩)
        all_goals
          go_wp2
          go_roundw
          case rel => exact ⟨sb (f' i) (h i) k, i + 1, _, _, sb_le _ _ _, by omega, rfl, by go_num, by rw [← hp.out]; exact hh.drew.step hlt (by rw [hp.out]; exact by_) hk⟩
          case measure => simp [intOf]; omega
      · have hp : Hid (pad h m i = 0) := if_neg hlm
        have h0 : Hid (∀ W, Calls Tryd.prog 57 #[.int .u32 (f' i : Nat), .int .u32 0, .int .u32 (k : Nat)] W fun e w' => e = .returned (.tuple #[.int .u32 (sd (f' i) 0 k : Nat), .int .u32 (sb (f' i) 0 k : Nat)]) ∧ W = w') := Lib.hid fun W => sub32_any (f' i) 0 k W bx (by decide) hk
        go_wp2_with (go_at_call 57; refine (h0.out _).mono ?_; rintro e w' ⟨rfl, rfl⟩)
        go_roundw
        case rel => exact ⟨sb (f' i) 0 k, i + 1, _, _, sb_le _ _ _, by omega, rfl, by go_num, by rw [← hp.out]; exact hh.step hlt (by rw [hp.out]; decide) hk⟩
        case measure => simp [intOf]; omega
    · obtain rfl : i = n := by omega
      go_wp2
      go_end0
      exact ⟨rfl, f', cur', k, hh⟩
end Go.Proofs.YtnikoojgoiobjaaDoor.nn
