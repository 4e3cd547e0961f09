/- The walk of addInto at 32 bits: in place it adds the limbs h to the limbs f, and tells what is carried out. -/
import Derived.Test.YtnikoojgoiobjaaDoorProg
import Derived.WalkKit
import Derived.Lib.Hide
import Derived.Test.YtnikoojgoiobjaaDoorAddRel
namespace Go.Proofs.YtnikoojgoiobjaaDoor.nn
open Go.RowKit

set_option maxHeartbeats 400000 in
theorem addInto_any (g off n c : Nat) (e : TypeId) (cur : Array Value) (f : Nat → Nat) (B : Option Addr) (m d : Nat) (h : Nat → Nat) (w : World)
    (hb : Bk w g e cur) (hi : Ints cur .u32 off n f) (hB : Rd w .u32 B m h) (hne : ∀ b o, B = some ⟨b, o, none⟩ → 0 < m → b ≠ g) (hmn : m ≤ n) (lf : Lt (2 ^ 32) f n) (lh : Lt (2 ^ 32) h m) (hn : n ≤ maxLen) :
    Calls Tryd.prog 56 #[.slice (some ⟨g, off, none⟩) n c, .slice B m d] w fun e' w' => ∃ k : Nat, e' = .returned (.int .u32 (k : Int)) ∧ k ≤ 1 ∧ AddEnd .u32 (2 ^ 32) w w' g e cur off n f (sm (2 ^ 32) h m) k := by
  unfold maxLen at hn
  go_enter Tryd.func56, Tryd.ntmps56
  go_wp2
  go_loopw [5, 13] (fun s5 s13 wr => ∃ (k i : Nat) (f' : Nat → Nat) (cur' : Array Value), k ≤ 1 ∧ i ≤ m ∧ s5 = .int .u32 (k : Int) ∧ s13 = .int .i64 i ∧ AddRel .u32 (2 ^ 32) w wr g e cur off n f h f' cur' k i i) (fun _ s13 _ => m - (intOf s13).toNat)
  case atStart => exact ⟨0, 0, f, cur, by omega, by omega, rfl, rfl, Wrote.refl hb off n, hi, lf, fun _ _ _ => rfl, by simp [sm]⟩
  case round =>
    obtain ⟨k, i, f', cur', hk, him, rfl, rfl, hh⟩ := hrel
    by_cases hlt : i < m
    · have hx := (Bk.cell hh.1.blk (off + i)).trans (hh.2.1 i (by omega))
      have hxf := Bk.frozen hh.1.blk (off + i)
      obtain ⟨b, o, rfl, _, hcell⟩ := (hB.wrote hh.1 hne) (by omega)
      have hy := hcell i hlt
      have bx := hh.2.2.1 i (by omega)
      have by_ := lh i hlt
      clear hcell
      go_wp2
      all_goals
        go_roundw
        case rel =>
          first
            | exact ⟨1, i + 1, _, _, by omega, by omega, by go_num, by go_num, hh.step (by omega) 1 ((f' i + h i + k) % 4294967296) (by omega) (by omega) (by omega)⟩
            | exact ⟨0, i + 1, _, _, by omega, by omega, by go_num, by go_num, hh.step (by omega) 0 ((f' i + h i + k) % 4294967296) (by omega) (by omega) (by omega)⟩
        case measure => simp [intOf]; omega
    · obtain rfl : i = m := by omega
      clear hlt
      go_wp2
      go_loopw [5, 10] (fun s5 s10 wr => ∃ (k i' : Nat) (f' : Nat → Nat) (cur' : Array Value), k ≤ 1 ∧ i' ≤ n ∧ s5 = .int .u32 (k : Int) ∧ s10 = .int .i64 i' ∧ AddRel .u32 (2 ^ 32) w wr g e cur off n f h f' cur' k i' i) (fun _ s10 _ => n - (intOf s10).toNat)
      case atStart => exact ⟨k, i, f', cur', hk, hmn, rfl, rfl, hh⟩
      case round =>
        clear hh
        obtain ⟨k, i', f', cur', hk, him, rfl, rfl, hh⟩ := hrel
        by_cases hlt : i' < n
        · have hx := (Bk.cell hh.1.blk (off + i')).trans (hh.2.1 i' (by omega))
          have hxf := Bk.frozen hh.1.blk (off + i')
          have bx := hh.2.2.1 i' (by omega)
          rcases (by omega : k = 0 ∨ k = 1) with rfl | rfl
          · go_wp2
            go_ret
            exact ⟨0, rfl, by omega, hh.done him (.inr rfl)⟩
          · go_wp2
            · have hb : (((f' i' : Int) + 1) % 4294967296 != 0) = true := by assumption
              have hz := bne_iff_ne.1 hb
              go_roundw
              case rel => exact ⟨0, i' + 1, _, _, by omega, by omega, rfl, by go_num, hh.more hlt 0 ((f' i' + 1) % 4294967296) (by omega) (by omega) (by omega)⟩
              case measure => simp [intOf]; omega
            · have hb : (((f' i' : Int) + 1) % 4294967296 != 0) = false := by assumption
              have hz : ((f' i' : Int) + 1) % 4294967296 = 0 := by rw [bne_eq_false_iff_eq] at hb; exact hb
              go_roundw
              case rel => exact ⟨1, i' + 1, _, _, by omega, by omega, rfl, by go_num, hh.more hlt 1 ((f' i' + 1) % 4294967296) (by omega) (by omega) (by omega)⟩
              case measure => simp [intOf]; omega
        · obtain rfl : i' = n := by omega
          go_wp2
          go_ret
          exact ⟨k, rfl, hk, hh.done him (.inl rfl)⟩
end Go.Proofs.YtnikoojgoiobjaaDoor.nn
