/- The walks of the document's Trim, at and long. -/
import Derived.Test.YtnikoojgoiobjaaDoorAdd
import Derived.Test.YtnikoojgoiobjaaDoorCmp
namespace Go.Proofs.YtnikoojgoiobjaaDoor.nn
open Go.RowKit

set_option maxRecDepth 100000 in
set_option maxHeartbeats 400000 in
theorem rtrim_any (A : Option Addr) (n c : Nat) (f : Nat → Nat) (w : World) (hA : Rd w .u32 A n f) (hn : n ≤ c) (hreach : n * 4 ≤ 140737488355328) :
    Calls Tryd.prog 26 #[.slice A n c] w fun e w' => ∃ v, e = .returned v ∧ w'.ownsRow w.heap.size 45 1 v (tr f n) (vl .u32 f (tr f n)) ∧ Below w.heap.size w w' := by
  obtain ⟨i0, hi, hz0, hz1, hz2⟩ := info_parts info_u32
  have hle := tr_le f n
  go_enter Tryd.func26, Tryd.ntmps26
  go_wp2
  go_loop [3] (fun s => ∃ m : Nat, m ≤ n ∧ s = .int .i64 m ∧ Hid (tr f m = tr f n)) (fun s => (intOf s).toNat)
  case atStart => exact ⟨n, Nat.le_refl _, rfl, Lib.hid rfl⟩
  case round =>
    obtain ⟨m, hm, rfl, ht⟩ := hrel
    have fin : (tr f m = m) → ∀ v1 w1, w1.ownsRow w.heap.size 45 1 v1 (0 + m) (vl .u32 (jn f 0 f) (0 + m)) → Below w.heap.size (w.alloc (.cells #[] 45)) w1 →
        w1.ownsRow w.heap.size 45 1 v1 (tr f n) (vl .u32 f (tr f n)) ∧ Below w.heap.size w w1 := fun e v1 w1 h1 h2 => by
      rw [jn_zero, Nat.zero_add] at h1
      rw [← ht.out, e]
      exact ⟨h1, ((Below.refl _ _).alloc (Nat.le_refl _) _).trans h2⟩
    have FIN := Lib.hid fin
    clear fin
    by_cases h0 : 0 < m
    · obtain ⟨b, off, eA, hb, hcell⟩ := hA (by omega)
      have hx := hcell (m - 1) (by omega)
      clear hcell
      by_cases hz : f (m - 1) = 0
      · have ht' := tr_last f h0 hz
        have H : Hid (tr f (m - 1) = tr f n) := Lib.hid (ht'.trans ht.out)
        rw [hz] at hx
        subst eA
        clear hz ht' ht
        go_wp2
        go_round
        case rel => exact ⟨m - 1, by omega, by go_num, H⟩
        case measure => simp [intOf]; omega
      · have H := Lib.hid (tr_stop f (.inr hz))
        have hz' : 1 ≤ f (m - 1) := by omega
        subst eA
        clear hz
        go_wp2_with (at_builtin; refine wpList_app rfl (.tmp 18) (.tmp 21) _ rfl w.heap.size 45 i0 _ 4 Tryd.underlying22 hi hz0 hz1 hz2 rfl .u32 _ 0 f rfl (World.ownsRow_lit w #[] 0 (Nat.le_refl _) (by simp [maxLen]) rfl) _ m c f rfl ((hA.mono hm).alloc _) ?c1 ?c2 ?c3 ?c4; rotate_left 3; intro v1 w1 hown1 hb1)
        case c1 => unfold maxLen; omega
        case c2 => omega
        go_ret
        exact ⟨v1, rfl, FIN.out H.out v1 w1 hown1 hb1⟩
    · obtain rfl : m = 0 := by omega
      go_wp2_with (at_builtin; refine wpList_app rfl (.tmp 18) (.tmp 21) _ rfl w.heap.size 45 i0 _ 4 Tryd.underlying22 hi hz0 hz1 hz2 rfl .u32 _ 0 f rfl (World.ownsRow_lit w #[] 0 (Nat.le_refl _) (by simp [maxLen]) rfl) _ 0 c f rfl Rd.none_ ?d1 ?d2 ?d3 ?d4; rotate_left 3; intro v1 w1 hown1 hb1)
      go_ret
      exact ⟨v1, rfl, FIN.out rfl v1 w1 hown1 hb1⟩

set_option maxHeartbeats 400000 in
theorem at_any (A : Option Addr) (n c i : Nat) (f : Nat → Nat) (w : World) (hA : Rd w .u32 A n f) (lf : Lt (2 ^ 32) f n) (hn : n ≤ maxLen) (hi : i ≤ maxLen) :
    Calls Tryd.prog 46 #[.slice A n c, .int .i64 i] w fun e w' => e = .returned (.int .u64 (pad f n i : Nat)) ∧ w = w' := by
  unfold maxLen at hn hi
  by_cases h : i < n
  · obtain ⟨b, off, rfl, hb, hcell⟩ := hA (by omega)
    have hx := hcell i h
    have bx := lf i h
    have e : Hid (pad f n i = f i) := if_pos h
    clear hcell
    go_enter Tryd.func46, Tryd.ntmps46
    go_wp2
    go_ret
    exact ⟨ret_int (by rw [e.out]), rfl⟩
  · have e : Hid (pad f n i = 0) := if_neg h
    go_enter Tryd.func46, Tryd.ntmps46
    go_wp2
    go_ret
    exact ⟨ret_int (by rw [e.out]; rfl), rfl⟩
end Go.Proofs.YtnikoojgoiobjaaDoor.nn
