/- The walks of the document's need and may. -/
import Derived.Test.YtakbahhoiggmhaaProg
import Derived.WalkKit
import Derived.Lib.Hide
import Derived.Deep.CutBlock
import Derived.Test.YtakbahhoiggmhaaUtf
namespace Go.Proofs.Ytakbahhoiggmhaa.nn
open Go.RowKit

set_option maxRecDepth 100000 in
theorem need_any (x : Nat) (w : World) (hx : x < 256) :
    Calls Try.prog 28 #[.int .u8 (x : Int)] w fun e w' => e = .returned (.int .i64 (nd x : Int)) ∧ w = w' := by
  rcases nd_cases x with ⟨h, e⟩ | ⟨h, h', e⟩ | ⟨h, h', e⟩ | ⟨h, h', e⟩ | ⟨h | h, e⟩
  all_goals
    rw [e]
    clear e
    go_enter Try.func28, Try.ntmps28
    go_wp2
    go_ret
    exact ⟨rfl, rfl⟩

theorem ret_yes {p : Prop} [Decidable p] (h : p) : Ending.returned (.bool (decide p)) = .returned (.bool true) := by rw [decide_eq_true h]
theorem ret_no {p : Prop} [Decidable p] (h : ¬ p) : Ending.returned (.bool (decide p)) = .returned (.bool false) := by rw [decide_eq_false h]
theorem my_mk {x j y L M : Nat} (hL : lt_ x j = L) (hM : mt_ x j = M) : my x j y = decide (L ≤ y ∧ y ≤ M) := by rw [← hL, ← hM]; rfl

set_option maxRecDepth 100000 in
set_option maxHeartbeats 1000000 in
theorem may_any (x j y : Nat) (w : World) (hx : x < 256) (hy : y < 256) (hj : j < 5) :
    Calls Try.prog 29 #[.int .u8 (x : Int), .int .i64 (j : Int), .int .u8 (y : Int)] w fun e w' => e = .returned (.bool (my x j y)) ∧ w = w' := by
  by_cases h1 : j = 1
  · subst h1
    have hl := lt_cases x
    have hm := mt_cases x
    by_cases a : x = 224 ∨ x = 237 ∨ x = 240 ∨ x = 244
    · clear hl hm
      rcases a with rfl | rfl | rfl | rfl
      · rw [my_mk (x := 224) (j := 1) (y := y) (L := 160) (M := 191) rfl rfl]
        by_cases b : 160 ≤ y
        · by_cases c : y ≤ 191
          · rw [decide_eq_true ⟨b, c⟩]
            go_enter Try.func29, Try.ntmps29
            go_wp2
            go_ret
            exact ⟨ret_yes (p := (y : Int) ≤ 191) (by omega), rfl⟩
          · rw [decide_eq_false (fun h => c h.2)]
            go_enter Try.func29, Try.ntmps29
            go_wp2
            go_ret
            exact ⟨ret_no (p := (y : Int) ≤ 191) (by omega), rfl⟩
        · rw [decide_eq_false (fun h => b h.1)]
          go_enter Try.func29, Try.ntmps29
          go_wp2
          go_ret
          exact ⟨rfl, rfl⟩
      · rw [my_mk (x := 237) (j := 1) (y := y) (L := 128) (M := 159) rfl rfl]
        by_cases b : 128 ≤ y
        · by_cases c : y ≤ 159
          · rw [decide_eq_true ⟨b, c⟩]
            go_enter Try.func29, Try.ntmps29
            go_wp2
            go_ret
            exact ⟨ret_yes (p := (y : Int) ≤ 159) (by omega), rfl⟩
          · rw [decide_eq_false (fun h => c h.2)]
            go_enter Try.func29, Try.ntmps29
            go_wp2
            go_ret
            exact ⟨ret_no (p := (y : Int) ≤ 159) (by omega), rfl⟩
        · rw [decide_eq_false (fun h => b h.1)]
          go_enter Try.func29, Try.ntmps29
          go_wp2
          go_ret
          exact ⟨rfl, rfl⟩
      · rw [my_mk (x := 240) (j := 1) (y := y) (L := 144) (M := 191) rfl rfl]
        by_cases b : 144 ≤ y
        · by_cases c : y ≤ 191
          · rw [decide_eq_true ⟨b, c⟩]
            go_enter Try.func29, Try.ntmps29
            go_wp2
            go_ret
            exact ⟨ret_yes (p := (y : Int) ≤ 191) (by omega), rfl⟩
          · rw [decide_eq_false (fun h => c h.2)]
            go_enter Try.func29, Try.ntmps29
            go_wp2
            go_ret
            exact ⟨ret_no (p := (y : Int) ≤ 191) (by omega), rfl⟩
        · rw [decide_eq_false (fun h => b h.1)]
          go_enter Try.func29, Try.ntmps29
          go_wp2
          go_ret
          exact ⟨rfl, rfl⟩
      · rw [my_mk (x := 244) (j := 1) (y := y) (L := 128) (M := 143) rfl rfl]
        by_cases b : 128 ≤ y
        · by_cases c : y ≤ 143
          · rw [decide_eq_true ⟨b, c⟩]
            go_enter Try.func29, Try.ntmps29
            go_wp2
            go_ret
            exact ⟨ret_yes (p := (y : Int) ≤ 143) (by omega), rfl⟩
          · rw [decide_eq_false (fun h => c h.2)]
            go_enter Try.func29, Try.ntmps29
            go_wp2
            go_ret
            exact ⟨ret_no (p := (y : Int) ≤ 143) (by omega), rfl⟩
        · rw [decide_eq_false (fun h => b h.1)]
          go_enter Try.func29, Try.ntmps29
          go_wp2
          go_ret
          exact ⟨rfl, rfl⟩
    · rw [my_mk (x := x) (j := 1) (y := y) (L := 128) (M := 191) (by omega) (by omega)]
      have a1 : ¬ x = 224 := fun h => a (.inl h)
      have a2 : ¬ x = 237 := fun h => a (.inr (.inl h))
      have a3 : ¬ x = 240 := fun h => a (.inr (.inr (.inl h)))
      have a4 : ¬ x = 244 := fun h => a (.inr (.inr (.inr h)))
      clear hl hm a
      by_cases b : 128 ≤ y
      · by_cases c : y ≤ 191
        · rw [decide_eq_true ⟨b, c⟩]
          go_enter Try.func29, Try.ntmps29
          go_wp2
          go_ret
          exact ⟨ret_yes (p := (y : Int) ≤ 191) (by omega), rfl⟩
        · rw [decide_eq_false (fun h => c h.2)]
          go_enter Try.func29, Try.ntmps29
          go_wp2
          go_ret
          exact ⟨ret_no (p := (y : Int) ≤ 191) (by omega), rfl⟩
      · rw [decide_eq_false (fun h => b h.1)]
        go_enter Try.func29, Try.ntmps29
        go_wp2
        go_ret
        exact ⟨rfl, rfl⟩
  · rw [my_mk (x := x) (j := j) (y := y) (L := 128) (M := 191) (by unfold lt_; rw [if_neg h1]) (by unfold mt_; rw [if_neg h1])]
    by_cases b : 128 ≤ y
    · by_cases c : y ≤ 191
      · rw [decide_eq_true ⟨b, c⟩]
        go_enter Try.func29, Try.ntmps29
        go_wp2
        go_ret
        exact ⟨ret_yes (p := (y : Int) ≤ 191) (by omega), rfl⟩
      · rw [decide_eq_false (fun h => c h.2)]
        go_enter Try.func29, Try.ntmps29
        go_wp2
        go_ret
        exact ⟨ret_no (p := (y : Int) ≤ 191) (by omega), rfl⟩
    · rw [decide_eq_false (fun h => b h.1)]
      go_enter Try.func29, Try.ntmps29
      go_wp2
      go_ret
      exact ⟨rfl, rfl⟩
end Go.Proofs.Ytakbahhoiggmhaa.nn
