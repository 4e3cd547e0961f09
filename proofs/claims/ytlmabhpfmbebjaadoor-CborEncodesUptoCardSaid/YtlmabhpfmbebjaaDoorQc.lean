/- Joined texts, what is wanted of them: RefOne, RefOne2, RefCount, RefRight, RefChk. -/
import Derived.StillTailTactics
import Derived.Lib.Hide
import Derived.Deep.QuietTactic
import Derived.BigQuiet
import Derived.IntWalk
import Derived.Deep.RegionHeld3
import Derived.Test.YtlmabhpfmbebjaaDoorProg
import Derived.WalkKit
import Derived.WalkSpells
import Derived.Laws.BitsAllLaws
import Derived.Test.YtlmabhpfmbebjaaDoorShelf
import Derived.Deep.RegionWith
import Derived.Test.YtlmabhpfmbebjaaDoorQa
namespace Go.Proofs.YtlmabhpfmbebjaaDoor.nn
open Go.RowKit

/-- could bytes be a great number's -/
def big (s : ByteArray) : Bool := decide (8 < s.size ∧ s.size ≤ 512 ∧ bt s 0 ≠ 0)
/-- of a tag: is what is within it a great number in another guise -/
def guise (n : Nat) (l : List VT) : Bool := match l with | [c] => decide (n = 2 ∨ n = 3) && (decide (c.k = 9) && big c.s) | _ => false
def sE (t : VT) : Bool := t.s.toList.isEmpty
def nE (t : VT) : Bool := (t.n : Int) == 0
/-- is a value right, whatever stands within it -/
def oneB (t : VT) : Bool :=
  if t.k = 0 ∨ t.k = 2 ∨ t.k = 11 then sE t && nE t && !t.g
  else if t.k = 1 then sE t && !t.g && decide (t.n ≤ 1)
  else if t.k = 3 then sE t && !t.g && decide (t.n ≤ 19 ∨ 32 ≤ t.n ∧ t.n ≤ 255)
  else if t.k = 4 then sE t
  else if t.k = 5 then nE t && big t.s
  else if t.k = 6 then sE t && !t.g && decide (t.n < 65536)
  else if t.k = 7 then sE t && !t.g && decide (t.n < 4294967296)
  else if t.k = 8 then sE t && !t.g
  else if t.k = 9 then nE t && !t.g
  else if t.k = 10 then nE t && !t.g && decide (ckE (bt t.s) t.s.size = 0)
  else if t.k = 12 then sE t && nE t && !t.g && decide (t.l.length % 2 = 0)
  else if t.k = 13 then sE t && !t.g && decide (t.l.length = 1) && !guise t.n t.l
  else if t.k = 14 then !t.g && decide (t.n ≤ 255)
  else false
set_option maxRecDepth 100000 in
theorem rbig_any (s : ByteArray) (w : World) : Calls Tryd.prog 57 #[.string s] w fun e w' => e = .returned (.bool (big s)) ∧ w = w' := by
  unfold big
  by_cases h1 : 8 < s.size
  · by_cases h2 : s.size ≤ 512
    · have h0 : 0 < s.size := by omega
      have hb := bt_at h0
      by_cases h3 : bt s 0 = 0
      · rw [decide_eq_false (by omega)]
        have q : ((s[0].toNat : Int) != 0) = false := by rw [← hb, h3]; rfl
        clear hb h3
        go_enter Tryd.func57, Tryd.ntmps57
        go_wp2_with fail
        go_ret
        exact ⟨rfl, rfl⟩
      · rw [decide_eq_true ⟨h1, h2, h3⟩]
        have q : ((s[0].toNat : Int) != 0) = true := by rw [← hb]; simp; omega
        clear hb h3
        go_enter Tryd.func57, Tryd.ntmps57
        go_wp2_with fail
        go_ret
        exact ⟨rfl, rfl⟩
    · rw [decide_eq_false (by omega)]
      go_enter Tryd.func57, Tryd.ntmps57
      go_wp2_with fail
      go_ret
      exact ⟨rfl, rfl⟩
  · rw [decide_eq_false (by omega)]
    go_enter Tryd.func57, Tryd.ntmps57
    go_wp2_with fail
    go_ret
    exact ⟨rfl, rfl⟩
set_option maxRecDepth 100000 in
set_option maxHeartbeats 2000000 in
theorem one_0 (t : VT) (C : Value) (w : World) (hk : t.k = 0) : Calls Tryd.prog 45 #[vv t C] w fun e w' => e = .returned (.bool (sE t && nE t && !t.g)) ∧ Below w.heap.size w w' := by
  have HA := Lib.hid (fun o => (Below.refl w.heap.size w).alloc (Nat.le_refl _) o)
  obtain ⟨B1, h1⟩ : ∃ B1, t.s.toList.isEmpty = B1 := ⟨_, rfl⟩
  obtain ⟨B2, h2⟩ : ∃ B2, ((t.n : Int) == 0) = B2 := ⟨_, rfl⟩
  obtain ⟨B3, h3⟩ : ∃ B3, t.g = B3 := ⟨_, rfl⟩
  unfold vv sE nE
  rw [h1, h2, h3]
  rw [hk]
  clear hk h3
  go_enter Tryd.func45, Tryd.ntmps45
  go_wp2_with fail
  all_goals
    go_ret
    exact ⟨by simp_all <;> omega, HA.out _⟩
set_option maxRecDepth 100000 in
set_option maxHeartbeats 2000000 in
theorem one_2 (t : VT) (C : Value) (w : World) (hk : t.k = 2) : Calls Tryd.prog 45 #[vv t C] w fun e w' => e = .returned (.bool (sE t && nE t && !t.g)) ∧ Below w.heap.size w w' := by
  have HA := Lib.hid (fun o => (Below.refl w.heap.size w).alloc (Nat.le_refl _) o)
  obtain ⟨B1, h1⟩ : ∃ B1, t.s.toList.isEmpty = B1 := ⟨_, rfl⟩
  obtain ⟨B2, h2⟩ : ∃ B2, ((t.n : Int) == 0) = B2 := ⟨_, rfl⟩
  obtain ⟨B3, h3⟩ : ∃ B3, t.g = B3 := ⟨_, rfl⟩
  unfold vv sE nE
  rw [h1, h2, h3]
  rw [hk]
  clear hk h3
  go_enter Tryd.func45, Tryd.ntmps45
  go_wp2_with fail
  all_goals
    go_ret
    exact ⟨by simp_all <;> omega, HA.out _⟩
set_option maxRecDepth 100000 in
set_option maxHeartbeats 2000000 in
theorem one_11 (t : VT) (C : Value) (w : World) (hk : t.k = 11) : Calls Tryd.prog 45 #[vv t C] w fun e w' => e = .returned (.bool (sE t && nE t && !t.g)) ∧ Below w.heap.size w w' := by
  have HA := Lib.hid (fun o => (Below.refl w.heap.size w).alloc (Nat.le_refl _) o)
  obtain ⟨B1, h1⟩ : ∃ B1, t.s.toList.isEmpty = B1 := ⟨_, rfl⟩
  obtain ⟨B2, h2⟩ : ∃ B2, ((t.n : Int) == 0) = B2 := ⟨_, rfl⟩
  obtain ⟨B3, h3⟩ : ∃ B3, t.g = B3 := ⟨_, rfl⟩
  unfold vv sE nE
  rw [h1, h2, h3]
  rw [hk]
  clear hk h3
  go_enter Tryd.func45, Tryd.ntmps45
  go_wp2_with fail
  all_goals
    go_ret
    exact ⟨by simp_all <;> omega, HA.out _⟩
set_option maxRecDepth 100000 in
set_option maxHeartbeats 2000000 in
theorem one_4 (t : VT) (C : Value) (w : World) (hk : t.k = 4) : Calls Tryd.prog 45 #[vv t C] w fun e w' => e = .returned (.bool (sE t)) ∧ Below w.heap.size w w' := by
  have HA := Lib.hid (fun o => (Below.refl w.heap.size w).alloc (Nat.le_refl _) o)
  obtain ⟨B1, h1⟩ : ∃ B1, t.s.toList.isEmpty = B1 := ⟨_, rfl⟩
  obtain ⟨B2, h2⟩ : ∃ B2, ((t.n : Int) == 0) = B2 := ⟨_, rfl⟩
  obtain ⟨B3, h3⟩ : ∃ B3, t.g = B3 := ⟨_, rfl⟩
  unfold vv sE
  rw [h1, h3]
  rw [hk]
  clear hk h3
  go_enter Tryd.func45, Tryd.ntmps45
  go_wp2_with fail
  all_goals
    go_ret
    exact ⟨by simp_all <;> omega, HA.out _⟩
set_option maxRecDepth 100000 in
set_option maxHeartbeats 2000000 in
theorem one_8 (t : VT) (C : Value) (w : World) (hk : t.k = 8) : Calls Tryd.prog 45 #[vv t C] w fun e w' => e = .returned (.bool (sE t && !t.g)) ∧ Below w.heap.size w w' := by
  have HA := Lib.hid (fun o => (Below.refl w.heap.size w).alloc (Nat.le_refl _) o)
  obtain ⟨B1, h1⟩ : ∃ B1, t.s.toList.isEmpty = B1 := ⟨_, rfl⟩
  obtain ⟨B2, h2⟩ : ∃ B2, ((t.n : Int) == 0) = B2 := ⟨_, rfl⟩
  obtain ⟨B3, h3⟩ : ∃ B3, t.g = B3 := ⟨_, rfl⟩
  unfold vv sE
  rw [h1, h3]
  rw [hk]
  clear hk h3
  go_enter Tryd.func45, Tryd.ntmps45
  go_wp2_with fail
  all_goals
    go_ret
    exact ⟨by simp_all <;> omega, HA.out _⟩
set_option maxRecDepth 100000 in
set_option maxHeartbeats 2000000 in
theorem one_9 (t : VT) (C : Value) (w : World) (hk : t.k = 9) : Calls Tryd.prog 45 #[vv t C] w fun e w' => e = .returned (.bool (nE t && !t.g)) ∧ Below w.heap.size w w' := by
  have HA := Lib.hid (fun o => (Below.refl w.heap.size w).alloc (Nat.le_refl _) o)
  obtain ⟨B1, h1⟩ : ∃ B1, t.s.toList.isEmpty = B1 := ⟨_, rfl⟩
  obtain ⟨B2, h2⟩ : ∃ B2, ((t.n : Int) == 0) = B2 := ⟨_, rfl⟩
  obtain ⟨B3, h3⟩ : ∃ B3, t.g = B3 := ⟨_, rfl⟩
  unfold vv nE
  rw [h2, h3]
  rw [hk]
  clear hk h3
  go_enter Tryd.func45, Tryd.ntmps45
  go_wp2_with fail
  all_goals
    go_ret
    exact ⟨by simp_all <;> omega, HA.out _⟩
set_option maxRecDepth 100000 in
set_option maxHeartbeats 2000000 in
theorem one_1 (t : VT) (C : Value) (w : World) (hk : t.k = 1) : Calls Tryd.prog 45 #[vv t C] w fun e w' => e = .returned (.bool (sE t && !t.g && decide (t.n ≤ 1))) ∧ Below w.heap.size w w' := by
  have HA := Lib.hid (fun o => (Below.refl w.heap.size w).alloc (Nat.le_refl _) o)
  obtain ⟨B1, h1⟩ : ∃ B1, t.s.toList.isEmpty = B1 := ⟨_, rfl⟩
  obtain ⟨B2, h2⟩ : ∃ B2, ((t.n : Int) == 0) = B2 := ⟨_, rfl⟩
  obtain ⟨B3, h3⟩ : ∃ B3, t.g = B3 := ⟨_, rfl⟩
  unfold vv sE
  rw [h1, h3]
  rw [hk]
  clear hk h3
  by_cases h4 : t.n ≤ 1
  · rw [decide_eq_true h4]
    go_enter Tryd.func45, Tryd.ntmps45
    go_wp2_with fail
    all_goals
      go_ret
      exact ⟨by simp_all <;> omega, HA.out _⟩
  · rw [decide_eq_false h4]
    go_enter Tryd.func45, Tryd.ntmps45
    go_wp2_with fail
    all_goals
      go_ret
      exact ⟨by simp_all <;> omega, HA.out _⟩
set_option maxRecDepth 100000 in
set_option maxHeartbeats 2000000 in
theorem one_6 (t : VT) (C : Value) (w : World) (hk : t.k = 6) : Calls Tryd.prog 45 #[vv t C] w fun e w' => e = .returned (.bool (sE t && !t.g && decide (t.n < 65536))) ∧ Below w.heap.size w w' := by
  have HA := Lib.hid (fun o => (Below.refl w.heap.size w).alloc (Nat.le_refl _) o)
  obtain ⟨B1, h1⟩ : ∃ B1, t.s.toList.isEmpty = B1 := ⟨_, rfl⟩
  obtain ⟨B2, h2⟩ : ∃ B2, ((t.n : Int) == 0) = B2 := ⟨_, rfl⟩
  obtain ⟨B3, h3⟩ : ∃ B3, t.g = B3 := ⟨_, rfl⟩
  unfold vv sE
  rw [h1, h3]
  rw [hk]
  clear hk h3
  by_cases h4 : t.n < 65536
  · rw [decide_eq_true h4]
    go_enter Tryd.func45, Tryd.ntmps45
    go_wp2_with fail
    all_goals
      go_ret
      exact ⟨by simp_all <;> omega, HA.out _⟩
  · rw [decide_eq_false h4]
    go_enter Tryd.func45, Tryd.ntmps45
    go_wp2_with fail
    all_goals
      go_ret
      exact ⟨by simp_all <;> omega, HA.out _⟩
set_option maxRecDepth 100000 in
set_option maxHeartbeats 2000000 in
theorem one_7 (t : VT) (C : Value) (w : World) (hk : t.k = 7) : Calls Tryd.prog 45 #[vv t C] w fun e w' => e = .returned (.bool (sE t && !t.g && decide (t.n < 4294967296))) ∧ Below w.heap.size w w' := by
  have HA := Lib.hid (fun o => (Below.refl w.heap.size w).alloc (Nat.le_refl _) o)
  obtain ⟨B1, h1⟩ : ∃ B1, t.s.toList.isEmpty = B1 := ⟨_, rfl⟩
  obtain ⟨B2, h2⟩ : ∃ B2, ((t.n : Int) == 0) = B2 := ⟨_, rfl⟩
  obtain ⟨B3, h3⟩ : ∃ B3, t.g = B3 := ⟨_, rfl⟩
  unfold vv sE
  rw [h1, h3]
  rw [hk]
  clear hk h3
  by_cases h4 : t.n < 4294967296
  · rw [decide_eq_true h4]
    go_enter Tryd.func45, Tryd.ntmps45
    go_wp2_with fail
    all_goals
      go_ret
      exact ⟨by simp_all <;> omega, HA.out _⟩
  · rw [decide_eq_false h4]
    go_enter Tryd.func45, Tryd.ntmps45
    go_wp2_with fail
    all_goals
      go_ret
      exact ⟨by simp_all <;> omega, HA.out _⟩
set_option maxRecDepth 100000 in
set_option maxHeartbeats 2000000 in
theorem one_14 (t : VT) (C : Value) (w : World) (hk : t.k = 14) : Calls Tryd.prog 45 #[vv t C] w fun e w' => e = .returned (.bool (!t.g && decide (t.n ≤ 255))) ∧ Below w.heap.size w w' := by
  have HA := Lib.hid (fun o => (Below.refl w.heap.size w).alloc (Nat.le_refl _) o)
  obtain ⟨B1, h1⟩ : ∃ B1, t.s.toList.isEmpty = B1 := ⟨_, rfl⟩
  obtain ⟨B2, h2⟩ : ∃ B2, ((t.n : Int) == 0) = B2 := ⟨_, rfl⟩
  obtain ⟨B3, h3⟩ : ∃ B3, t.g = B3 := ⟨_, rfl⟩
  unfold vv
  rw [h3]
  rw [hk]
  clear hk h3
  by_cases h4 : t.n ≤ 255
  · rw [decide_eq_true h4]
    go_enter Tryd.func45, Tryd.ntmps45
    go_wp2_with fail
    all_goals
      go_ret
      exact ⟨by simp_all <;> omega, HA.out _⟩
  · rw [decide_eq_false h4]
    go_enter Tryd.func45, Tryd.ntmps45
    go_wp2_with fail
    all_goals
      go_ret
      exact ⟨by simp_all <;> omega, HA.out _⟩
set_option maxRecDepth 100000 in
set_option maxHeartbeats 2000000 in
theorem one_3 (t : VT) (C : Value) (w : World) (hk : t.k = 3) : Calls Tryd.prog 45 #[vv t C] w fun e w' => e = .returned (.bool (sE t && !t.g && decide (t.n ≤ 19 ∨ 32 ≤ t.n ∧ t.n ≤ 255))) ∧ Below w.heap.size w w' := by
  have HA := Lib.hid (fun o => (Below.refl w.heap.size w).alloc (Nat.le_refl _) o)
  obtain ⟨B1, h1⟩ : ∃ B1, t.s.toList.isEmpty = B1 := ⟨_, rfl⟩
  obtain ⟨B2, h2⟩ : ∃ B2, ((t.n : Int) == 0) = B2 := ⟨_, rfl⟩
  obtain ⟨B3, h3⟩ : ∃ B3, t.g = B3 := ⟨_, rfl⟩
  unfold vv sE
  rw [h1, h3]
  rw [hk]
  clear hk h3
  by_cases h4 : t.n ≤ 19
  · rw [decide_eq_true (.inl h4)]
    go_enter Tryd.func45, Tryd.ntmps45
    go_wp2_with fail
    all_goals
      go_ret
      exact ⟨by simp_all <;> omega, HA.out _⟩
  · by_cases h5 : 32 ≤ t.n
    · by_cases h6 : t.n ≤ 255
      · rw [decide_eq_true (.inr ⟨h5, h6⟩)]
        go_enter Tryd.func45, Tryd.ntmps45
        go_wp2_with fail
        all_goals
          go_ret
          exact ⟨by simp_all <;> omega, HA.out _⟩
      · rw [decide_eq_false (by omega)]
        go_enter Tryd.func45, Tryd.ntmps45
        go_wp2_with fail
        all_goals
          go_ret
          exact ⟨by simp_all <;> omega, HA.out _⟩
    · rw [decide_eq_false (by omega)]
      go_enter Tryd.func45, Tryd.ntmps45
      go_wp2_with fail
      all_goals
        go_ret
        exact ⟨by simp_all <;> omega, HA.out _⟩
end Go.Proofs.YtlmabhpfmbebjaaDoor.nn
namespace Go.Proofs.YtlmabhpfmbebjaaDoor.nn
open Go.RowKit

theorem ne_int8 {c k : Int} (h : c ≠ k) : (c == k) = false := by simp [h]
set_option maxRecDepth 100000 in
set_option maxHeartbeats 2000000 in
theorem one_5 (t : VT) (C : Value) (w : World) (hk : t.k = 5) : Calls Tryd.prog 45 #[vv t C] w fun e w' => e = .returned (.bool (nE t && big t.s)) ∧ Below w.heap.size w w' := by
  have HA := Lib.hid (fun o => (Below.refl w.heap.size w).alloc (Nat.le_refl _) o)
  obtain ⟨B1, h1⟩ : ∃ B1, t.s.toList.isEmpty = B1 := ⟨_, rfl⟩
  obtain ⟨B2, h2⟩ : ∃ B2, ((t.n : Int) == 0) = B2 := ⟨_, rfl⟩
  obtain ⟨B3, h3⟩ : ∃ B3, t.g = B3 := ⟨_, rfl⟩
  unfold vv nE
  rw [h2, h3]
  rw [hk]
  clear hk h3
  have hg := fun w => rbig_any t.s w
  obtain ⟨G, hG⟩ : ∃ G, big t.s = G := ⟨_, rfl⟩
  rw [hG] at hg ⊢
  have HG := Lib.hid hg
  clear hG hg
  cases B2
  · go_enter Tryd.func45, Tryd.ntmps45
    go_wp2_with fail
    all_goals
      go_ret
      exact ⟨by simp_all <;> omega, HA.out _⟩
  · go_enter Tryd.func45, Tryd.ntmps45
    go_wp2_with fail
    refine (HG.out _).mono ?_
    rintro e w2 ⟨rfl, rfl⟩
    go_wp2_with fail
    all_goals
      go_ret
      exact ⟨by simp_all <;> omega, HA.out _⟩
set_option maxRecDepth 100000 in
set_option maxHeartbeats 2000000 in
theorem one_10 (t : VT) (C : Value) (w : World) (hk : t.k = 10) (hs : t.s.size ≤ maxLen) : Calls Tryd.prog 45 #[vv t C] w fun e w' => e = .returned (.bool (nE t && !t.g && decide (ckE (bt t.s) t.s.size = 0))) ∧ Below w.heap.size w w' := by
  have HA := Lib.hid (fun o => (Below.refl w.heap.size w).alloc (Nat.le_refl _) o)
  obtain ⟨B1, h1⟩ : ∃ B1, t.s.toList.isEmpty = B1 := ⟨_, rfl⟩
  obtain ⟨B2, h2⟩ : ∃ B2, ((t.n : Int) == 0) = B2 := ⟨_, rfl⟩
  obtain ⟨B3, h3⟩ : ∃ B3, t.g = B3 := ⟨_, rfl⟩
  unfold vv nE
  rw [h2, h3]
  rw [hk]
  clear hk h3
  have hg := fun w => rcheck_any t.s w hs
  obtain ⟨x, hx⟩ : ∃ x, ckA (bt t.s) t.s.size = x := ⟨_, rfl⟩
  obtain ⟨y, hy⟩ : ∃ y, ckE (bt t.s) t.s.size = y := ⟨_, rfl⟩
  rw [hx, hy] at hg
  rw [hy]
  have HG := Lib.hid hg
  clear hx hy hg hs
  have HZ : Hid (∀ o W, Below (w.alloc o).heap.size (w.alloc o) W → Below w.heap.size w W) := Lib.hid fun o W hW => (HA.out o).trans (hW.mono (by simp))
  by_cases h4 : y = 0
  · subst h4
    rw [decide_eq_true rfl]
    go_enter Tryd.func45, Tryd.ntmps45
    go_wp2_with fail
    refine (HG.out _).mono ?_
    rintro e w2 ⟨rfl, hb2⟩
    have hk2 := Lib.hid (HZ.out _ _ hb2)
    clear hb2
    go_wp2_with fail
    all_goals
      go_ret
      exact ⟨by simp_all, hk2.out⟩
  · have q4 := ne_int8 (c := (y : Int)) (k := 0) (by omega)
    rw [decide_eq_false h4]
    go_enter Tryd.func45, Tryd.ntmps45
    go_wp2_with fail
    refine (HG.out _).mono ?_
    rintro e w2 ⟨rfl, hb2⟩
    have hk2 := Lib.hid (HZ.out _ _ hb2)
    clear hb2
    go_wp2_with fail
    all_goals
      go_ret
      exact ⟨by simp_all, hk2.out⟩
set_option maxRecDepth 100000 in
set_option maxHeartbeats 2000000 in
theorem one_12 (t : VT) (C : Value) (w : World) (hk : t.k = 12) (A : Option Addr) (m c : Nat) (hC : C = .slice A m c) (hm : m ≤ 4611686018427387904) : Calls Tryd.prog 45 #[vv t C] w fun e w' => e = .returned (.bool (sE t && nE t && !t.g && decide (m % 2 = 0))) ∧ Below w.heap.size w w' := by
  have HA := Lib.hid (fun o => (Below.refl w.heap.size w).alloc (Nat.le_refl _) o)
  obtain ⟨B1, h1⟩ : ∃ B1, t.s.toList.isEmpty = B1 := ⟨_, rfl⟩
  obtain ⟨B2, h2⟩ : ∃ B2, ((t.n : Int) == 0) = B2 := ⟨_, rfl⟩
  obtain ⟨B3, h3⟩ : ∃ B3, t.g = B3 := ⟨_, rfl⟩
  unfold vv sE nE
  rw [h1, h2, h3]
  rw [hk]
  clear hk h3
  subst hC
  by_cases h4 : m % 2 = 0
  · have q4 : (m : Int) % 2 = 0 := by omega
    rw [decide_eq_true h4]
    go_enter Tryd.func45, Tryd.ntmps45
    go_wp2_with fail
    all_goals
      go_ret
      exact ⟨by simp_all <;> omega, HA.out _⟩
  · have q4 : (m : Int) % 2 = 1 := by omega
    rw [decide_eq_false h4]
    go_enter Tryd.func45, Tryd.ntmps45
    go_wp2_with fail
    all_goals
      go_ret
      exact ⟨by simp_all <;> omega, HA.out _⟩
set_option maxRecDepth 100000 in
set_option maxHeartbeats 2000000 in
theorem one_13a (t : VT) (C : Value) (w : World) (hk : t.k = 13) (A : Option Addr) (m c : Nat) (hC : C = .slice A m c) (hm : m ≠ 1) : Calls Tryd.prog 45 #[vv t C] w fun e w' => e = .returned (.bool (sE t && !t.g && false)) ∧ Below w.heap.size w w' := by
  have HA := Lib.hid (fun o => (Below.refl w.heap.size w).alloc (Nat.le_refl _) o)
  obtain ⟨B1, h1⟩ : ∃ B1, t.s.toList.isEmpty = B1 := ⟨_, rfl⟩
  obtain ⟨B2, h2⟩ : ∃ B2, ((t.n : Int) == 0) = B2 := ⟨_, rfl⟩
  obtain ⟨B3, h3⟩ : ∃ B3, t.g = B3 := ⟨_, rfl⟩
  unfold vv sE
  rw [h1, h3]
  rw [hk]
  clear hk h3
  subst hC
  have q4 := ne_int8 (c := (m : Int)) (k := 1) (by omega)
  go_enter Tryd.func45, Tryd.ntmps45
  go_wp2_with fail
  all_goals
    go_ret
    exact ⟨by simp_all <;> omega, HA.out _⟩
set_option maxRecDepth 100000 in
set_option maxHeartbeats 2000000 in
theorem one_13b (t : VT) (C : Value) (w : World) (hk : t.k = 13) (b off c : Nat) (x : VT) (D : Value) (hC : C = .slice (some ⟨b, off, none⟩) 1 c) (hb : b < w.heap.size) (hr : Row w b off x D) : Calls Tryd.prog 45 #[vv t C] w fun e w' => e = .returned (.bool (sE t && !t.g && !(decide (t.n = 2 ∨ t.n = 3) && (decide (x.k = 9) && big x.s)))) ∧ Below w.heap.size w w' := by
  have HA := Lib.hid (fun o => (Below.refl w.heap.size w).alloc (Nat.le_refl _) o)
  obtain ⟨B1, h1⟩ : ∃ B1, t.s.toList.isEmpty = B1 := ⟨_, rfl⟩
  obtain ⟨B2, h2⟩ : ∃ B2, ((t.n : Int) == 0) = B2 := ⟨_, rfl⟩
  obtain ⟨B3, h3⟩ : ∃ B3, t.g = B3 := ⟨_, rfl⟩
  unfold vv sE
  rw [h1, h3]
  rw [hk]
  clear hk h3
  subst hC
  have hg := fun w => rbig_any x.s w
  have r0 : ∀ o, (w.alloc o).cell? ⟨b, off, none⟩ = some (.int .i64 x.k) := fun o => (HA.out o).cell (p := ⟨b, off, none⟩) hb |>.trans hr.k
  have r3 : ∀ o, (w.alloc o).cell? ⟨b, off + 3, none⟩ = some (.string x.s) := fun o => (HA.out o).cell (p := ⟨b, off + 3, none⟩) hb |>.trans hr.s
  obtain ⟨xk, hxk⟩ : ∃ k, x.k = k := ⟨_, rfl⟩
  obtain ⟨xs, hxs⟩ : ∃ k, x.s = k := ⟨_, rfl⟩
  rw [hxk] at r0
  rw [hxs] at r3 hg
  rw [hxk, hxs]
  obtain ⟨G, hG⟩ : ∃ G, big xs = G := ⟨_, rfl⟩
  rw [hG] at hg ⊢
  have HG := Lib.hid hg
  clear hG hg hr hxk hxs hb
  by_cases h4 : t.n = 2 ∨ t.n = 3
  · rw [decide_eq_true h4]
    by_cases h5 : xk = 9
    · subst h5
      cases B1
      · have h6 := h4
        clear h4
        go_enter Tryd.func45, Tryd.ntmps45
        go_wp2_with fail
        all_goals
          go_ret
          exact ⟨by simp_all <;> omega, HA.out _⟩
      · cases B3
        · rcases h4 with h4 | h4
          · have q1 : ((t.n : Int) == 2) = true := by rw [h4]; rfl
            clear h4
            go_enter Tryd.func45, Tryd.ntmps45
            go_wp2_with fail
            refine (HG.out _).mono ?_
            rintro e w2 ⟨rfl, rfl⟩
            go_wp2_with fail
            cases G
            all_goals
              go_ret
              exact ⟨by simp_all <;> omega, HA.out _⟩
          · have q1 : ((t.n : Int) == 2) = false := by rw [h4]; rfl
            have q2 : ((t.n : Int) == 3) = true := by rw [h4]; rfl
            clear h4
            go_enter Tryd.func45, Tryd.ntmps45
            go_wp2_with fail
            refine (HG.out _).mono ?_
            rintro e w2 ⟨rfl, rfl⟩
            go_wp2_with fail
            cases G
            all_goals
              go_ret
              exact ⟨by simp_all <;> omega, HA.out _⟩
        · have h6 := h4
          clear h4
          go_enter Tryd.func45, Tryd.ntmps45
          go_wp2_with fail
          all_goals
            go_ret
            exact ⟨by simp_all <;> omega, HA.out _⟩
    · have q5 := ne_int8 (c := xk) (k := 9) h5
      rw [decide_eq_false h5]
      rcases h4 with h4 | h4
      · have q1 : ((t.n : Int) == 2) = true := by rw [h4]; rfl
        clear h4 h5
        go_enter Tryd.func45, Tryd.ntmps45
        go_wp2_with fail
        all_goals
          go_ret
          exact ⟨by simp_all <;> omega, HA.out _⟩
      · have q1 : ((t.n : Int) == 2) = false := by rw [h4]; rfl
        have q2 : ((t.n : Int) == 3) = true := by rw [h4]; rfl
        clear h4 h5
        go_enter Tryd.func45, Tryd.ntmps45
        go_wp2_with fail
        all_goals
          go_ret
          exact ⟨by simp_all <;> omega, HA.out _⟩
  · rw [decide_eq_false h4]
    have q1 := ne_int8 (c := (t.n : Int)) (k := 2) (by omega)
    have q2 := ne_int8 (c := (t.n : Int)) (k := 3) (by omega)
    clear h4
    go_enter Tryd.func45, Tryd.ntmps45
    go_wp2_with fail
    all_goals
      go_ret
      exact ⟨by simp_all <;> omega, HA.out _⟩
set_option maxRecDepth 100000 in
set_option maxHeartbeats 2000000 in
theorem one_none (t : VT) (C : Value) (w : World) (hk : ∀ j : Nat, j ≤ 14 → t.k ≠ (j : Int)) : Calls Tryd.prog 45 #[vv t C] w fun e w' => e = .returned (.bool false) ∧ Below w.heap.size w w' := by
  have HA := Lib.hid (fun o => (Below.refl w.heap.size w).alloc (Nat.le_refl _) o)
  unfold vv
  obtain ⟨k, hkk⟩ : ∃ k, t.k = k := ⟨_, rfl⟩
  rw [hkk] at hk ⊢
  have q0 := ne_int8 (c := k) (k := 0) (hk 0 (by decide))
  have q1 := ne_int8 (c := k) (k := 1) (hk 1 (by decide))
  have q2 := ne_int8 (c := k) (k := 2) (hk 2 (by decide))
  have q3 := ne_int8 (c := k) (k := 3) (hk 3 (by decide))
  have q4 := ne_int8 (c := k) (k := 4) (hk 4 (by decide))
  have q5 := ne_int8 (c := k) (k := 5) (hk 5 (by decide))
  have q6 := ne_int8 (c := k) (k := 6) (hk 6 (by decide))
  have q7 := ne_int8 (c := k) (k := 7) (hk 7 (by decide))
  have q8 := ne_int8 (c := k) (k := 8) (hk 8 (by decide))
  have q9 := ne_int8 (c := k) (k := 9) (hk 9 (by decide))
  have q10 := ne_int8 (c := k) (k := 10) (hk 10 (by decide))
  have q11 := ne_int8 (c := k) (k := 11) (hk 11 (by decide))
  have q12 := ne_int8 (c := k) (k := 12) (hk 12 (by decide))
  have q13 := ne_int8 (c := k) (k := 13) (hk 13 (by decide))
  have q14 := ne_int8 (c := k) (k := 14) (hk 14 (by decide))
  clear hk hkk
  go_enter Tryd.func45, Tryd.ntmps45
  go_wp2_with fail
  all_goals
    go_ret
    exact ⟨by first | rfl | simp_all, HA.out _⟩
end Go.Proofs.YtlmabhpfmbebjaaDoor.nn
namespace Go.Proofs.YtlmabhpfmbebjaaDoor.nn
open Go.RowKit

set_option maxRecDepth 100000 in
set_option maxHeartbeats 1000000 in
theorem rcount_any (N : Nat) : ∀ (t : VT) (C : Value) (w : World), cnt t ≤ N → N ≤ 4611686018427387904 → Lst w C t.l →
    Calls Tryd.prog 27 #[vv t C] w fun e w' => e = .returned (.int .i64 (cnt t : Int)) ∧ Below w.heap.size w w' := by
  induction N with
  | zero => intro t C w h _ _; have := cnt_mk t; omega
  | succ N ih =>
    intro t C w hN hM hC
    have HC := Lib.hid hC
    obtain ⟨A, c, rfl, hlc, hA⟩ := hC.out
    have hcm := cnt_mk t
    obtain ⟨l, hl⟩ : ∃ l, t.l = l := ⟨_, rfl⟩
    rw [hl] at hlc hA hcm HC ⊢
    have hll := len_cntL l
    unfold vv
    go_enter Tryd.func27, Tryd.ntmps27
    have HB0 := Lib.hid (Box.new w t (.slice A l.length c) 25)
    go_wp2_with fail
    go_loopw [3, 4] (fun s3 s4 wr => ∃ i m : Nat, i ≤ l.length ∧ m ≤ N + 1 ∧ s3 = .int .i64 (m : Int) ∧ s4 = .int .i64 (i : Int) ∧ Hid (m = cntL (l.take i) + 1) ∧ Hid (Box w t (.slice A l.length c) wr)) (fun _ s4 _ => l.length - (intOf s4).toNat)
    case atStart => exact ⟨0, 1, Nat.zero_le _, by omega, rfl, rfl, Lib.hid rfl, HB0⟩
    case round =>
      obtain ⟨i, m, hi, hmN, rfl, rfl, hm, hk⟩ := hrel
      have h4 : wr.cell? ⟨w.heap.size, 4, none⟩ = some (.slice A l.length c) := hk.out.r.l
      by_cases hlt : i < l.length
      · rcases hA with ⟨_, h0, _⟩ | ⟨b, off, D, rfl, hb, hrow, hkid⟩
        · rw [h0] at hlt; exact absurd hlt (by simp)
        · obtain ⟨t', ht'⟩ : ∃ t', l[i] = t' := ⟨_, rfl⟩
          obtain ⟨C', hC'⟩ : ∃ C', D i = C' := ⟨_, rfl⟩
          have hr := hrow i hlt
          have hkl := hkid i hlt
          rw [ht', hC'] at hr hkl
          have hr2 := hr.below hk.out.b hb
          have r0 := hr2.k
          have r1 := hr2.g
          have r2 := hr2.n
          have r3 := hr2.s
          have r4 := hr2.l
          have hcn := cnt_at hlt
          rw [ht'] at hcn
          have hsum := cntL_take_succ hlt
          rw [ht'] at hsum
          have hle := cntL_take_le l (i + 1)
          have hm2 : Hid (m + cnt t' = cntL (l.take (i + 1)) + 1) := Lib.hid (by rw [hsum, hm.out]; omega)
          have hmb : m + cnt t' ≤ N + 1 := by rw [hm2.out]; omega
          have HI := Lib.hid (ih t' C' wr (by omega) (by omega) (hkl.keep hk.out.b (Nat.le_refl _)))
          have hcb : cnt t' ≤ N + 1 := by omega
          obtain ⟨k, hk'⟩ : ∃ k, cnt t' = k := ⟨_, rfl⟩
          rw [hk'] at HI hmb hm2 hcb
          unfold vv at HI
          clear hr hr2 hkl hrow hkid ht' hC' hcn hsum hle hk' ih
          go_wp2_with fail
          refine HI.out.mono ?_
          rintro e w2 ⟨rfl, hb2⟩
          have hk2 := Lib.hid (hk.out.on hb2)
          clear hb2 r0 r1 r2 r3 r4 h4
          go_wp2_with fail
          go_roundw
          case rel => exact ⟨i + 1, m + k, hlt, hmb, by go_num, by go_num, hm2, hk2⟩
          case measure => simp [intOf]; omega
      · obtain rfl : i = l.length := by omega
        have hmt : (m : Int) = (cnt t : Int) := by rw [hm.out, List.take_length, ← hcm]
        have HT := Lib.hid hmt
        clear hmt
        go_wp2_with fail
        go_ret
        exact ⟨by rw [HT.out]; rfl, hk.out.b⟩
end Go.Proofs.YtlmabhpfmbebjaaDoor.nn
namespace Go.Proofs.YtlmabhpfmbebjaaDoor.nn
open Go.RowKit

theorem lone (l : List VT) (h : l.length = 1) : l = [l[0]'(by omega)] := by
  match l, h with
  | [_], _ => rfl
theorem rone_any (t : VT) (C : Value) (w : World) (hC : Lst w C t.l) (hs : t.s.size ≤ maxLen) (hn : t.l.length ≤ 4611686018427387904) :
    Calls Tryd.prog 45 #[vv t C] w fun e w' => e = .returned (.bool (oneB t)) ∧ Below w.heap.size w w' := by
  by_cases k0 : t.k = 0
  · rw [show oneB t = _ from by unfold oneB; rw [if_pos (by omega)]]; exact one_0 t C w k0
  by_cases k2 : t.k = 2
  · rw [show oneB t = _ from by unfold oneB; rw [if_pos (by omega)]]; exact one_2 t C w k2
  by_cases k11 : t.k = 11
  · rw [show oneB t = _ from by unfold oneB; rw [if_pos (by omega)]]; exact one_11 t C w k11
  have e0 : ¬ (t.k = 0 ∨ t.k = 2 ∨ t.k = 11) := by omega
  unfold oneB
  rw [if_neg e0]
  by_cases k1 : t.k = 1
  · rw [if_pos k1]; exact one_1 t C w k1
  rw [if_neg k1]
  by_cases k3 : t.k = 3
  · rw [if_pos k3]; exact one_3 t C w k3
  rw [if_neg k3]
  by_cases k4 : t.k = 4
  · rw [if_pos k4]; exact one_4 t C w k4
  rw [if_neg k4]
  by_cases k5 : t.k = 5
  · rw [if_pos k5]; exact one_5 t C w k5
  rw [if_neg k5]
  by_cases k6 : t.k = 6
  · rw [if_pos k6]; exact one_6 t C w k6
  rw [if_neg k6]
  by_cases k7 : t.k = 7
  · rw [if_pos k7]; exact one_7 t C w k7
  rw [if_neg k7]
  by_cases k8 : t.k = 8
  · rw [if_pos k8]; exact one_8 t C w k8
  rw [if_neg k8]
  by_cases k9 : t.k = 9
  · rw [if_pos k9]; exact one_9 t C w k9
  rw [if_neg k9]
  by_cases k10 : t.k = 10
  · rw [if_pos k10]; exact one_10 t C w k10 hs
  rw [if_neg k10]
  obtain ⟨A, c, hv, hlc, hA⟩ := hC.out
  by_cases k12 : t.k = 12
  · rw [if_pos k12]; exact one_12 t C w k12 A _ c hv hn
  rw [if_neg k12]
  by_cases k13 : t.k = 13
  · rw [if_pos k13]
    by_cases h1 : t.l.length = 1
    · rcases hA with ⟨_, h0, _⟩ | ⟨b, off, D, rfl, hb, hrow, hkid⟩
      · rw [h0] at h1; cases h1
      · have hr := hrow 0 (by omega)
        have hl := lone t.l h1
        have hg : guise t.n t.l = (decide (t.n = 2 ∨ t.n = 3) && (decide ((t.l[0]'(by omega)).k = 9) && big (t.l[0]'(by omega)).s)) := by
          conv => lhs; rw [hl]
          rfl
        rw [decide_eq_true h1, hg, Bool.and_true]
        rw [h1] at hv
        exact one_13b t C w k13 b off c _ (D 0) hv hb (by simpa using hr)
    · rw [decide_eq_false h1]
      have := one_13a t C w k13 A _ c hv h1
      simpa using this
  rw [if_neg k13]
  by_cases k14 : t.k = 14
  · rw [if_pos k14]; exact one_14 t C w k14
  rw [if_neg k14]
  exact one_none t C w fun j hj h => by omega

mutual
/-- is all of a tree right -/
def rgt : VT → Bool | .mk k g n s l => oneB (.mk k g n s l) && (!(lf k) || decide (l.length = 0)) && rgtL l
def rgtL : List VT → Bool | [] => true | t :: r => rgt t && rgtL r
end
theorem rgt_mk (t : VT) : rgt t = (oneB t && (!(lf t.k) || decide (t.l.length = 0)) && rgtL t.l) := by cases t; rfl
theorem rgtL_app (a b : List VT) : rgtL (a ++ b) = (rgtL a && rgtL b) := by
  induction a with
  | nil => simp [rgtL]
  | cons t r ih => simp only [List.cons_append, rgtL, ih, Bool.and_assoc]
theorem rgtL_take_succ {l : List VT} {i : Nat} (h : i < l.length) : rgtL (l.take (i + 1)) = (rgtL (l.take i) && rgt l[i]) := by
  rw [List.take_succ_eq_append_getElem h, rgtL_app]
  simp [rgtL]
theorem rgtL_no {l : List VT} {i : Nat} (h : i < l.length) (hn : rgt l[i] = false) : rgtL l = false := by
  have h1 := rgtL_take_succ h
  have h2 := rgtL_app (l.take (i + 1)) (l.drop (i + 1))
  rw [List.take_append_drop, h1, hn] at h2
  rw [h2]
  simp
mutual
/-- the longest text -/
def smx : VT → Nat | .mk _ _ _ s l => max s.size (smxL l)
def smxL : List VT → Nat | [] => 0 | t :: r => max (smx t) (smxL r)
end
theorem smx_mk (t : VT) : smx t = max t.s.size (smxL t.l) := by cases t; rfl
mutual
theorem smx_blk : ∀ t : VT, smx t ≤ blk t
  | .mk _ _ _ s l => by have := smxL_blkL l; simp only [smx, blk]; omega
theorem smxL_blkL : ∀ l : List VT, smxL l ≤ blkL l
  | [] => by simp [smxL]
  | t :: r => by have h1 := smx_blk t; have h2 := smxL_blkL r; simp only [smxL, blkL]; omega
end
theorem smx_at {l : List VT} {i : Nat} (h : i < l.length) : smx l[i] ≤ smxL l := by
  induction l generalizing i with
  | nil => simp at h
  | cons t r ih =>
    cases i with
    | zero => simp only [smxL, List.getElem_cons_zero]; omega
    | succ i => have := ih (i := i) (by simpa using h); simp only [smxL, List.getElem_cons_succ]; omega

set_option maxRecDepth 100000 in
set_option maxHeartbeats 2000000 in
theorem rright_any (N : Nat) : ∀ (t : VT) (C : Value) (w : World), cnt t ≤ N → N ≤ 4611686018427387904 → smx t ≤ maxLen → Lst w C t.l →
    Calls Tryd.prog 28 #[vv t C] w fun e w' => e = .returned (.bool (rgt t)) ∧ Below w.heap.size w w' := by
  induction N with
  | zero => intro t C w h _ _ _; have := cnt_mk t; omega
  | succ N ih =>
    intro t C w hN hM hS hC
    have hdm := rgt_mk t
    have hcm := cnt_mk t
    have hll := len_cntL t.l
    have hsm := smx_mk t
    have HB0 := Lib.hid (Box.new w t C 25)
    have ho := rone_any t C (w.alloc (.cells #[.int .i64 t.k, .bool t.g, .int .u64 (t.n : Int), .string t.s, C] 25)) (hC.keep HB0.out.b (Nat.le_refl _)) (by omega) (by omega)
    have hkk := @rleaf_any t C
    obtain ⟨O, hO⟩ : ∃ O, oneB t = O := ⟨_, rfl⟩
    rw [hO] at ho hdm
    cases O with
    | false =>
      have HT : Hid (rgt t = false) := Lib.hid (by rw [hdm]; simp)
      have HO := Lib.hid ho
      unfold vv at HO ⊢
      clear hdm hkk ho hO ih
      go_enter Tryd.func28, Tryd.ntmps28
      go_wp2_with fail
      refine HO.out.mono ?_
      rintro e w2 ⟨rfl, hb2⟩
      have hk2 := Lib.hid (HB0.out.on hb2)
      clear hb2
      go_wp2_with fail
      go_ret
      exact ⟨by rw [HT.out]; rfl, hk2.out.b⟩
    | true =>
      obtain ⟨L, hL⟩ : ∃ L, lf t.k = L := ⟨_, rfl⟩
      rw [hL] at hkk hdm
      have HO := Lib.hid ho
      have HK := Lib.hid hkk
      have HC := Lib.hid hC
      obtain ⟨A, c, rfl, hlc, hA⟩ := hC.out
      obtain ⟨l, hl⟩ : ∃ l, t.l = l := ⟨_, rfl⟩
      rw [hl] at hlc hA hcm HC hdm HK hsm hll HO HB0 ⊢
      have HSm := Lib.hid hsm
      unfold vv at HO HK ⊢
      clear ho hkk hO hL hsm
      by_cases hlen : L = true ∧ l.length ≠ 0
      · obtain ⟨rfl, hl0⟩ := hlen
        have HT : Hid (rgt t = false) := Lib.hid (by rw [hdm]; simp [hl0])
        have q0 : ((l.length : Int) != 0) = true := by simp; intro h; exact hl0 (by simp [h])
        clear hdm ih hl0
        go_enter Tryd.func28, Tryd.ntmps28
        go_wp2_with fail
        refine HO.out.mono ?_
        rintro e w2 ⟨rfl, hb2⟩
        have hk2 := Lib.hid (HB0.out.on hb2)
        have r0 := hk2.out.r.k
        have r1 := hk2.out.r.g
        have r2 := hk2.out.r.n
        have r3 := hk2.out.r.s
        have r4 := hk2.out.r.l
        clear hb2
        go_wp2_with fail
        refine (HK.out _).mono ?_
        rintro e w3 ⟨rfl, hb3⟩
        have hk3 := Lib.hid (hk2.out.on hb3)
        have r4' := hk3.out.r.l
        clear hb3 r0 r1 r2 r3 r4
        go_wp2_with fail
        go_ret
        exact ⟨by rw [HT.out]; rfl, hk3.out.b⟩
      · have hT : rgt t = rgtL l := by
          rw [hdm]
          cases L
          · simp
          · have : l.length = 0 := by
              rcases Nat.eq_zero_or_pos l.length with h | h
              · exact h
              · exact absurd ⟨rfl, by omega⟩ hlen
            simp [this]
        have HT := Lib.hid hT
        have hq : L = false ∨ (L = true ∧ ((l.length : Int) != 0) = false) := by
          cases L
          · exact .inl rfl
          · refine .inr ⟨rfl, ?_⟩
            have : l.length = 0 := by
              rcases Nat.eq_zero_or_pos l.length with h | h
              · exact h
              · exact absurd ⟨rfl, by omega⟩ hlen
            rw [this]; rfl
        clear hdm hT hlen
        rcases hq with rfl | ⟨rfl, hq⟩
        all_goals
          go_enter Tryd.func28, Tryd.ntmps28
          go_wp2_with fail
          refine HO.out.mono ?_
          rintro e w2 ⟨rfl, hb2⟩
          have hk2 := Lib.hid (HB0.out.on hb2)
          have r0 := hk2.out.r.k
          have r1 := hk2.out.r.g
          have r2 := hk2.out.r.n
          have r3 := hk2.out.r.s
          have r4 := hk2.out.r.l
          clear hb2
          go_wp2_with fail
          refine (HK.out _).mono ?_
          rintro e w3 ⟨rfl, hb3⟩
          have hk3 := Lib.hid (hk2.out.on hb3)
          have r4' := hk3.out.r.l
          clear hb3 r0 r1 r2 r3 r4
          go_wp2_with fail
          clear r4'
          try clear hq
          go_loopw [3] (fun s3 wr => ∃ i : Nat, i ≤ l.length ∧ s3 = .int .i64 (i : Int) ∧ Hid (rgtL (l.take i) = true) ∧ Hid (Box w t (.slice A l.length c) wr)) (fun s3 _ => l.length - (intOf s3).toNat)
          case atStart => exact ⟨0, Nat.zero_le _, rfl, Lib.hid rfl, hk3⟩
          case round =>
            obtain ⟨i, hi, rfl, hm, hk⟩ := hrel
            have h4 : wr.cell? ⟨w.heap.size, 4, none⟩ = some (.slice A l.length c) := hk.out.r.l
            by_cases hlt : i < l.length
            · rcases hA with ⟨_, h0, _⟩ | ⟨b, off, D, rfl, hb, hrow, hkid⟩
              · rw [h0] at hlt; exact absurd hlt (by simp)
              · obtain ⟨t', ht'⟩ : ∃ t', l[i] = t' := ⟨_, rfl⟩
                obtain ⟨C', hC'⟩ : ∃ C', D i = C' := ⟨_, rfl⟩
                have hr := hrow i hlt
                have hkl := hkid i hlt
                rw [ht', hC'] at hr hkl
                have hr2 := hr.below hk.out.b hb
                have r0 := hr2.k
                have r1 := hr2.g
                have r2 := hr2.n
                have r3 := hr2.s
                have r4 := hr2.l
                have hcn := cnt_at hlt
                have hsx := smx_at hlt
                have hsum := rgtL_take_succ hlt
                have hno := fun h => rgtL_no hlt h
                rw [ht'] at hcn hsx hsum hno
                rw [hm.out, Bool.true_and] at hsum
                have HI := Lib.hid (ih t' C' wr (by omega) (by omega) (by have := HSm.out; omega) (hkl.keep hk.out.b (Nat.le_refl _)))
                obtain ⟨R, hR⟩ : ∃ R, rgt t' = R := ⟨_, rfl⟩
                rw [hR] at HI hsum hno
                unfold vv at HI
                clear hr hr2 hkl hrow hkid ht' hC' hcn hsx ih hR
                cases R
                · have HN : Hid (rgtL l = false) := Lib.hid (hno rfl)
                  clear hno hsum
                  go_wp2_with fail
                  refine HI.out.mono ?_
                  rintro e w5 ⟨rfl, hb2⟩
                  have hk2 := Lib.hid (hk.out.on hb2)
                  clear hb2 r0 r1 r2 r3 r4 h4
                  go_wp2_with fail
                  go_ret
                  exact ⟨by rw [HT.out, HN.out]; rfl, hk2.out.b⟩
                · have hm2 := Lib.hid hsum
                  clear hno hsum
                  go_wp2_with fail
                  refine HI.out.mono ?_
                  rintro e w5 ⟨rfl, hb2⟩
                  have hk2 := Lib.hid (hk.out.on hb2)
                  clear hb2 r0 r1 r2 r3 r4 h4
                  go_wp2_with fail
                  go_roundw
                  case rel => exact ⟨i + 1, hlt, by go_num, hm2, hk2⟩
                  case measure => simp [intOf]; omega
            · obtain rfl : i = l.length := by omega
              have HN : Hid (rgtL l = true) := Lib.hid (by have := hm.out; rwa [List.take_length] at this)
              go_wp2_with fail
              go_ret
              exact ⟨by rw [HT.out, HN.out]; rfl, hk.out.b⟩
end Go.Proofs.YtlmabhpfmbebjaaDoor.nn
namespace Go.Proofs.YtlmabhpfmbebjaaDoor.nn
open Go.RowKit

/-- what Check answers of a tree -/
def chk (t : VT) : Nat := if 64 < dep t ∨ 65536 < cnt t then 2 else if rgt t then 0 else 9
set_option maxRecDepth 100000 in
set_option maxHeartbeats 2000000 in
theorem rchk_any (t : VT) (C : Value) (w : World) (hN : cnt t ≤ 4611686018427387904) (hS : smx t ≤ maxLen) (hC : Lst w C t.l) :
    Calls Tryd.prog 13 #[vv t C] w fun e w' => e = .returned (.int .i64 (chk t : Int)) ∧ Below w.heap.size w w' := by
  have HB0 := Lib.hid (Box.new w t C 25)
  have HD : Hid (∀ W, Box w t C W → Calls Tryd.prog 26 #[vv t C] W fun e w' => e = .returned (.int .i64 (dep t : Int)) ∧ Box w t C w') := Lib.hid fun W hW =>
    (rdepth_any _ t C W hN (Nat.le_refl _) (hC.keep hW.b (Nat.le_refl _))).mono fun e w' ⟨he, hb⟩ => ⟨he, hW.on hb⟩
  have HK : Hid (∀ W, Box w t C W → Calls Tryd.prog 27 #[vv t C] W fun e w' => e = .returned (.int .i64 (cnt t : Int)) ∧ Box w t C w') := Lib.hid fun W hW =>
    (rcount_any _ t C W hN (Nat.le_refl _) (hC.keep hW.b (Nat.le_refl _))).mono fun e w' ⟨he, hb⟩ => ⟨he, hW.on hb⟩
  have HR : Hid (∀ W, Box w t C W → Calls Tryd.prog 28 #[vv t C] W fun e w' => e = .returned (.bool (rgt t)) ∧ Box w t C w') := Lib.hid fun W hW =>
    (rright_any _ t C W hN (Nat.le_refl _) hS (hC.keep hW.b (Nat.le_refl _))).mono fun e w' ⟨he, hb⟩ => ⟨he, hW.on hb⟩
  have hdb := dep_le t
  have hch : chk t = if 64 < dep t ∨ 65536 < cnt t then 2 else if rgt t then 0 else 9 := rfl
  obtain ⟨c, hc⟩ : ∃ c, chk t = c := ⟨_, rfl⟩
  obtain ⟨d, hd⟩ : ∃ c, dep t = c := ⟨_, rfl⟩
  obtain ⟨n, hn⟩ : ∃ c, cnt t = c := ⟨_, rfl⟩
  obtain ⟨r, hr⟩ : ∃ c, rgt t = c := ⟨_, rfl⟩
  rw [hc, hd, hn, hr] at hch
  rw [hd] at HD hdb
  rw [hn] at HK hN hdb
  rw [hr] at HR
  rw [hc]
  unfold vv at HD HK HR ⊢
  clear hc hd hn hr hC hS
  by_cases h1 : 64 < d
  · rw [if_pos (.inl h1)] at hch
    subst hch
    go_enter Tryd.func13, Tryd.ntmps13
    go_wp2_with fail
    refine (HD.out _ HB0.out).mono ?_
    rintro e w2 ⟨rfl, hb2⟩
    go_wp2_with fail
    go_ret
    exact ⟨rfl, hb2.b⟩
  · by_cases h2 : 65536 < n
    · rw [if_pos (.inr h2)] at hch
      subst hch
      go_enter Tryd.func13, Tryd.ntmps13
      go_wp2_with fail
      refine (HD.out _ HB0.out).mono ?_
      rintro e w2 ⟨rfl, hb2⟩
      have r0 := hb2.r.k
      have r1 := hb2.r.g
      have r2 := hb2.r.n
      have r3 := hb2.r.s
      have r4 := hb2.r.l
      go_wp2_with fail
      refine (HK.out _ hb2).mono ?_
      rintro e w3 ⟨rfl, hb3⟩
      clear r0 r1 r2 r3 r4
      go_wp2_with fail
      go_ret
      exact ⟨rfl, hb3.b⟩
    · rw [if_neg (by omega)] at hch
      cases r
      all_goals
        first | rw [if_pos rfl] at hch | rw [if_neg (by decide)] at hch
        subst hch
        go_enter Tryd.func13, Tryd.ntmps13
        go_wp2_with fail
        refine (HD.out _ HB0.out).mono ?_
        rintro e w2 ⟨rfl, hb2⟩
        have r0 := hb2.r.k
        have r1 := hb2.r.g
        have r2 := hb2.r.n
        have r3 := hb2.r.s
        have r4 := hb2.r.l
        go_wp2_with fail
        refine (HK.out _ hb2).mono ?_
        rintro e w3 ⟨rfl, hb3⟩
        clear r0 r1 r2 r3 r4
        have r0 := hb3.r.k
        have r1 := hb3.r.g
        have r2 := hb3.r.n
        have r3 := hb3.r.s
        have r4 := hb3.r.l
        go_wp2_with fail
        refine (HR.out _ hb3).mono ?_
        rintro e w4 ⟨rfl, hb4⟩
        clear r0 r1 r2 r3 r4
        go_wp2_with fail
        go_ret
        exact ⟨rfl, hb4.b⟩
end Go.Proofs.YtlmabhpfmbebjaaDoor.nn
