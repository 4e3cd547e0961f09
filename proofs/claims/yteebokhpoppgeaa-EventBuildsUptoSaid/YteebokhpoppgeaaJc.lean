/- Joined texts, what is wanted of them: RefOne, RefOne2, RefRight, RefChk. -/
import Derived.StillTailTactics
import Derived.Lib.Hide
import Derived.Deep.QuietTactic
import Derived.BigQuiet
import Derived.IntWalk
import Derived.Deep.RegionHeld3
import Derived.Test.YteebokhpoppgeaaProg
import Derived.WalkKit
import Derived.Test.YteebokhpoppgeaaJa
namespace Go.Proofs.Yteebokhpoppgeaa.nn
open Go.RowKit

/-- could bytes be a great number's -/
def big (s : ByteArray) : Bool := decide (8 < s.size ∧ s.size ≤ 512 ∧ bt s 0 ≠ 0)
/-- of a tag: is what is within it a great number in another guise -/
def guise (n : Nat) (l : List VT) : Bool := match l with | [c] => decide (n = 2 ∨ n = 3) && (decide (c.k = 9) && big c.s) | _ => false
def sE (t : VT) : Bool := t.s.toList.isEmpty
def nE (t : VT) : Bool := (t.n : Int) == 0
/-- is a value right, whatever stands within it -/
def oneB (t : VT) : Bool :=
  if t.k = 0 ∨ t.k = 2 ∨ t.k = 11 then sE t && nE t && !t.g
  else if t.k = 1 then sE t && !t.g && decide (t.n ≤ 1)
  else if t.k = 3 then sE t && !t.g && decide (t.n ≤ 19 ∨ 32 ≤ t.n ∧ t.n ≤ 255)
  else if t.k = 4 then sE t
  else if t.k = 5 then nE t && big t.s
  else if t.k = 6 then sE t && !t.g && decide (t.n < 65536)
  else if t.k = 7 then sE t && !t.g && decide (t.n < 4294967296)
  else if t.k = 8 then sE t && !t.g
  else if t.k = 9 then nE t && !t.g
  else if t.k = 10 then nE t && !t.g && decide (ckE (bt t.s) t.s.size = 0)
  else if t.k = 12 then sE t && nE t && !t.g && decide (t.l.length % 2 = 0)
  else if t.k = 13 then sE t && !t.g && decide (t.l.length = 1) && !guise t.n t.l
  else if t.k = 14 then !t.g && decide (t.n ≤ 255)
  else false
set_option maxRecDepth 100000 in
theorem rbig_any (s : ByteArray) (w : World) : Calls Try.prog 34 #[.string s] w fun e w' => e = .returned (.bool (big s)) ∧ w = w' := by
  unfold big
  by_cases h1 : 8 < s.size
  · by_cases h2 : s.size ≤ 512
    · have h0 : 0 < s.size := by omega
      have hb := bt_at h0
      by_cases h3 : bt s 0 = 0
      · rw [decide_eq_false (by omega)]
        have q : ((s[0].toNat : Int) != 0) = false := by rw [← hb, h3]; rfl
        clear hb h3
        go_enter Try.func34, Try.ntmps34
        go_wp2_with fail
        go_ret
        exact ⟨rfl, rfl⟩
      · rw [decide_eq_true ⟨h1, h2, h3⟩]
        have q : ((s[0].toNat : Int) != 0) = true := by rw [← hb]; simp; omega
        clear hb h3
        go_enter Try.func34, Try.ntmps34
        go_wp2_with fail
        go_ret
        exact ⟨rfl, rfl⟩
    · rw [decide_eq_false (by omega)]
      go_enter Try.func34, Try.ntmps34
      go_wp2_with fail
      go_ret
      exact ⟨rfl, rfl⟩
  · rw [decide_eq_false (by omega)]
    go_enter Try.func34, Try.ntmps34
    go_wp2_with fail
    go_ret
    exact ⟨rfl, rfl⟩
set_option maxRecDepth 100000 in
set_option maxHeartbeats 2000000 in
theorem one_0 (t : VT) (C : Value) (w : World) (hk : t.k = 0) : Calls Try.prog 33 #[vv t C] w fun e w' => e = .returned (.bool (sE t && nE t && !t.g)) ∧ Below w.heap.size w w' := by
  have HA := Lib.hid (fun o => (Below.refl w.heap.size w).alloc (Nat.le_refl _) o)
  obtain ⟨B1, h1⟩ : ∃ B1, t.s.toList.isEmpty = B1 := ⟨_, rfl⟩
  obtain ⟨B2, h2⟩ : ∃ B2, ((t.n : Int) == 0) = B2 := ⟨_, rfl⟩
  obtain ⟨B3, h3⟩ : ∃ B3, t.g = B3 := ⟨_, rfl⟩
  unfold vv sE nE
  rw [h1, h2, h3]
  rw [hk]
  clear hk h3
  go_enter Try.func33, Try.ntmps33
  go_wp2_with fail
  all_goals
    go_ret
    exact ⟨by simp_all <;> omega, HA.out _⟩
set_option maxRecDepth 100000 in
set_option maxHeartbeats 2000000 in
theorem one_2 (t : VT) (C : Value) (w : World) (hk : t.k = 2) : Calls Try.prog 33 #[vv t C] w fun e w' => e = .returned (.bool (sE t && nE t && !t.g)) ∧ Below w.heap.size w w' := by
  have HA := Lib.hid (fun o => (Below.refl w.heap.size w).alloc (Nat.le_refl _) o)
  obtain ⟨B1, h1⟩ : ∃ B1, t.s.toList.isEmpty = B1 := ⟨_, rfl⟩
  obtain ⟨B2, h2⟩ : ∃ B2, ((t.n : Int) == 0) = B2 := ⟨_, rfl⟩
  obtain ⟨B3, h3⟩ : ∃ B3, t.g = B3 := ⟨_, rfl⟩
  unfold vv sE nE
  rw [h1, h2, h3]
  rw [hk]
  clear hk h3
  go_enter Try.func33, Try.ntmps33
  go_wp2_with fail
  all_goals
    go_ret
    exact ⟨by simp_all <;> omega, HA.out _⟩
set_option maxRecDepth 100000 in
set_option maxHeartbeats 2000000 in
theorem one_11 (t : VT) (C : Value) (w : World) (hk : t.k = 11) : Calls Try.prog 33 #[vv t C] w fun e w' => e = .returned (.bool (sE t && nE t && !t.g)) ∧ Below w.heap.size w w' := by
  have HA := Lib.hid (fun o => (Below.refl w.heap.size w).alloc (Nat.le_refl _) o)
  obtain ⟨B1, h1⟩ : ∃ B1, t.s.toList.isEmpty = B1 := ⟨_, rfl⟩
  obtain ⟨B2, h2⟩ : ∃ B2, ((t.n : Int) == 0) = B2 := ⟨_, rfl⟩
  obtain ⟨B3, h3⟩ : ∃ B3, t.g = B3 := ⟨_, rfl⟩
  unfold vv sE nE
  rw [h1, h2, h3]
  rw [hk]
  clear hk h3
  go_enter Try.func33, Try.ntmps33
  go_wp2_with fail
  all_goals
    go_ret
    exact ⟨by simp_all <;> omega, HA.out _⟩
set_option maxRecDepth 100000 in
set_option maxHeartbeats 2000000 in
theorem one_4 (t : VT) (C : Value) (w : World) (hk : t.k = 4) : Calls Try.prog 33 #[vv t C] w fun e w' => e = .returned (.bool (sE t)) ∧ Below w.heap.size w w' := by
  have HA := Lib.hid (fun o => (Below.refl w.heap.size w).alloc (Nat.le_refl _) o)
  obtain ⟨B1, h1⟩ : ∃ B1, t.s.toList.isEmpty = B1 := ⟨_, rfl⟩
  obtain ⟨B2, h2⟩ : ∃ B2, ((t.n : Int) == 0) = B2 := ⟨_, rfl⟩
  obtain ⟨B3, h3⟩ : ∃ B3, t.g = B3 := ⟨_, rfl⟩
  unfold vv sE
  rw [h1, h3]
  rw [hk]
  clear hk h3
  go_enter Try.func33, Try.ntmps33
  go_wp2_with fail
  all_goals
    go_ret
    exact ⟨by simp_all <;> omega, HA.out _⟩
set_option maxRecDepth 100000 in
set_option maxHeartbeats 2000000 in
theorem one_8 (t : VT) (C : Value) (w : World) (hk : t.k = 8) : Calls Try.prog 33 #[vv t C] w fun e w' => e = .returned (.bool (sE t && !t.g)) ∧ Below w.heap.size w w' := by
  have HA := Lib.hid (fun o => (Below.refl w.heap.size w).alloc (Nat.le_refl _) o)
  obtain ⟨B1, h1⟩ : ∃ B1, t.s.toList.isEmpty = B1 := ⟨_, rfl⟩
  obtain ⟨B2, h2⟩ : ∃ B2, ((t.n : Int) == 0) = B2 := ⟨_, rfl⟩
  obtain ⟨B3, h3⟩ : ∃ B3, t.g = B3 := ⟨_, rfl⟩
  unfold vv sE
  rw [h1, h3]
  rw [hk]
  clear hk h3
  go_enter Try.func33, Try.ntmps33
  go_wp2_with fail
  all_goals
    go_ret
    exact ⟨by simp_all <;> omega, HA.out _⟩
set_option maxRecDepth 100000 in
set_option maxHeartbeats 2000000 in
theorem one_9 (t : VT) (C : Value) (w : World) (hk : t.k = 9) : Calls Try.prog 33 #[vv t C] w fun e w' => e = .returned (.bool (nE t && !t.g)) ∧ Below w.heap.size w w' := by
  have HA := Lib.hid (fun o => (Below.refl w.heap.size w).alloc (Nat.le_refl _) o)
  obtain ⟨B1, h1⟩ : ∃ B1, t.s.toList.isEmpty = B1 := ⟨_, rfl⟩
  obtain ⟨B2, h2⟩ : ∃ B2, ((t.n : Int) == 0) = B2 := ⟨_, rfl⟩
  obtain ⟨B3, h3⟩ : ∃ B3, t.g = B3 := ⟨_, rfl⟩
  unfold vv nE
  rw [h2, h3]
  rw [hk]
  clear hk h3
  go_enter Try.func33, Try.ntmps33
  go_wp2_with fail
  all_goals
    go_ret
    exact ⟨by simp_all <;> omega, HA.out _⟩
set_option maxRecDepth 100000 in
set_option maxHeartbeats 2000000 in
theorem one_1 (t : VT) (C : Value) (w : World) (hk : t.k = 1) : Calls Try.prog 33 #[vv t C] w fun e w' => e = .returned (.bool (sE t && !t.g && decide (t.n ≤ 1))) ∧ Below w.heap.size w w' := by
  have HA := Lib.hid (fun o => (Below.refl w.heap.size w).alloc (Nat.le_refl _) o)
  obtain ⟨B1, h1⟩ : ∃ B1, t.s.toList.isEmpty = B1 := ⟨_, rfl⟩
  obtain ⟨B2, h2⟩ : ∃ B2, ((t.n : Int) == 0) = B2 := ⟨_, rfl⟩
  obtain ⟨B3, h3⟩ : ∃ B3, t.g = B3 := ⟨_, rfl⟩
  unfold vv sE
  rw [h1, h3]
  rw [hk]
  clear hk h3
  by_cases h4 : t.n ≤ 1
  · rw [decide_eq_true h4]
    go_enter Try.func33, Try.ntmps33
    go_wp2_with fail
    all_goals
      go_ret
      exact ⟨by simp_all <;> omega, HA.out _⟩
  · rw [decide_eq_false h4]
    go_enter Try.func33, Try.ntmps33
    go_wp2_with fail
    all_goals
      go_ret
      exact ⟨by simp_all <;> omega, HA.out _⟩
set_option maxRecDepth 100000 in
set_option maxHeartbeats 2000000 in
theorem one_6 (t : VT) (C : Value) (w : World) (hk : t.k = 6) : Calls Try.prog 33 #[vv t C] w fun e w' => e = .returned (.bool (sE t && !t.g && decide (t.n < 65536))) ∧ Below w.heap.size w w' := by
  have HA := Lib.hid (fun o => (Below.refl w.heap.size w).alloc (Nat.le_refl _) o)
  obtain ⟨B1, h1⟩ : ∃ B1, t.s.toList.isEmpty = B1 := ⟨_, rfl⟩
  obtain ⟨B2, h2⟩ : ∃ B2, ((t.n : Int) == 0) = B2 := ⟨_, rfl⟩
  obtain ⟨B3, h3⟩ : ∃ B3, t.g = B3 := ⟨_, rfl⟩
  unfold vv sE
  rw [h1, h3]
  rw [hk]
  clear hk h3
  by_cases h4 : t.n < 65536
  · rw [decide_eq_true h4]
    go_enter Try.func33, Try.ntmps33
    go_wp2_with fail
    all_goals
      go_ret
      exact ⟨by simp_all <;> omega, HA.out _⟩
  · rw [decide_eq_false h4]
    go_enter Try.func33, Try.ntmps33
    go_wp2_with fail
    all_goals
      go_ret
      exact ⟨by simp_all <;> omega, HA.out _⟩
set_option maxRecDepth 100000 in
set_option maxHeartbeats 2000000 in
theorem one_7 (t : VT) (C : Value) (w : World) (hk : t.k = 7) : Calls Try.prog 33 #[vv t C] w fun e w' => e = .returned (.bool (sE t && !t.g && decide (t.n < 4294967296))) ∧ Below w.heap.size w w' := by
  have HA := Lib.hid (fun o => (Below.refl w.heap.size w).alloc (Nat.le_refl _) o)
  obtain ⟨B1, h1⟩ : ∃ B1, t.s.toList.isEmpty = B1 := ⟨_, rfl⟩
  obtain ⟨B2, h2⟩ : ∃ B2, ((t.n : Int) == 0) = B2 := ⟨_, rfl⟩
  obtain ⟨B3, h3⟩ : ∃ B3, t.g = B3 := ⟨_, rfl⟩
  unfold vv sE
  rw [h1, h3]
  rw [hk]
  clear hk h3
  by_cases h4 : t.n < 4294967296
  · rw [decide_eq_true h4]
    go_enter Try.func33, Try.ntmps33
    go_wp2_with fail
    all_goals
      go_ret
      exact ⟨by simp_all <;> omega, HA.out _⟩
  · rw [decide_eq_false h4]
    go_enter Try.func33, Try.ntmps33
    go_wp2_with fail
    all_goals
      go_ret
      exact ⟨by simp_all <;> omega, HA.out _⟩
set_option maxRecDepth 100000 in
set_option maxHeartbeats 2000000 in
theorem one_14 (t : VT) (C : Value) (w : World) (hk : t.k = 14) : Calls Try.prog 33 #[vv t C] w fun e w' => e = .returned (.bool (!t.g && decide (t.n ≤ 255))) ∧ Below w.heap.size w w' := by
  have HA := Lib.hid (fun o => (Below.refl w.heap.size w).alloc (Nat.le_refl _) o)
  obtain ⟨B1, h1⟩ : ∃ B1, t.s.toList.isEmpty = B1 := ⟨_, rfl⟩
  obtain ⟨B2, h2⟩ : ∃ B2, ((t.n : Int) == 0) = B2 := ⟨_, rfl⟩
  obtain ⟨B3, h3⟩ : ∃ B3, t.g = B3 := ⟨_, rfl⟩
  unfold vv
  rw [h3]
  rw [hk]
  clear hk h3
  by_cases h4 : t.n ≤ 255
  · rw [decide_eq_true h4]
    go_enter Try.func33, Try.ntmps33
    go_wp2_with fail
    all_goals
      go_ret
      exact ⟨by simp_all <;> omega, HA.out _⟩
  · rw [decide_eq_false h4]
    go_enter Try.func33, Try.ntmps33
    go_wp2_with fail
    all_goals
      go_ret
      exact ⟨by simp_all <;> omega, HA.out _⟩
set_option maxRecDepth 100000 in
set_option maxHeartbeats 2000000 in
theorem one_3 (t : VT) (C : Value) (w : World) (hk : t.k = 3) : Calls Try.prog 33 #[vv t C] w fun e w' => e = .returned (.bool (sE t && !t.g && decide (t.n ≤ 19 ∨ 32 ≤ t.n ∧ t.n ≤ 255))) ∧ Below w.heap.size w w' := by
  have HA := Lib.hid (fun o => (Below.refl w.heap.size w).alloc (Nat.le_refl _) o)
  obtain ⟨B1, h1⟩ : ∃ B1, t.s.toList.isEmpty = B1 := ⟨_, rfl⟩
  obtain ⟨B2, h2⟩ : ∃ B2, ((t.n : Int) == 0) = B2 := ⟨_, rfl⟩
  obtain ⟨B3, h3⟩ : ∃ B3, t.g = B3 := ⟨_, rfl⟩
  unfold vv sE
  rw [h1, h3]
  rw [hk]
  clear hk h3
  by_cases h4 : t.n ≤ 19
  · rw [decide_eq_true (.inl h4)]
    go_enter Try.func33, Try.ntmps33
    go_wp2_with fail
    all_goals
      go_ret
      exact ⟨by simp_all <;> omega, HA.out _⟩
  · by_cases h5 : 32 ≤ t.n
    · by_cases h6 : t.n ≤ 255
      · rw [decide_eq_true (.inr ⟨h5, h6⟩)]
        go_enter Try.func33, Try.ntmps33
        go_wp2_with fail
        all_goals
          go_ret
          exact ⟨by simp_all <;> omega, HA.out _⟩
      · rw [decide_eq_false (by omega)]
        go_enter Try.func33, Try.ntmps33
        go_wp2_with fail
        all_goals
          go_ret
          exact ⟨by simp_all <;> omega, HA.out _⟩
    · rw [decide_eq_false (by omega)]
      go_enter Try.func33, Try.ntmps33
      go_wp2_with fail
      all_goals
        go_ret
        exact ⟨by simp_all <;> omega, HA.out _⟩
end Go.Proofs.Yteebokhpoppgeaa.nn
namespace Go.Proofs.Yteebokhpoppgeaa.nn
open Go.RowKit

theorem ne_int8 {c k : Int} (h : c ≠ k) : (c == k) = false := by simp [h]
set_option maxRecDepth 100000 in
set_option maxHeartbeats 2000000 in
theorem one_5 (t : VT) (C : Value) (w : World) (hk : t.k = 5) : Calls Try.prog 33 #[vv t C] w fun e w' => e = .returned (.bool (nE t && big t.s)) ∧ Below w.heap.size w w' := by
  have HA := Lib.hid (fun o => (Below.refl w.heap.size w).alloc (Nat.le_refl _) o)
  obtain ⟨B1, h1⟩ : ∃ B1, t.s.toList.isEmpty = B1 := ⟨_, rfl⟩
  obtain ⟨B2, h2⟩ : ∃ B2, ((t.n : Int) == 0) = B2 := ⟨_, rfl⟩
  obtain ⟨B3, h3⟩ : ∃ B3, t.g = B3 := ⟨_, rfl⟩
  unfold vv nE
  rw [h2, h3]
  rw [hk]
  clear hk h3
  have hg := fun w => rbig_any t.s w
  obtain ⟨G, hG⟩ : ∃ G, big t.s = G := ⟨_, rfl⟩
  rw [hG] at hg ⊢
  have HG := Lib.hid hg
  clear hG hg
  cases B2
  · go_enter Try.func33, Try.ntmps33
    go_wp2_with fail
    all_goals
      go_ret
      exact ⟨by simp_all <;> omega, HA.out _⟩
  · go_enter Try.func33, Try.ntmps33
    go_wp2_with fail
    refine (HG.out _).mono ?_
    rintro e w2 ⟨rfl, rfl⟩
    go_wp2_with fail
    all_goals
      go_ret
      exact ⟨by simp_all <;> omega, HA.out _⟩
set_option maxRecDepth 100000 in
set_option maxHeartbeats 2000000 in
theorem one_10 (t : VT) (C : Value) (w : World) (hk : t.k = 10) (hs : t.s.size ≤ maxLen) : Calls Try.prog 33 #[vv t C] w fun e w' => e = .returned (.bool (nE t && !t.g && decide (ckE (bt t.s) t.s.size = 0))) ∧ Below w.heap.size w w' := by
  have HA := Lib.hid (fun o => (Below.refl w.heap.size w).alloc (Nat.le_refl _) o)
  obtain ⟨B1, h1⟩ : ∃ B1, t.s.toList.isEmpty = B1 := ⟨_, rfl⟩
  obtain ⟨B2, h2⟩ : ∃ B2, ((t.n : Int) == 0) = B2 := ⟨_, rfl⟩
  obtain ⟨B3, h3⟩ : ∃ B3, t.g = B3 := ⟨_, rfl⟩
  unfold vv nE
  rw [h2, h3]
  rw [hk]
  clear hk h3
  have hg := fun w => rcheck_any t.s w hs
  obtain ⟨x, hx⟩ : ∃ x, ckA (bt t.s) t.s.size = x := ⟨_, rfl⟩
  obtain ⟨y, hy⟩ : ∃ y, ckE (bt t.s) t.s.size = y := ⟨_, rfl⟩
  rw [hx, hy] at hg
  rw [hy]
  have HG := Lib.hid hg
  clear hx hy hg hs
  have HZ : Hid (∀ o W, Below (w.alloc o).heap.size (w.alloc o) W → Below w.heap.size w W) := Lib.hid fun o W hW => (HA.out o).trans (hW.mono (by simp))
  by_cases h4 : y = 0
  · subst h4
    rw [decide_eq_true rfl]
    go_enter Try.func33, Try.ntmps33
    go_wp2_with fail
    refine (HG.out _).mono ?_
    rintro e w2 ⟨rfl, hb2⟩
    have hk2 := Lib.hid (HZ.out _ _ hb2)
    clear hb2
    go_wp2_with fail
    all_goals
      go_ret
      exact ⟨by simp_all, hk2.out⟩
  · have q4 := ne_int8 (c := (y : Int)) (k := 0) (by omega)
    rw [decide_eq_false h4]
    go_enter Try.func33, Try.ntmps33
    go_wp2_with fail
    refine (HG.out _).mono ?_
    rintro e w2 ⟨rfl, hb2⟩
    have hk2 := Lib.hid (HZ.out _ _ hb2)
    clear hb2
    go_wp2_with fail
    all_goals
      go_ret
      exact ⟨by simp_all, hk2.out⟩
set_option maxRecDepth 100000 in
set_option maxHeartbeats 2000000 in
theorem one_12 (t : VT) (C : Value) (w : World) (hk : t.k = 12) (A : Option Addr) (m c : Nat) (hC : C = .slice A m c) (hm : m ≤ 4611686018427387904) : Calls Try.prog 33 #[vv t C] w fun e w' => e = .returned (.bool (sE t && nE t && !t.g && decide (m % 2 = 0))) ∧ Below w.heap.size w w' := by
  have HA := Lib.hid (fun o => (Below.refl w.heap.size w).alloc (Nat.le_refl _) o)
  obtain ⟨B1, h1⟩ : ∃ B1, t.s.toList.isEmpty = B1 := ⟨_, rfl⟩
  obtain ⟨B2, h2⟩ : ∃ B2, ((t.n : Int) == 0) = B2 := ⟨_, rfl⟩
  obtain ⟨B3, h3⟩ : ∃ B3, t.g = B3 := ⟨_, rfl⟩
  unfold vv sE nE
  rw [h1, h2, h3]
  rw [hk]
  clear hk h3
  subst hC
  by_cases h4 : m % 2 = 0
  · have q4 : (m : Int) % 2 = 0 := by omega
    rw [decide_eq_true h4]
    go_enter Try.func33, Try.ntmps33
    go_wp2_with fail
    all_goals
      go_ret
      exact ⟨by simp_all <;> omega, HA.out _⟩
  · have q4 : (m : Int) % 2 = 1 := by omega
    rw [decide_eq_false h4]
    go_enter Try.func33, Try.ntmps33
    go_wp2_with fail
    all_goals
      go_ret
      exact ⟨by simp_all <;> omega, HA.out _⟩
set_option maxRecDepth 100000 in
set_option maxHeartbeats 2000000 in
theorem one_13a (t : VT) (C : Value) (w : World) (hk : t.k = 13) (A : Option Addr) (m c : Nat) (hC : C = .slice A m c) (hm : m ≠ 1) : Calls Try.prog 33 #[vv t C] w fun e w' => e = .returned (.bool (sE t && !t.g && false)) ∧ Below w.heap.size w w' := by
  have HA := Lib.hid (fun o => (Below.refl w.heap.size w).alloc (Nat.le_refl _) o)
  obtain ⟨B1, h1⟩ : ∃ B1, t.s.toList.isEmpty = B1 := ⟨_, rfl⟩
  obtain ⟨B2, h2⟩ : ∃ B2, ((t.n : Int) == 0) = B2 := ⟨_, rfl⟩
  obtain ⟨B3, h3⟩ : ∃ B3, t.g = B3 := ⟨_, rfl⟩
  unfold vv sE
  rw [h1, h3]
  rw [hk]
  clear hk h3
  subst hC
  have q4 := ne_int8 (c := (m : Int)) (k := 1) (by omega)
  go_enter Try.func33, Try.ntmps33
  go_wp2_with fail
  all_goals
    go_ret
    exact ⟨by simp_all <;> omega, HA.out _⟩
set_option maxRecDepth 100000 in
set_option maxHeartbeats 2000000 in
theorem one_13b (t : VT) (C : Value) (w : World) (hk : t.k = 13) (b off c : Nat) (x : VT) (D : Value) (hC : C = .slice (some ⟨b, off, none⟩) 1 c) (hb : b < w.heap.size) (hr : Row w b off x D) : Calls Try.prog 33 #[vv t C] w fun e w' => e = .returned (.bool (sE t && !t.g && !(decide (t.n = 2 ∨ t.n = 3) && (decide (x.k = 9) && big x.s)))) ∧ Below w.heap.size w w' := by
  have HA := Lib.hid (fun o => (Below.refl w.heap.size w).alloc (Nat.le_refl _) o)
  obtain ⟨B1, h1⟩ : ∃ B1, t.s.toList.isEmpty = B1 := ⟨_, rfl⟩
  obtain ⟨B2, h2⟩ : ∃ B2, ((t.n : Int) == 0) = B2 := ⟨_, rfl⟩
  obtain ⟨B3, h3⟩ : ∃ B3, t.g = B3 := ⟨_, rfl⟩
  unfold vv sE
  rw [h1, h3]
  rw [hk]
  clear hk h3
  subst hC
  have hg := fun w => rbig_any x.s w
  have r0 : ∀ o, (w.alloc o).cell? ⟨b, off, none⟩ = some (.int .i64 x.k) := fun o => (HA.out o).cell (p := ⟨b, off, none⟩) hb |>.trans hr.k
  have r3 : ∀ o, (w.alloc o).cell? ⟨b, off + 3, none⟩ = some (.string x.s) := fun o => (HA.out o).cell (p := ⟨b, off + 3, none⟩) hb |>.trans hr.s
  obtain ⟨xk, hxk⟩ : ∃ k, x.k = k := ⟨_, rfl⟩
  obtain ⟨xs, hxs⟩ : ∃ k, x.s = k := ⟨_, rfl⟩
  rw [hxk] at r0
  rw [hxs] at r3 hg
  rw [hxk, hxs]
  obtain ⟨G, hG⟩ : ∃ G, big xs = G := ⟨_, rfl⟩
  rw [hG] at hg ⊢
  have HG := Lib.hid hg
  clear hG hg hr hxk hxs hb
  by_cases h4 : t.n = 2 ∨ t.n = 3
  · rw [decide_eq_true h4]
    by_cases h5 : xk = 9
    · subst h5
      cases B1
      · have h6 := h4
        clear h4
        go_enter Try.func33, Try.ntmps33
        go_wp2_with fail
        all_goals
          go_ret
          exact ⟨by simp_all <;> omega, HA.out _⟩
      · cases B3
        · rcases h4 with h4 | h4
          · have q1 : ((t.n : Int) == 2) = true := by rw [h4]; rfl
            clear h4
            go_enter Try.func33, Try.ntmps33
            go_wp2_with fail
            refine (HG.out _).mono ?_
            rintro e w2 ⟨rfl, rfl⟩
            go_wp2_with fail
            cases G
            all_goals
              go_ret
              exact ⟨by simp_all <;> omega, HA.out _⟩
          · have q1 : ((t.n : Int) == 2) = false := by rw [h4]; rfl
            have q2 : ((t.n : Int) == 3) = true := by rw [h4]; rfl
            clear h4
            go_enter Try.func33, Try.ntmps33
            go_wp2_with fail
            refine (HG.out _).mono ?_
            rintro e w2 ⟨rfl, rfl⟩
            go_wp2_with fail
            cases G
            all_goals
              go_ret
              exact ⟨by simp_all <;> omega, HA.out _⟩
        · have h6 := h4
          clear h4
          go_enter Try.func33, Try.ntmps33
          go_wp2_with fail
          all_goals
            go_ret
            exact ⟨by simp_all <;> omega, HA.out _⟩
    · have q5 := ne_int8 (c := xk) (k := 9) h5
      rw [decide_eq_false h5]
      rcases h4 with h4 | h4
      · have q1 : ((t.n : Int) == 2) = true := by rw [h4]; rfl
        clear h4 h5
        go_enter Try.func33, Try.ntmps33
        go_wp2_with fail
        all_goals
          go_ret
          exact ⟨by simp_all <;> omega, HA.out _⟩
      · have q1 : ((t.n : Int) == 2) = false := by rw [h4]; rfl
        have q2 : ((t.n : Int) == 3) = true := by rw [h4]; rfl
        clear h4 h5
        go_enter Try.func33, Try.ntmps33
        go_wp2_with fail
        all_goals
          go_ret
          exact ⟨by simp_all <;> omega, HA.out _⟩
  · rw [decide_eq_false h4]
    have q1 := ne_int8 (c := (t.n : Int)) (k := 2) (by omega)
    have q2 := ne_int8 (c := (t.n : Int)) (k := 3) (by omega)
    clear h4
    go_enter Try.func33, Try.ntmps33
    go_wp2_with fail
    all_goals
      go_ret
      exact ⟨by simp_all <;> omega, HA.out _⟩
set_option maxRecDepth 100000 in
set_option maxHeartbeats 2000000 in
theorem one_none (t : VT) (C : Value) (w : World) (hk : ∀ j : Nat, j ≤ 14 → t.k ≠ (j : Int)) : Calls Try.prog 33 #[vv t C] w fun e w' => e = .returned (.bool false) ∧ Below w.heap.size w w' := by
  have HA := Lib.hid (fun o => (Below.refl w.heap.size w).alloc (Nat.le_refl _) o)
  unfold vv
  obtain ⟨k, hkk⟩ : ∃ k, t.k = k := ⟨_, rfl⟩
  rw [hkk] at hk ⊢
  have q0 := ne_int8 (c := k) (k := 0) (hk 0 (by decide))
  have q1 := ne_int8 (c := k) (k := 1) (hk 1 (by decide))
  have q2 := ne_int8 (c := k) (k := 2) (hk 2 (by decide))
  have q3 := ne_int8 (c := k) (k := 3) (hk 3 (by decide))
  have q4 := ne_int8 (c := k) (k := 4) (hk 4 (by decide))
  have q5 := ne_int8 (c := k) (k := 5) (hk 5 (by decide))
  have q6 := ne_int8 (c := k) (k := 6) (hk 6 (by decide))
  have q7 := ne_int8 (c := k) (k := 7) (hk 7 (by decide))
  have q8 := ne_int8 (c := k) (k := 8) (hk 8 (by decide))
  have q9 := ne_int8 (c := k) (k := 9) (hk 9 (by decide))
  have q10 := ne_int8 (c := k) (k := 10) (hk 10 (by decide))
  have q11 := ne_int8 (c := k) (k := 11) (hk 11 (by decide))
  have q12 := ne_int8 (c := k) (k := 12) (hk 12 (by decide))
  have q13 := ne_int8 (c := k) (k := 13) (hk 13 (by decide))
  have q14 := ne_int8 (c := k) (k := 14) (hk 14 (by decide))
  clear hk hkk
  go_enter Try.func33, Try.ntmps33
  go_wp2_with fail
  all_goals
    go_ret
    exact ⟨by first | rfl | simp_all, HA.out _⟩
end Go.Proofs.Yteebokhpoppgeaa.nn
namespace Go.Proofs.Yteebokhpoppgeaa.nn
open Go.RowKit

theorem lone (l : List VT) (h : l.length = 1) : l = [l[0]'(by omega)] := by
  match l, h with
  | [_], _ => rfl
theorem rone_any (t : VT) (C : Value) (w : World) (hC : Lst w C t.l) (hs : t.s.size ≤ maxLen) (hn : t.l.length ≤ 4611686018427387904) :
    Calls Try.prog 33 #[vv t C] w fun e w' => e = .returned (.bool (oneB t)) ∧ Below w.heap.size w w' := by
  by_cases k0 : t.k = 0
  · rw [show oneB t = _ from by unfold oneB; rw [if_pos (by omega)]]; exact one_0 t C w k0
  by_cases k2 : t.k = 2
  · rw [show oneB t = _ from by unfold oneB; rw [if_pos (by omega)]]; exact one_2 t C w k2
  by_cases k11 : t.k = 11
  · rw [show oneB t = _ from by unfold oneB; rw [if_pos (by omega)]]; exact one_11 t C w k11
  have e0 : ¬ (t.k = 0 ∨ t.k = 2 ∨ t.k = 11) := by omega
  unfold oneB
  rw [if_neg e0]
  by_cases k1 : t.k = 1
  · rw [if_pos k1]; exact one_1 t C w k1
  rw [if_neg k1]
  by_cases k3 : t.k = 3
  · rw [if_pos k3]; exact one_3 t C w k3
  rw [if_neg k3]
  by_cases k4 : t.k = 4
  · rw [if_pos k4]; exact one_4 t C w k4
  rw [if_neg k4]
  by_cases k5 : t.k = 5
  · rw [if_pos k5]; exact one_5 t C w k5
  rw [if_neg k5]
  by_cases k6 : t.k = 6
  · rw [if_pos k6]; exact one_6 t C w k6
  rw [if_neg k6]
  by_cases k7 : t.k = 7
  · rw [if_pos k7]; exact one_7 t C w k7
  rw [if_neg k7]
  by_cases k8 : t.k = 8
  · rw [if_pos k8]; exact one_8 t C w k8
  rw [if_neg k8]
  by_cases k9 : t.k = 9
  · rw [if_pos k9]; exact one_9 t C w k9
  rw [if_neg k9]
  by_cases k10 : t.k = 10
  · rw [if_pos k10]; exact one_10 t C w k10 hs
  rw [if_neg k10]
  obtain ⟨A, c, hv, hlc, hA⟩ := hC.out
  by_cases k12 : t.k = 12
  · rw [if_pos k12]; exact one_12 t C w k12 A _ c hv hn
  rw [if_neg k12]
  by_cases k13 : t.k = 13
  · rw [if_pos k13]
    by_cases h1 : t.l.length = 1
    · rcases hA with ⟨_, h0, _⟩ | ⟨b, off, D, rfl, hb, hrow, hkid⟩
      · rw [h0] at h1; cases h1
      · have hr := hrow 0 (by omega)
        have hl := lone t.l h1
        have hg : guise t.n t.l = (decide (t.n = 2 ∨ t.n = 3) && (decide ((t.l[0]'(by omega)).k = 9) && big (t.l[0]'(by omega)).s)) := by
          conv => lhs; rw [hl]
          rfl
        rw [decide_eq_true h1, hg, Bool.and_true]
        rw [h1] at hv
        exact one_13b t C w k13 b off c _ (D 0) hv hb (by simpa using hr)
    · rw [decide_eq_false h1]
      have := one_13a t C w k13 A _ c hv h1
      simpa using this
  rw [if_neg k13]
  by_cases k14 : t.k = 14
  · rw [if_pos k14]; exact one_14 t C w k14
  rw [if_neg k14]
  exact one_none t C w fun j hj h => by omega

mutual
/-- is all of a tree right -/
def rgt : VT → Bool | .mk k g n s l => oneB (.mk k g n s l) && (!(lf k) || decide (l.length = 0)) && rgtL l
def rgtL : List VT → Bool | [] => true | t :: r => rgt t && rgtL r
end
theorem rgt_mk (t : VT) : rgt t = (oneB t && (!(lf t.k) || decide (t.l.length = 0)) && rgtL t.l) := by cases t; rfl
theorem rgtL_app (a b : List VT) : rgtL (a ++ b) = (rgtL a && rgtL b) := by
  induction a with
  | nil => simp [rgtL]
  | cons t r ih => simp only [List.cons_append, rgtL, ih, Bool.and_assoc]
mutual
/-- the longest text -/
def smx : VT → Nat | .mk _ _ _ s l => max s.size (smxL l)
def smxL : List VT → Nat | [] => 0 | t :: r => max (smx t) (smxL r)
end
theorem smx_mk (t : VT) : smx t = max t.s.size (smxL t.l) := by cases t; rfl
end Go.Proofs.Yteebokhpoppgeaa.nn
namespace Go.Proofs.Yteebokhpoppgeaa.nn
open Go.RowKit

/-- what Check answers of a tree -/
def chk (t : VT) : Nat := if 64 < dep t ∨ 65536 < cnt t then 2 else if rgt t then 0 else 9
end Go.Proofs.Yteebokhpoppgeaa.nn
