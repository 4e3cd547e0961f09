/- The walk of UtfWithin. -/
import Derived.Test.YtakbahhoiggmhaaWithin
import Derived.Test.YtakbahhoiggmhaaPoint
namespace Go.Proofs.Ytakbahhoiggmhaa.nn
open Go.RowKit

section
variable {f : Nat → Nat} {i d m n : Nat} {N N' : Int}
theorem due_to (h : al f t0 (i + d) = true) (hd : d ≤ (tk f t0 i).c) : (tk f t0 (i + d)).c + (i + d) = (tk f t0 i).c + i := by
  induction d with
  | zero => rfl
  | succ d ih =>
    have h1 := ih (al_mono h (by omega)) (by omega)
    have h2 := due_step (f := f) (i := i + d) h (by omega)
    rw [← Nat.add_assoc i d 1]
    omega
theorem aw_of (h : al f t0 n = true) (hc : ∀ i, i ≤ n → N < 0 ∨ ((tk f t0 i).c : Int) + i ≤ N) : aw f N n = true := by
  induction n with
  | zero => rfl
  | succ n ih => exact aw_mk (ih (al_mono h (by omega)) (fun i hi => hc i (by omega))) h (by have := hc (n + 1) (Nat.le_refl _); omega)
/-- right just if right within its own length -/
theorem own_len : ckE f m = 0 ↔ wE f m m = 0 := by
  unfold ckE wE
  by_cases ha : al f t0 m = true
  · rw [if_pos ha]
    by_cases hc : (tk f t0 m).c = 0
    · rw [if_pos hc]
      have hw : aw f m m = true := aw_of ha (fun i hi => by
        by_cases hle : (tk f t0 i).c + i ≤ m
        · exact .inr (by omega)
        · have hb := due_to (f := f) (i := i) (d := m - i) (by rw [Nat.add_sub_cancel' hi]; exact ha) (by omega)
          rw [Nat.add_sub_cancel' hi] at hb
          omega)
      rw [if_pos hw, if_neg (by omega)]
    · have hp : (tk f t0 m).c ≠ 0 ∨ (m : Int) < (m : Int) := .inl hc
      rw [if_neg hc, if_pos hp]
      split <;> simp
  · rw [if_neg ha, if_neg (fun h => ha (aw_al h))]
theorem aw_wide (h : aw f N n = true) (h0 : 0 ≤ N) (hN : N ≤ N') : aw f N' n = true := by
  refine aw_of (aw_al h) (fun i hi => ?_)
  by_cases hz : 0 < i
  · have := aw_room (aw_mono h hi) hz
    omega
  · obtain rfl : i = 0 := by omega
    exact .inr (by show ((0 : Nat) : Int) + ((0 : Nat) : Int) ≤ N'; omega)
theorem wE_4 : wE f N m ≠ 4 ↔ aw f N m = true := by
  unfold wE
  cases h : aw f N m with
  | true => rw [if_pos rfl]; split <;> simp
  | false => simp
end

set_option maxRecDepth 100000 in
set_option maxHeartbeats 1000000 in
theorem withins_walk (s : ByteArray) (n more : Nat) (w : World) (hs : s.size ≤ 140737488351232) (hn : n < 256) (hmore : more < 256) (a e b f c g d h : Nat)
    (h1 : Hid (∀ w, Calls Try.prog 10 #[.string s] w fun r w' => r = .returned (.tuple #[.int .i64 (a : Int), .int .i64 (e : Int)]) ∧ Below w.heap.size w w'))
    (h2 : Hid (∀ w, Calls Try.prog 12 #[.string s, .int .i64 (s.size : Int)] w fun r w' => r = .returned (.tuple #[.int .i64 (b : Int), .int .i64 (f : Int)]) ∧ Below w.heap.size w w'))
    (h3 : Hid (∀ w, Calls Try.prog 12 #[.string s, .int .i64 (n : Int)] w fun r w' => r = .returned (.tuple #[.int .i64 (c : Int), .int .i64 (g : Int)]) ∧ Below w.heap.size w w'))
    (h4 : Hid (∀ w, Calls Try.prog 12 #[.string s, .int .i64 ((n : Int) + 3 + (more : Int))] w fun r w' => r = .returned (.tuple #[.int .i64 (d : Int), .int .i64 (h : Int)]) ∧ Below w.heap.size w w'))
    (h5 : Hid (e = 0 ↔ f = 0)) (h6 : Hid (s.size ≤ n → g ≠ 4 → h ≠ 4)) :
    Calls Try.prog 8 #[.string s, .int .u8 (n : Int), .int .u8 (more : Int)] w fun r w' => r = .returned (.bool true) ∧ Below w.heap.size w w' := by
  have E1 : wrap64 (n : Int) = (n : Int) := by unfold wrap64; omega
  have E2 : wrap64 (more : Int) = (more : Int) := by unfold wrap64; omega
  have HE := Lib.hid (And.intro E1 E2)
  clear E1 E2
  go_enter Try.func8, Try.ntmps8
  go_wp2_with fail
  refine (h1.out _).mono ?_
  rintro r w1 ⟨rfl, b1⟩
  go_wp2_with fail
  refine (h2.out _).mono ?_
  rintro r w2 ⟨rfl, b2⟩
  have c2 := b1.trans (b2.mono b1.size)
  have q5 : ((e : Int) == 0) = ((f : Int) == 0) := by
    have := h5.out
    rw [Bool.eq_iff_iff]
    simp
    omega
  obtain ⟨x, hx⟩ : ∃ x, ((f : Int) == 0) = x := ⟨_, rfl⟩
  rw [hx] at q5
  obtain ⟨E1, E2⟩ := HE.out
  cases x
  all_goals
    go_wp2_with fail
    refine (h3.out _).mono ?_
    rintro r w3 ⟨rfl, b3⟩
    have c3 := c2.trans (b3.mono c2.size)
    go_wp2_with fail
    refine (h4.out _).mono ?_
    rintro r w4 ⟨rfl, b4⟩
    have c4 := c3.trans (b4.mono c3.size)
    by_cases hl : n < s.size
    · go_wp2_with fail
      refine (awake_any _).mono ?_
      rintro r w5 ⟨rfl, b5⟩
      go_wp2_with fail
      go_ret
      exact ⟨rfl, c4.trans (b5.mono c4.size)⟩
    · by_cases hg : g = 4
      · subst hg
        go_wp2_with fail
        refine (awake_any _).mono ?_
        rintro r w5 ⟨rfl, b5⟩
        go_wp2_with fail
        go_ret
        exact ⟨rfl, c4.trans (b5.mono c4.size)⟩
      · have hh := h6.out (by omega) hg
        have q6 : ((g : Int) == 4) = false := by simp; omega
        have q7 : ((h : Int) != 4) = true := by simp; omega
        go_wp2_with fail
        refine (awake_any _).mono ?_
        rintro r w5 ⟨rfl, b5⟩
        go_wp2_with fail
        go_ret
        exact ⟨rfl, c4.trans (b5.mono c4.size)⟩

theorem withins_any (s : ByteArray) (hs : s.size ≤ 140737488351232) (n : Nat) (hn : n < 256) (more : Nat) (hmore : more < 256) (w : World) :
    Calls Try.prog 8 #[.string s, .int .u8 (n : Int), .int .u8 (more : Int)] w fun r w' => r = .returned (.bool true) ∧ Below w.heap.size w w' := by
  have hm : s.size ≤ maxLen := by unfold maxLen; omega
  refine withins_walk s n more w hs hn hmore _ _ _ _ _ _ _ _ (Lib.hid fun w => check_any s w hm)
    (Lib.hid fun w => within_any s s.size w hm (by omega) (by unfold maxLen; omega) s.size s.size (by omega) (by omega))
    (Lib.hid fun w => within_any s n w hm (by omega) (by unfold maxLen; omega) n (min s.size n) (by omega) rfl)
    (Lib.hid fun w => within_any s _ w hm (by omega) (by unfold maxLen; omega) (n + 3 + more) (min s.size (n + 3 + more)) (by omega) rfl)
    (Lib.hid own_len) (Lib.hid fun hle hg => ?_)
  rw [Nat.min_eq_left hle] at hg
  rw [Nat.min_eq_left (show s.size ≤ n + 3 + more by omega)]
  exact wE_4.2 (aw_wide (wE_4.1 hg) (by omega) (by omega))
end Go.Proofs.Ytakbahhoiggmhaa.nn
