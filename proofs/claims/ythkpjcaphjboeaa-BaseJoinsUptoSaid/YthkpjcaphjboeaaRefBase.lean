/- The walks of the document's alphabet and bit. -/
import Derived.Test.YthkpjcaphjboeaaProg
import Derived.WalkKit
import Derived.Lib.Hide
import Derived.Test.YthkpjcaphjboeaaBase
import Derived.Test.YthkpjcaphjboeaaBits
namespace Go.Proofs.Ythkpjcaphjboeaa.nn
open Go.RowKit

/-- the letters -/
def alp (k : Nat) : ByteArray :=
  if k = 0 then ⟨#[48, 49, 50, 51, 52, 53, 54, 55, 56, 57, 97, 98, 99, 100, 101, 102]⟩
  else if k = 1 then ⟨#[65, 66, 67, 68, 69, 70, 71, 72, 73, 74, 75, 76, 77, 78, 79, 80, 81, 82, 83, 84, 85, 86, 87, 88, 89, 90, 97, 98, 99, 100, 101, 102, 103, 104, 105, 106, 107, 108, 109, 110, 111, 112, 113, 114, 115, 116, 117, 118, 119, 120, 121, 122, 48, 49, 50, 51, 52, 53, 54, 55, 56, 57, 43, 47]⟩
  else if k = 2 then ⟨#[65, 66, 67, 68, 69, 70, 71, 72, 73, 74, 75, 76, 77, 78, 79, 80, 81, 82, 83, 84, 85, 86, 87, 88, 89, 90, 97, 98, 99, 100, 101, 102, 103, 104, 105, 106, 107, 108, 109, 110, 111, 112, 113, 114, 115, 116, 117, 118, 119, 120, 121, 122, 48, 49, 50, 51, 52, 53, 54, 55, 56, 57, 45, 95]⟩
  else ⟨#[65, 66, 67, 68, 69, 70, 71, 72, 73, 74, 75, 76, 77, 78, 79, 80, 81, 82, 83, 84, 85, 86, 87, 88, 89, 90, 50, 51, 52, 53, 54, 55]⟩
theorem ne_i64 {c k : Int} (h : c ≠ k) : (c == k) = false := by simp [h]

set_option maxRecDepth 100000 in
theorem alphabet_any (k : Nat) (w : World) (hk : k < 4) :
    Calls Try.prog 21 #[.int .i64 (k : Int)] w fun e w' => e = .returned (.tuple #[.string (alp k), .int .i64 (wid k : Int), .int .i64 (mlt k : Int)]) ∧ w = w' := by
  rcases (show k = 0 ∨ k = 1 ∨ k = 2 ∨ k = 3 by omega) with rfl | rfl | rfl | rfl
  all_goals
    go_enter Try.func21, Try.ntmps21
    go_wp2
    refine bodyPost_ret (v := .tuple #[.string (alp _), .int .i64 (wid _ : Int), .int .i64 (mlt _ : Int)]) ?_ rfl ⟨rfl, rfl⟩
    simp [results, Try.results21, go_sem]
    exact ⟨rfl, rfl, rfl⟩
set_option maxRecDepth 100000 in
theorem alphabet_no (k : Int) (w : World) (hk : ¬ (0 ≤ k ∧ k < 4)) :
    Calls Try.prog 21 #[.int .i64 k] w fun e w' => e = .returned (.tuple #[.string ⟨#[]⟩, .int .i64 0, .int .i64 0]) ∧ w = w' := by
  have q0 := ne_i64 (c := k) (k := 0) (by omega)
  have q1 := ne_i64 (c := k) (k := 1) (by omega)
  have q2 := ne_i64 (c := k) (k := 2) (by omega)
  have q3 := ne_i64 (c := k) (k := 3) (by omega)
  clear hk
  go_enter Try.func21, Try.ntmps21
  go_wp2
  exact bodyPost_ret (v := .tuple #[.string ⟨#[]⟩, .int .i64 0, .int .i64 0]) (by simp [results, Try.results21, go_sem]) rfl ⟨rfl, rfl⟩

theorem i64_one (a : Nat) (ha : a < 9223372036854775808) : bits .and .i64 (a : Int) 1 = ((a % 2 : Nat) : Int) := (i64_and_nat a 1 ha (by decide)).trans (by rw [and_mask a 1])
theorem ret_i {a b : Int} (h : a = b) : Ending.returned (.int .i64 a) = .returned (.int .i64 b) := by rw [h]
set_option maxRecDepth 100000 in
set_option maxHeartbeats 1000000 in
theorem bit_any (A : Option Addr) (n c i : Nat) (f : Nat → Nat) (w : World) (hA : Rd w .u8 A n f) (hf : ∀ j, j < n → f j < 256) (hn : n ≤ 16777216) (hi : i ≤ 1000000000) :
    Calls Try.prog 22 #[.slice A n c, .int .i64 (i : Int)] w fun e w' => e = .returned (.int .i64 (bt8 f n i : Int)) ∧ w = w' := by
  by_cases h0 : 8 * n ≤ i
  · have e : bt8 f n i = 0 := by unfold bt8; rw [if_pos h0]
    rw [e]
    clear e hA hf
    go_enter Try.func22, Try.ntmps22
    go_wp2
    go_ret
    exact ⟨rfl, rfl⟩
  · obtain ⟨q, hq⟩ : ∃ q, i / 8 = q := ⟨_, rfl⟩
    obtain ⟨s, hs⟩ : ∃ s, 7 - i % 8 = s := ⟨_, rfl⟩
    have hqn : q < n := by omega
    have e : bt8 f n i = f q / 2 ^ s % 2 := by unfold bt8; rw [if_neg h0, hq, hs]
    rw [e]
    obtain ⟨b, off, rfl, hb, hcell⟩ := hA (by omega)
    have hx := hcell q hqn
    have hf8 := hf q hqn
    have t1 : (i : Int) / 8 = (q : Int) := by omega
    have t2 : 7 - (i : Int) % 8 = (s : Int) := by omega
    have hs8 : s < 8 := by omega
    have hdiv : f q / 2 ^ s ≤ f q := Nat.div_le_self _ _
    obtain ⟨v, hv⟩ : ∃ v, f q = v := ⟨_, rfl⟩
    rw [hv] at hx hf8 hdiv ⊢
    obtain ⟨u, hu⟩ : ∃ u, v / 2 ^ s = u := ⟨_, rfl⟩
    rw [hu] at hdiv ⊢
    have t3 : (v : Int) / 2 ^ s = (u : Int) := by rw [← hu]; simp
    have t4 := i64_one u (by omega)
    have HI := Lib.hid h0
    have h0' : i < 8 * n := by omega
    clear e hA hf hcell hq hs hv hu h0
    go_enter Try.func22, Try.ntmps22
    go_wp2
    go_ret
    exact ⟨rfl, rfl⟩
end Go.Proofs.Ythkpjcaphjboeaa.nn
