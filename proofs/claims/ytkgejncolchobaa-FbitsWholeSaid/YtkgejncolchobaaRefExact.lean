/- The walk of the document's Exact. -/
import Derived.Test.YtkgejncolchobaaRefJoin
namespace Go.Proofs.Ytkgejncolchobaa.nn
open Go.RowKit

def hid52 : Nat := 4503599627370496
/-- what Exact answers -/
def xaO (x : Nat) : Bool := decide (ex 64 x ≠ 2047)
def xaS (x : Nat) : Bool := if ex 64 x = 2047 then false else sg 64 x
def xaM (x : Nat) : Nat := if ex 64 x = 2047 then 0 else if ex 64 x = 0 then fr 64 x else fr 64 x + hid52
def xaE (x : Nat) : Int := if ex 64 x = 2047 then 0 else if ex 64 x = 0 then -1074 else (ex 64 x : Int) - 1075
def XaAns (x : Nat) (W : World) (e : Ending) (W' : World) : Prop := e = .returned (.tuple #[.bool (xaS x), .int .u64 (xaM x : Int), .int .i64 (xaE x), .bool (xaO x)]) ∧ Below W.heap.size W W'
theorem fits64 (x : Nat) : fits 64 x := ⟨by unfold wOk; omega, fun h => absurd h (by decide)⟩
theorem or_hid {m : Nat} (h : m < 4503599627370496) : bits .or .u64 (m : Int) 4503599627370496 = (m : Int) + 4503599627370496 := by
  have := u64_or_nat m 4503599627370496 (by omega) (by decide)
  rw [Nat.or_comm, or_add 4503599627370496 m 52 (by decide) (by omega), Nat.add_comm] at this
  exact this
set_option maxRecDepth 100000 in
set_option maxHeartbeats 1000000 in
theorem rexact_any (x : Nat) (w : World) (hx : x < 18446744073709551616) :
    Calls Try.prog 20 #[.int .u64 (x : Int)] w (XaAns x w) := by
  have HP := Lib.hid (rparts_ok 64 x w hx (fits64 x))
  have h1 := ex_lt (w := 64) (x := x)
  have h2 := fr_lt (w := 64) (x := x)
  rw [show Int.toNat 64 = 64 from rfl] at HP
  rw [show 2 ^ xb 64 = 2048 from rfl] at h1
  rw [show 2 ^ fb 64 = 4503599627370496 from rfl] at h2
  unfold XaAns xaO xaS xaM xaE hid52
  obtain ⟨X, hX⟩ : ∃ X, ex 64 x = X := ⟨_, rfl⟩
  obtain ⟨M, hM⟩ : ∃ M, fr 64 x = M := ⟨_, rfl⟩
  obtain ⟨S, hS⟩ : ∃ S, sg 64 x = S := ⟨_, rfl⟩
  rw [hX, hM, hS] at HP ⊢
  rw [hX] at h1
  rw [hM] at h2
  clear hX hM hS
  by_cases c1 : X = 2047
  · subst c1
    rw [if_pos rfl, if_pos rfl, if_pos rfl]
    go_enter Try.func20, Try.ntmps20
    go_wp2_with fail
    refine HP.out.mono ?_
    rintro e w1 ⟨rfl, hb⟩
    go_wp2_with fail
    exact bodyPost_ret (v := .tuple #[.bool false, .int .u64 0, .int .i64 0, .bool false]) (by simp [results, Try.results20, go_sem]) rfl ⟨rfl, hb⟩
  · have q1 := ne_int (c := (X : Int)) (k := 2047) (by omega)
    rw [if_neg c1, if_neg c1, if_neg c1, decide_eq_true c1]
    by_cases c0 : X = 0
    · subst c0
      rw [if_pos rfl, if_pos rfl]
      clear c1 q1
      go_enter Try.func20, Try.ntmps20
      go_wp2_with fail
      refine HP.out.mono ?_
      rintro e w1 ⟨rfl, hb⟩
      go_wp2_with fail
      exact bodyPost_ret (v := .tuple #[.bool S, .int .u64 (M : Int), .int .i64 (-1074), .bool true]) (by simp [results, Try.results20, go_sem]) rfl ⟨rfl, hb⟩
    · have q0 := ne_int (c := (X : Int)) (k := 0) (by omega)
      rw [if_neg c0, if_neg c0]
      have t1 := or_hid h2
      clear c1 c0
      go_enter Try.func20, Try.ntmps20
      go_wp2_with fail
      refine HP.out.mono ?_
      rintro e w1 ⟨rfl, hb⟩
      go_wp2_with fail
      exact bodyPost_ret (v := .tuple #[.bool S, .int .u64 ((M : Int) + 4503599627370496), .int .i64 ((X : Int) - 1075), .bool true]) (by simp [results, Try.results20, go_sem]) rfl ⟨rfl, hb⟩
end Go.Proofs.Ytkgejncolchobaa.nn
