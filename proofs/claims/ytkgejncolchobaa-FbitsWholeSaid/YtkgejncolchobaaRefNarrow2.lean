/- The document's Narrow, of any width. -/
import Derived.Test.YtkgejncolchobaaRefNarrow
namespace Go.Proofs.Ytkgejncolchobaa.nn
open Go.RowKit

def nrO (k : Int) (x : Nat) : Bool := if wOk k then (if k = 64 then true else nwO (xb k.toNat) (fb k.toNat) (ex 64 x) (fr 64 x)) else false
def nrV (k : Int) (x : Nat) : Nat := if wOk k then (if k = 64 then x else nwA (xb k.toNat) (fb k.toNat) (sg 64 x) (ex 64 x) (fr 64 x)) else 0
def nrE (k : Int) : Nat := if wOk k then 0 else 1
def NrAns (k : Int) (x : Nat) (W : World) (e : Ending) (W' : World) : Prop := e = .returned (.tuple #[.int .u64 (nrV k x : Int), .bool (nrO k x), .int .i64 (nrE k : Int)]) ∧ Below W.heap.size W W'
set_option maxRecDepth 100000 in
theorem rnarrow_any (k : Int) (x : Nat) (w : World) (hx : x < 18446744073709551616) :
    Calls Try.prog 18 #[.int .i64 k, .int .u64 (x : Int)] w (NrAns k x w) := by
  unfold NrAns
  by_cases hk : wOk k
  · have e1 : nrE k = 0 := by unfold nrE; rw [if_pos hk]
    have e2 : nrO k x = (if k = 64 then true else nwO (xb k.toNat) (fb k.toNat) (ex 64 x) (fr 64 x)) := by unfold nrO; rw [if_pos hk]
    have e3 : nrV k x = (if k = 64 then x else nwA (xb k.toNat) (fb k.toNat) (sg 64 x) (ex 64 x) (fr 64 x)) := by unfold nrV; rw [if_pos hk]
    rw [e1, e2, e3]
    have HP := Lib.hid (fun w => rparts_ok 64 x w hx (fits64 x))
    have HW := Lib.hid (widths_ok hk)
    have h1 := ex_lt (w := 64) (x := x)
    have h2 := fr_lt (w := 64) (x := x)
    rw [show 2 ^ xb 64 = 2048 from rfl] at h1
    rw [show 2 ^ fb 64 = 4503599627370496 from rfl] at h2
    unfold wOk at hk
    rcases hk with rfl | rfl | rfl
    · rw [if_neg (by decide), if_neg (by decide)]
      exact narrow_16 x w _ _ _ (by omega) h2 hx HP HW
    · rw [if_neg (by decide), if_neg (by decide)]
      exact narrow_32 x w _ _ _ (by omega) h2 hx HP HW
    · rw [if_pos rfl, if_pos rfl]
      rw [show xb (Int.toNat 64) = 11 from rfl, show fb (Int.toNat 64) = 52 from rfl] at HW
      clear e1 e2 e3 HP
      go_enter Try.func18, Try.ntmps18
      go_wp2_with fail
      refine (HW.out _).mono ?_
      rintro e w1 ⟨rfl, rfl⟩
      go_wp2_with fail
      exact bodyPost_ret (v := .tuple #[.int .u64 (x : Int), .bool true, .int .i64 0]) (by simp [results, Try.results18, go_sem]) rfl ⟨rfl, Below.refl _ _⟩
  · have e1 : nrE k = 1 := by unfold nrE; rw [if_neg hk]
    have e2 : nrO k x = false := by unfold nrO; rw [if_neg hk]
    have e3 : nrV k x = 0 := by unfold nrV; rw [if_neg hk]
    rw [e1, e2, e3]
    have HW := Lib.hid (fun w => widths_no k w hk)
    clear e1 e2 e3 hk
    go_enter Try.func18, Try.ntmps18
    go_wp2_with fail
    refine (HW.out _).mono ?_
    rintro e w1 ⟨rfl, rfl⟩
    go_wp2_with fail
    exact bodyPost_ret (v := .tuple #[.int .u64 0, .bool false, .int .i64 1]) (by simp [results, Try.results18, go_sem]) rfl ⟨rfl, Below.refl _ _⟩
end Go.Proofs.Ytkgejncolchobaa.nn
