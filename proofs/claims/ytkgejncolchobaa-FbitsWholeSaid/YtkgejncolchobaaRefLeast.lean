/- The walk of the document's Least. -/
import Derived.Test.YtkgejncolchobaaRefNarrow2
namespace Go.Proofs.Ytkgejncolchobaa.nn
open Go.RowKit

def leW (x : Nat) : Nat := if nrO 16 x then 16 else if nrO 32 x then 32 else 64
def leB (x : Nat) : Nat := if nrO 16 x then nrV 16 x else if nrO 32 x then nrV 32 x else x
def LeAns (x : Nat) (W : World) (e : Ending) (W' : World) : Prop := e = .returned (.tuple #[.int .i64 (leW x : Int), .int .u64 (leB x : Int)]) ∧ Below W.heap.size W W'
set_option maxRecDepth 100000 in
set_option maxHeartbeats 1000000 in
theorem rleast_any (x : Nat) (w : World) (hx : x < 18446744073709551616) : Calls Try.prog 26 #[.int .u64 (x : Int)] w (LeAns x w) := by
  unfold LeAns leW leB
  have h16 := fun w => rnarrow_any 16 x w hx
  have h32 := fun w => rnarrow_any 32 x w hx
  unfold NrAns at h16 h32
  obtain ⟨a, ha⟩ : ∃ a, nrV 16 x = a := ⟨_, rfl⟩
  obtain ⟨b, hb⟩ : ∃ b, nrV 32 x = b := ⟨_, rfl⟩
  obtain ⟨p, hp⟩ : ∃ p, nrO 16 x = p := ⟨_, rfl⟩
  obtain ⟨q, hq⟩ : ∃ q, nrO 32 x = q := ⟨_, rfl⟩
  rw [ha, hp, show nrE 16 = 0 from rfl] at h16
  rw [hb, hq, show nrE 32 = 0 from rfl] at h32
  rw [ha, hb, hp, hq]
  have H16 := Lib.hid h16
  have H32 := Lib.hid h32
  clear ha hb hp hq h16 h32
  go_enter Try.func26, Try.ntmps26
  go_wp2_with fail
  go_loopw [4] (fun s4 wr => ∃ k : Int, (k = 16 ∨ (k = 32 ∧ p = false) ∨ (k = 64 ∧ p = false ∧ q = false)) ∧ s4 = .int .i64 k ∧ Hid (Below w.heap.size w wr)) (fun s4 _ => 64 - (intOf s4).toNat)
  case atStart => exact ⟨16, .inl rfl, rfl, Lib.hid (Below.refl _ _)⟩
  case round =>
    obtain ⟨k, hk, rfl, hB⟩ := hrel
    rcases hk with rfl | ⟨rfl, rfl⟩ | ⟨rfl, rfl, rfl⟩
    · cases p
      · go_wp2_with fail
        refine (H16.out _).mono ?_
        rintro e w1 ⟨rfl, hb⟩
        have HB2 := Lib.hid (hB.out.trans (hb.mono hB.out.size))
        clear hb
        go_wp2_with fail
        go_roundw
        case rel => exact ⟨32, .inr (.inl (by simp)), rfl, HB2⟩
        case measure => simp [intOf]
      · go_wp2_with fail
        refine (H16.out _).mono ?_
        rintro e w1 ⟨rfl, hb⟩
        have HB2 := Lib.hid (hB.out.trans (hb.mono hB.out.size))
        clear hb
        go_wp2_with fail
        go_ret2
        exact ⟨rfl, HB2.out⟩
    · cases q
      · go_wp2_with fail
        refine (H32.out _).mono ?_
        rintro e w1 ⟨rfl, hb⟩
        have HB2 := Lib.hid (hB.out.trans (hb.mono hB.out.size))
        clear hb
        go_wp2_with fail
        go_roundw
        case rel => exact ⟨64, .inr (.inr (by simp)), rfl, HB2⟩
        case measure => simp [intOf]
      · go_wp2_with fail
        refine (H32.out _).mono ?_
        rintro e w1 ⟨rfl, hb⟩
        have HB2 := Lib.hid (hB.out.trans (hb.mono hB.out.size))
        clear hb
        go_wp2_with fail
        go_ret2
        exact ⟨rfl, HB2.out⟩
    · go_wp2_with fail
      go_ret2
      exact ⟨rfl, hB.out⟩
end Go.Proofs.Ytkgejncolchobaa.nn
