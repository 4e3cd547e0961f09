/- What the laws of layer 4 share: awake, and how many letters there are. -/
import Derived.Test.YthkpjcaphjboeaaBaseEncode2
namespace Go.Proofs.Ythkpjcaphjboeaa.nn
open Go.RowKit

theorem encB_len {L : ByteArray} {w m n l : Nat} {f : Nat → Nat} (hm : 0 < m) : (encB L w m f n l).length = up m l := by
  unfold encB
  rw [List.length_append, ltrs_len, List.length_replicate]
  have := up_ge (i := l) hm
  omega
theorem mlt_pos {k : Nat} : 0 < mlt k := by unfold mlt; split <;> (try split) <;> omega
theorem enK_len {kind : Int} {n : Nat} {f : Nat → Nat} (hk : 0 ≤ kind ∧ kind < 4) (hn : n ≤ 1048576) : lnK kind (n : Int) = ((enK kind f n).length : Int) := by
  unfold lnK enK
  rw [if_pos ⟨hk, by omega, by omega⟩, if_pos hk, encB_len mlt_pos, Int.toNat_natCast]
theorem enc_ff : enK 0 (fun _ => 255) 1 = [102, 102] := by decide
set_option maxRecDepth 100000 in
theorem awake4_any (w : World) : Calls Try.prog 10 #[] w fun e w' => e = .returned (.bool true) ∧ Below w.heap.size w w' := by
  have hC := bencode_any 0 (some ⟨w.heap.size, 0, none⟩) 1 1 (fun _ => 255) (w.alloc (.cells #[.int .u8 255] 5)) (rd_one w .u8 255 5) (fun _ _ => by decide) (by omega)
  unfold EncAns at hC
  rw [enc_ff, show erK 0 = 0 from rfl] at hC
  have HC := Lib.hid hC
  have HB := Lib.hid ((Below.refl w.heap.size w).alloc (Nat.le_refl _) (.cells #[.int .u8 255] 5))
  clear hC
  go_enter Try.func10, Try.ntmps10
  go_wp2_with fail
  refine HC.out.mono ?_
  rintro r w1 ⟨rfl, hb⟩
  have hb2 := Lib.hid (HB.out.trans (hb.mono (by simp)))
  clear hb
  go_wp2_with fail
  go_ret
  exact ⟨rfl, hb2.out⟩
end Go.Proofs.Ythkpjcaphjboeaa.nn
