/- What the laws of layer 5 share: awake. The walks of FbitsParts and FbitsTurns. -/
import Derived.Test.YtkgejncolchobaaFbitsReal3
namespace Go.Proofs.Ytkgejncolchobaa.nn
open Go.RowKit

theorem wi_1 : wiV 16 15360 = 4607182418800017408 ∧ paE 16 15360 = 0 := by decide
set_option maxRecDepth 100000 in
theorem awake5_any (w : World) : Calls Try.prog 14 #[] w fun e w' => e = .returned (.bool true) ∧ Below w.heap.size w w' := by
  have hC := fwiden_any 16 15360 w (by decide)
  unfold WiAns at hC
  rw [wi_1.1, wi_1.2] at hC
  have HC := Lib.hid hC
  clear hC
  go_enter Try.func14, Try.ntmps14
  go_wp2_with fail
  refine HC.out.mono ?_
  rintro r w1 ⟨rfl, hb⟩
  go_wp2_with fail
  go_ret
  exact ⟨rfl, hb⟩
end Go.Proofs.Ytkgejncolchobaa.nn
