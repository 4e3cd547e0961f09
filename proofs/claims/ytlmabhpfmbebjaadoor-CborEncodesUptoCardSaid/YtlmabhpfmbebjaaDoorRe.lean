/- Joined texts, what is wanted of them: CborEncodesW. -/
import Derived.Test.YtlmabhpfmbebjaaDoorProg
import Derived.WalkKit
import Derived.Lib.Hide
import Derived.WalkSpells
import Derived.Deep.QuietTactic
import Derived.BigQuiet
import Derived.Deep.RegionHeld3
import Derived.Laws.BitsAllLaws
import Derived.Test.YtlmabhpfmbebjaaDoorShelf
import Derived.Deep.RegionWith
import Derived.IntWalk
import Derived.Test.YtlmabhpfmbebjaaDoorQb
import Derived.Test.YtlmabhpfmbebjaaDoorQs
import Derived.Test.YtlmabhpfmbebjaaDoorQx
import Derived.Test.YtlmabhpfmbebjaaDoorQe
import Derived.Test.YtlmabhpfmbebjaaDoorQq
import Derived.Test.YtlmabhpfmbebjaaDoorQa
import Derived.Test.YtlmabhpfmbebjaaDoorQl
import Derived.Test.YtlmabhpfmbebjaaDoorQk
import Derived.Test.YtlmabhpfmbebjaaDoorQn
import Derived.Test.YtlmabhpfmbebjaaDoorQr
import Derived.Test.YtlmabhpfmbebjaaDoorQc
import Derived.Test.YtlmabhpfmbebjaaDoorQt
import Derived.Test.YtlmabhpfmbebjaaDoorQh
import Derived.Test.YtlmabhpfmbebjaaDoorQp
import Derived.Test.YtlmabhpfmbebjaaDoorRb
import Derived.Test.YtlmabhpfmbebjaaDoorQf
import Derived.Test.YtlmabhpfmbebjaaDoorQo
import Derived.Test.YtlmabhpfmbebjaaDoorRd
import Derived.Test.YtlmabhpfmbebjaaDoorQw
import Derived.Test.YtlmabhpfmbebjaaDoorQm
import Derived.Test.YtlmabhpfmbebjaaDoorRa
import Derived.Test.YtlmabhpfmbebjaaDoorRc
import Derived.Test.YtlmabhpfmbebjaaDoorQv
namespace Go.Proofs.YtlmabhpfmbebjaaDoor.nn
open Go.RowKit

/-- what the document's Encode answers, with its bytes as a text -/
theorem rencode_txt (o : Bool) (x : Int) (y : Bool) (t : VT) (C : Value) (w : World) (hb : blk t ≤ 4000000) (hC : Lst w C t.l) (hwf : wfT t) :
    Calls Tryd.prog 7 #[vv t C, .agg #[.bool o, .int .i64 x, .bool y]] w fun e w' => ∃ A c, e = .returned (.tuple #[.slice A (ecL o t).length c, .int .i64 (enE t : Int)]) ∧ (∀ W, Below w'.heap.size w' W → (convert 28 9 (.slice A (ecL o t).length c)).run Tryd.prog W = .ok (.string ⟨(ecL o t).toArray⟩) W) ∧ Below w.heap.size w w' := by
  have h1 := cnt_blk t
  have h2 := smx_blk t
  have h3 := itB_le o t
  refine (rencode_any o x y t C w (by omega) (by unfold maxLen; omega) hC hwf (by omega)).mono fun e w' ⟨A, c, he, _, _, hr, hb⟩ => ⟨A, c, he, fun W hW => ?_, hb⟩
  have := conv_row A (ecL o t).length c (gL (ecL o t)) W (hr.below hW)
  rw [pc_list] at this
  exact this
set_option maxRecDepth 100000 in
set_option maxHeartbeats 8000000 in
theorem cencodes_any (t : VT) (C : Value) (o : Bool) (x : Int) (y : Bool) (w : World) (hC : Lst w C t.l) (hwt : wfT t) (hb : blk t ≤ 1048576) (hg : Laid w) :
    Calls Tryd.prog 3 #[vv t C, .agg #[.bool o, .int .i64 x, .bool y]] w fun e w' => e = .returned (.bool true) ∧ Below w.heap.size w w' := by
  have hx := Bo2.new w t C o x y
  obtain ⟨W2, hW2⟩ : ∃ W2, (w.alloc (.cells #[.int .i64 t.k, .bool t.g, .int .u64 (t.n : Int), .string t.s, C] 25)).alloc (.cells #[.bool o, .int .i64 x, .bool y] 27) = W2 := ⟨_, rfl⟩
  rw [hW2] at hx
  have H1 : Hid (∀ W, Bo2 w t C o x y W → Calls Tryd.prog 6 #[vv t C, .agg #[.bool o, .int .i64 x, .bool y]] W fun e w' => ∃ A c, e = .returned (.tuple #[.slice A (ecL o t).length c, .int .i64 (enE t : Int)]) ∧ (∀ X, Below w'.heap.size w' X → (convert 28 9 (.slice A (ecL o t).length c)).run Tryd.prog X = .ok (.string ⟨(ecL o t).toArray⟩) X) ∧ Below W.heap.size W w' ∧ Bo2 w t C o x y w') := Lib.hid fun W hW =>
    (encode_txt o x y t C W (by omega) (hC.keep hW.b.b (Nat.le_refl _)) hwt (hg.below hW.b.b)).mono fun e w' ⟨A, c, he, h2, h3⟩ => ⟨A, c, he, h2, h3, hW.on h3⟩
  have H2 : Hid (∀ W, Bo2 w t C o x y W → Calls Tryd.prog 7 #[vv t C, .agg #[.bool o, .int .i64 x, .bool y]] W fun e w' => ∃ A c, e = .returned (.tuple #[.slice A (ecL o t).length c, .int .i64 (enE t : Int)]) ∧ (∀ X, Below w'.heap.size w' X → (convert 28 9 (.slice A (ecL o t).length c)).run Tryd.prog X = .ok (.string ⟨(ecL o t).toArray⟩) X) ∧ Below W.heap.size W w' ∧ Bo2 w t C o x y w') := Lib.hid fun W hW =>
    (rencode_txt o x y t C W (by omega) (hC.keep hW.b.b (Nat.le_refl _)) hwt).mono fun e w' ⟨A, c, he, h2, h3⟩ => ⟨A, c, he, h2, h3, hW.on h3⟩
  have HA := Lib.hid (fun W (hW : Below w.heap.size w W) => awake11 W (hg.below hW))
  have HBC : Hid (∀ W, Bo2 w t C o x y W → (W.cell? ⟨w.heap.size, 0, none⟩ = some (.int .i64 t.k) ∧ W.cell? ⟨w.heap.size, 1, none⟩ = some (.bool t.g) ∧ W.cell? ⟨w.heap.size, 2, none⟩ = some (.int .u64 (t.n : Int)) ∧ W.cell? ⟨w.heap.size, 3, none⟩ = some (.string t.s) ∧ W.cell? ⟨w.heap.size, 4, none⟩ = some C) ∧ (W.cell? ⟨w.heap.size + 1, 0, none⟩ = some (.bool o) ∧ W.cell? ⟨w.heap.size + 1, 1, none⟩ = some (.int .i64 x) ∧ W.cell? ⟨w.heap.size + 1, 2, none⟩ = some (.bool y)) ∧ Below w.heap.size w W) := Lib.hid fun W hW => ⟨⟨hW.b.r.k, hW.b.r.g, hW.b.r.n, hW.b.r.s, hW.b.r.l⟩, hW.c, hW.b.b⟩
  obtain ⟨⟨c0, c1, c2, c3, c4⟩, ⟨p0, p1, p2⟩, _⟩ := HBC.out _ hx
  obtain ⟨X1, hX1⟩ : ∃ X : ByteArray, (⟨(ecL o t).toArray⟩ : ByteArray) = X := ⟨_, rfl⟩
  obtain ⟨n1, hn1⟩ : ∃ n, (ecL o t).length = n := ⟨_, rfl⟩
  obtain ⟨e1, he1⟩ : ∃ n, enE t = n := ⟨_, rfl⟩
  rw [hX1, hn1, he1] at H1 H2
  have HX := Lib.hid hx
  have HW2 := Lib.hid hW2
  unfold vv at H1 H2 ⊢
  clear hX1 hn1 he1 hC hwt hb hg hx hW2
  go_enter Tryd.func3, Tryd.ntmps3
  go_upto_region 1 with fail
  rw [HW2.out]
  go_wp2_with fail
  refine (H1.out _ HX.out).mono ?_
  rintro r w1 ⟨A1, k1, rfl, v1, b1, p1'⟩
  have HV1 := Lib.hid v1
  have HX1 := Lib.hid p1'
  clear c0 c1 c2 c3 c4 p0 p1 p2 v1 b1 p1'
  obtain ⟨⟨c0, c1, c2, c3, c4⟩, ⟨p0, p1, p2⟩, _⟩ := HBC.out _ HX1.out
  go_wp2_with fail
  refine (H2.out _ HX1.out).mono ?_
  rintro r w2 ⟨A2, k2, rfl, v2, b2, p2'⟩
  have HV1' := Lib.hid (fun W (hW : Below w2.heap.size w2 W) => HV1.out W (b2.trans (hW.mono b2.size)))
  have HV2' := Lib.hid v2
  have HB2 := Lib.hid p2'.b.b
  clear c0 c1 c2 c3 c4 p0 p1 p2 v2 b2 p2' HV1 HX HX1 H1 H2 HW2 HBC
  have g1 := HV1'.out w2 (Below.refl _ _)
  have g2 := HV2'.out w2 (Below.refl _ _)
  have HAA := Lib.hid (HA.out w2 HB2.out)
  clear HV1' HV2' HA
  go_wp2_with fail
  refine HAA.out.mono ?_
  rintro r w4 ⟨rfl, b4⟩
  have HB4 := Lib.hid (HB2.out.trans (b4.mono HB2.out.size))
  clear b4 g1 g2
  go_wp2_with fail
  go_ret
  exact ⟨rfl, HB4.out⟩
end Go.Proofs.YtlmabhpfmbebjaaDoor.nn
