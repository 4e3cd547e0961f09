/- Joined texts, what is wanted of them: CborListsW. -/
import Derived.Test.YtlmabhpfmbebjaaDoorProg
import Derived.WalkKit
import Derived.Lib.Hide
import Derived.WalkSpells
import Derived.Deep.QuietTactic
import Derived.BigQuiet
import Derived.Deep.RegionHeld3
import Derived.Laws.BitsAllLaws
import Derived.Test.YtlmabhpfmbebjaaDoorShelf
import Derived.Deep.RegionWith
import Derived.IntWalk
import Derived.Test.YtlmabhpfmbebjaaDoorQb
import Derived.Test.YtlmabhpfmbebjaaDoorQs
import Derived.Test.YtlmabhpfmbebjaaDoorQe
import Derived.Test.YtlmabhpfmbebjaaDoorQq
import Derived.Test.YtlmabhpfmbebjaaDoorQa
import Derived.Test.YtlmabhpfmbebjaaDoorQl
import Derived.Test.YtlmabhpfmbebjaaDoorQk
import Derived.Test.YtlmabhpfmbebjaaDoorQn
import Derived.Test.YtlmabhpfmbebjaaDoorQr
import Derived.Test.YtlmabhpfmbebjaaDoorQc
import Derived.Test.YtlmabhpfmbebjaaDoorQt
import Derived.Test.YtlmabhpfmbebjaaDoorQh
import Derived.Test.YtlmabhpfmbebjaaDoorQp
import Derived.Test.YtlmabhpfmbebjaaDoorQf
import Derived.Test.YtlmabhpfmbebjaaDoorQo
import Derived.Test.YtlmabhpfmbebjaaDoorQm
namespace Go.Proofs.YtlmabhpfmbebjaaDoor.nn
open Go.RowKit

/-- what Encode answers, with its bytes as a text -/
theorem encode_txt (o : Bool) (x : Int) (y : Bool) (t : VT) (C : Value) (w : World) (hb : blk t ≤ 4000000) (hC : Lst w C t.l) (hwf : wfT t) (hg : Laid w) :
    Calls Tryd.prog 6 #[vv t C, .agg #[.bool o, .int .i64 x, .bool y]] w fun e w' => ∃ A c, e = .returned (.tuple #[.slice A (ecL o t).length c, .int .i64 (enE t : Int)]) ∧ (∀ W, Below w'.heap.size w' W → (convert 28 9 (.slice A (ecL o t).length c)).run Tryd.prog W = .ok (.string ⟨(ecL o t).toArray⟩) W) ∧ Below w.heap.size w w' := by
  have h1 := cnt_blk t
  have h2 := smx_blk t
  have h3 := itB_le o t
  refine (encode_any o x y t C w (by omega) (by unfold maxLen; omega) hC hwf hg (by omega)).mono fun e w' ⟨A, c, he, _, _, hr, hb⟩ => ⟨A, c, he, fun W hW => ?_, hb⟩
  have := conv_row A (ecL o t).length c (gL (ecL o t)) W (hr.below hW)
  rw [pc_list] at this
  exact this
end Go.Proofs.YtlmabhpfmbebjaaDoor.nn
