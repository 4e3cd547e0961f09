/- Joined texts, what is wanted of them: CbRo. -/
import Derived.Test.YtlmabhpfmbebjaaDoorProg
import Derived.WalkKit
import Derived.Lib.Hide
import Derived.WalkSpells
import Derived.Deep.QuietTactic
import Derived.BigQuiet
import Derived.Deep.RegionHeld3
import Derived.Laws.BitsAllLaws
import Derived.Test.YtlmabhpfmbebjaaDoorShelf
import Derived.Deep.RegionWith
import Derived.IntWalk
import Derived.Test.YtlmabhpfmbebjaaDoorQc
import Derived.Test.YtlmabhpfmbebjaaDoorQa
import Derived.Test.YtlmabhpfmbebjaaDoorQl
import Derived.Test.YtlmabhpfmbebjaaDoorQe
import Derived.Test.YtlmabhpfmbebjaaDoorQx
import Derived.Test.YtlmabhpfmbebjaaDoorQq
import Derived.Test.YtlmabhpfmbebjaaDoorQm
import Derived.Test.YtlmabhpfmbebjaaDoorQk
import Derived.Test.YtlmabhpfmbebjaaDoorQp
import Derived.Test.YtlmabhpfmbebjaaDoorQw
namespace Go.Proofs.YtlmabhpfmbebjaaDoor.nn
open Go.RowKit

set_option maxRecDepth 100000 in
set_option maxHeartbeats 4000000 in
theorem ritem_big (t : VT) (C : Value) (o : Bool) (x : Int) (y : Bool) (w : World) (hk : t.k = 5) (hs : t.s.size ≤ 100000000000) (hle : (itB o t).length + 20 ≤ 140737488355328) :
    Calls Tryd.prog 15 #[vv t C, .agg #[.bool o, .int .i64 x, .bool y]] w (RwAns (itB o t) w) := by
  have hx := Bo2.new w t C o x y
  obtain ⟨W2, hW2⟩ : ∃ W2, (w.alloc (.cells #[.int .i64 t.k, .bool t.g, .int .u64 (t.n : Int), .string t.s, C] 25)).alloc (.cells #[.bool o, .int .i64 x, .bool y] 27) = W2 := ⟨_, rfl⟩
  rw [hW2] at hx
  have hng := ng_le' t.g
  have HXD := Lib.hid (hx.on (Below.drew (Below.refl _ _)))
  have HBD := Lib.hid (Below.drew hx.b.b)
  have hp : Calls Tryd.prog 29 #[.int .i64 6, .int .u64 ((2 + ng t.g : Nat) : Int)] W2.drew (RwAns (hdP 6 (2 + ng t.g)) W2.drew) := rput_any' 6 (2 + ng t.g) W2.drew (by decide) (by omega)
  have HM := Lib.hid (rmajor_any t.g W2.drew)
  have HT : Hid (∀ W, Calls Tryd.prog 31 #[.int .i64 2, .string t.s, .bool o] W (RwAns (txP o 2 t.s) W)) := Lib.hid fun W => rtext_any 2 t.s o W (by decide) hs
  have c0 := hx.b.r.k
  have d1 : W2.drew.cell? ⟨w.heap.size, 0 + 1, none⟩ = some (.bool t.g) := hx.b.r.g
  have d3 : W2.drew.cell? ⟨w.heap.size, 0 + 3, none⟩ = some (.string t.s) := hx.b.r.s
  have d5 : W2.drew.cell? ⟨w.heap.size + 1, 0, none⟩ = some (.bool o) := hx.c.1
  have hi : itB o t = hdP 6 (2 + ng t.g) ++ txP o 2 t.s := by rw [itB_mk, hk]; rfl
  rw [hi] at hle ⊢
  rw [List.length_append] at hle
  have hw1 : wrap64 (2 + (ng t.g : Int)) = 2 + (ng t.g : Int) := by unfold wrap64; omega
  have hw2 : IntKind.i64.wrap (2 + (ng t.g : Int)) = 2 + (ng t.g : Int) := IntWalk.i64_in _ ⟨by omega, by omega⟩
  have hw3 : IntKind.u64.wrap (2 + (ng t.g : Int)) = 2 + (ng t.g : Int) := by rw [IntKind.wrap_u64]; omega
  rw [show ((2 + ng t.g : Nat) : Int) = 2 + (ng t.g : Int) by omega] at hp
  obtain ⟨P, hP⟩ : ∃ P, hdP 6 (2 + ng t.g) = P := ⟨_, rfl⟩
  obtain ⟨Q, hQ⟩ : ∃ Q, txP o 2 t.s = Q := ⟨_, rfl⟩
  rw [hP] at hp hle ⊢
  rw [hQ] at HT hle ⊢
  have HP := Lib.hid hp
  have hlq : P.length + Q.length ≤ 140737488355328 := by omega
  unfold vv
  rw [hk] at c0 hW2
  rw [hk]
  have HW2 := Lib.hid hW2
  clear hx hW2 hi hk hp hP hQ hle hs
  go_enter Tryd.func15, Tryd.ntmps15
  go_upto_region 1 with fail
  rw [HW2.out]
  go_upto_region 13 with fail
  go_region_law (first
    | (go_simp; go_at_call 30; (with_reducible refine HM.out.mono ?_); rintro e w3 ⟨rfl, rfl⟩)
    | (go_simp; go_at_call 29; (with_reducible refine HP.out.mono ?_); rintro e w4 ⟨v4, rfl, ho4, hb4⟩; have hX4 := HXD.out.on hb4; have q3 : w4.cell? ⟨w.heap.size, 0 + 3, none⟩ = some (.string t.s) := hX4.b.r.s; have q5 : w4.cell? ⟨w.heap.size + 1, 0, none⟩ = some (.bool o) := hX4.c.1; have hB4 := HBD.out.trans (hb4.mono HBD.out.size))
    | (go_simp; go_at_call 31; refine (HT.out w4).mono ?_; rintro e w5 ⟨v5, rfl, ho5, hb5⟩; have hO4 := own_low (own_below ho4 hb5) HBD.out.size; obtain ⟨A5, c5, rfl, _, _, hr5⟩ := rd_list rfl ho5; have hB5 := hB4.trans (hb5.mono hB4.size); have hs5 := hB5.size)
    | (refine step_appK rfl _ _ rfl w.heap.size _ P Q rfl hO4 A5 _ c5 rfl rfl hr5 hlq hs5 ?_; intro v6 w6 ho6 hb6 hk6))
  all_goals
    have HH : Hid (w6.ownsRow w.heap.size 5 1 v6 (P ++ Q).length (Lib.byteCells (P ++ Q)) ∧ Below w.heap.size w w6) := Lib.hid ⟨ho6, hB5.trans hb6⟩
    clear ho6 hb6 hk6 hO4 hr5 hB5 hs5 ho5 hb5 ho4 hb4 hX4 q3 q5 hB4
    go_wp2_with fail
    go_ret
    exact ⟨v6, rfl, HH.out⟩
end Go.Proofs.YtlmabhpfmbebjaaDoor.nn
