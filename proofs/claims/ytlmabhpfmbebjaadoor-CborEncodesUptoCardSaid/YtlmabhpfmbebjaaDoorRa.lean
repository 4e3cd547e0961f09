/- Joined texts, what is wanted of them: CbRj, CbRn. -/
import Derived.Test.YtlmabhpfmbebjaaDoorProg
import Derived.WalkKit
import Derived.Lib.Hide
import Derived.WalkSpells
import Derived.Deep.QuietTactic
import Derived.BigQuiet
import Derived.Deep.RegionHeld3
import Derived.Laws.BitsAllLaws
import Derived.Test.YtlmabhpfmbebjaaDoorShelf
import Derived.Deep.RegionWith
import Derived.IntWalk
import Derived.Test.YtlmabhpfmbebjaaDoorQc
import Derived.Test.YtlmabhpfmbebjaaDoorQa
import Derived.Test.YtlmabhpfmbebjaaDoorQl
import Derived.Test.YtlmabhpfmbebjaaDoorQe
import Derived.Test.YtlmabhpfmbebjaaDoorQx
import Derived.Test.YtlmabhpfmbebjaaDoorQq
import Derived.Test.YtlmabhpfmbebjaaDoorQm
import Derived.Test.YtlmabhpfmbebjaaDoorQk
import Derived.Test.YtlmabhpfmbebjaaDoorQw
import Derived.Test.YtlmabhpfmbebjaaDoorQn
namespace Go.Proofs.YtlmabhpfmbebjaaDoor.nn
open Go.RowKit

set_option maxRecDepth 100000 in
set_option maxHeartbeats 4000000 in
theorem ritem_simple (t : VT) (C : Value) (o : Bool) (x : Int) (y : Bool) (w : World) (hk : t.k = 3) (hn : t.n < 18446744073709551616) :
    Calls Tryd.prog 15 #[vv t C, .agg #[.bool o, .int .i64 x, .bool y]] w (RwAns (itB o t) w) := by
  have hx := Bo2.new w t C o x y
  obtain ⟨W2, hW2⟩ : ∃ W2, (w.alloc (.cells #[.int .i64 t.k, .bool t.g, .int .u64 (t.n : Int), .string t.s, C] 25)).alloc (.cells #[.bool o, .int .i64 x, .bool y] 27) = W2 := ⟨_, rfl⟩
  rw [hW2] at hx
  have HB := Lib.hid hx.b.b
  have HP := Lib.hid ((rput_any' 7 t.n W2 (by decide) hn).mono fun e w' h => RwAns.behind hx.b.b h)
  have c0 := hx.b.r.k
  have c2 := hx.b.r.n
  have hi : itB o t = hdP 7 t.n := by rw [itB_mk, hk]; rfl
  rw [hi]
  unfold vv
  rw [hk] at c0 hW2
  rw [hk]
  have HW2 := Lib.hid hW2
  clear hx hW2 hi hk
  go_enter Tryd.func15, Tryd.ntmps15
  go_upto_region 1 with fail
  rw [HW2.out]
  go_wp2_with fail
  refine HP.out.mono ?_
  rintro e w3 ⟨v, rfl, h3⟩
  have HH := Lib.hid h3
  clear h3
  go_wp2_with fail
  go_ret
  exact ⟨v, rfl, HH.out⟩
set_option maxRecDepth 100000 in
set_option maxHeartbeats 4000000 in
theorem ritem_int (t : VT) (C : Value) (o : Bool) (x : Int) (y : Bool) (w : World) (hk : t.k = 4) (hn : t.n < 18446744073709551616) :
    Calls Tryd.prog 15 #[vv t C, .agg #[.bool o, .int .i64 x, .bool y]] w (RwAns (itB o t) w) := by
  have hx := Bo2.new w t C o x y
  obtain ⟨W2, hW2⟩ : ∃ W2, (w.alloc (.cells #[.int .i64 t.k, .bool t.g, .int .u64 (t.n : Int), .string t.s, C] 25)).alloc (.cells #[.bool o, .int .i64 x, .bool y] 27) = W2 := ⟨_, rfl⟩
  rw [hW2] at hx
  have hng := ng_le t.g
  have HP := Lib.hid ((rput_any' (ng t.g) t.n W2.drew (by omega) hn).mono fun e w' h => RwAns.behind (Below.drew hx.b.b) h)
  have HM := Lib.hid (rmajor_any t.g W2.drew)
  have c0 := hx.b.r.k
  have c1 := hx.b.r.g
  have c2 := hx.b.r.n
  have d1 : W2.drew.cell? ⟨w.heap.size, 0 + 1, none⟩ = some (.bool t.g) := c1
  have d2 : W2.drew.cell? ⟨w.heap.size, 0 + 2, none⟩ = some (.int .u64 (t.n : Int)) := c2
  have hi : itB o t = hdP (ng t.g) t.n := by rw [itB_mk, hk]; rfl
  rw [hi]
  unfold vv
  rw [hk] at c0 hW2
  rw [hk]
  have HW2 := Lib.hid hW2
  clear hx hW2 hi hk
  go_enter Tryd.func15, Tryd.ntmps15
  go_upto_region 1 with fail
  rw [HW2.out]
  go_upto_region 11 with fail
  first
    | go_region_with (first
        | (go_at_call 30; (with_reducible refine HM.out.mono ?_); rintro e w3 ⟨rfl, rfl⟩)
        | (go_at_call 29; (with_reducible refine HP.out.mono ?_); rintro e w4 ⟨v, rfl, h4⟩))
    | done
  all_goals
    have HH := Lib.hid h4
    clear h4
    go_wp2_with fail
    go_ret
    exact ⟨v, rfl, HH.out⟩
set_option maxRecDepth 100000 in
set_option maxHeartbeats 4000000 in
theorem ritem_fl (t : VT) (C : Value) (o : Bool) (x : Int) (y : Bool) (w : World) (hk : t.k = 6 ∨ t.k = 7 ∨ t.k = 8) (hn : t.n < 18446744073709551616) :
    Calls Tryd.prog 15 #[vv t C, .agg #[.bool o, .int .i64 x, .bool y]] w (RwAns (itB o t) w) := by
  have hx := Bo2.new w t C o x y
  obtain ⟨W2, hW2⟩ : ∃ W2, (w.alloc (.cells #[.int .i64 t.k, .bool t.g, .int .u64 (t.n : Int), .string t.s, C] 25)).alloc (.cells #[.bool o, .int .i64 x, .bool y] 27) = W2 := ⟨_, rfl⟩
  rw [hW2] at hx
  have H2 : Hid (Calls Tryd.prog 32 #[.int .u8 249, .int .u64 (t.n : Int), .int .i64 2] W2 (RwAns (flP 249 t.n 2) w)) := Lib.hid ((rfloat_any 249 t.n 2 W2 (by decide) hn (by decide) (by decide)).mono fun e w' h => RwAns.behind hx.b.b h)
  have H4 : Hid (Calls Tryd.prog 32 #[.int .u8 250, .int .u64 (t.n : Int), .int .i64 4] W2 (RwAns (flP 250 t.n 4) w)) := Lib.hid ((rfloat_any 250 t.n 4 W2 (by decide) hn (by decide) (by decide)).mono fun e w' h => RwAns.behind hx.b.b h)
  have H8 : Hid (Calls Tryd.prog 32 #[.int .u8 251, .int .u64 (t.n : Int), .int .i64 8] W2 (RwAns (flP 251 t.n 8) w)) := Lib.hid ((rfloat_any 251 t.n 8 W2 (by decide) hn (by decide) (by decide)).mono fun e w' h => RwAns.behind hx.b.b h)
  have c0 := hx.b.r.k
  have c2 := hx.b.r.n
  have hi := itB_mk o t
  obtain ⟨R, hR⟩ : ∃ R, itB o t = R := ⟨_, rfl⟩
  rw [hR] at hi ⊢
  have HI := Lib.hid hi
  unfold vv
  obtain ⟨k, hkk⟩ : ∃ k, t.k = k := ⟨_, rfl⟩
  rw [hkk] at c0 hW2 hk HI
  rw [hkk]
  have HW2 := Lib.hid hW2
  clear hx hW2 hi hR hkk
  rcases hk with rfl | rfl | rfl
  · have HF : Hid (R = flP 249 t.n 2) := Lib.hid (by rw [HI.out]; rfl)
    clear H4 H8 HI
    go_enter Tryd.func15, Tryd.ntmps15
    go_upto_region 1 with fail
    rw [HW2.out]
    go_wp2_with fail
    refine H2.out.mono ?_
    rintro e w3 ⟨v, rfl, h3⟩
    have HH := Lib.hid h3
    clear h3
    go_wp2_with fail
    go_ret
    rw [HF.out]
    exact ⟨v, rfl, HH.out⟩
  · have HF : Hid (R = flP 250 t.n 4) := Lib.hid (by rw [HI.out]; rfl)
    clear H2 H8 HI
    go_enter Tryd.func15, Tryd.ntmps15
    go_upto_region 1 with fail
    rw [HW2.out]
    go_wp2_with fail
    refine H4.out.mono ?_
    rintro e w3 ⟨v, rfl, h3⟩
    have HH := Lib.hid h3
    clear h3
    go_wp2_with fail
    go_ret
    rw [HF.out]
    exact ⟨v, rfl, HH.out⟩
  · have HF : Hid (R = flP 251 t.n 8) := Lib.hid (by rw [HI.out]; rfl)
    clear H2 H4 HI
    go_enter Tryd.func15, Tryd.ntmps15
    go_upto_region 1 with fail
    rw [HW2.out]
    go_wp2_with fail
    refine H8.out.mono ?_
    rintro e w3 ⟨v, rfl, h3⟩
    have HH := Lib.hid h3
    clear h3
    go_wp2_with fail
    go_ret
    rw [HF.out]
    exact ⟨v, rfl, HH.out⟩
set_option maxRecDepth 100000 in
set_option maxHeartbeats 4000000 in
theorem ritem_str (t : VT) (C : Value) (o : Bool) (x : Int) (y : Bool) (w : World) (hk : t.k = 9 ∨ t.k = 10) (hs : t.s.size ≤ 100000000000) :
    Calls Tryd.prog 15 #[vv t C, .agg #[.bool o, .int .i64 x, .bool y]] w (RwAns (itB o t) w) := by
  have hx := Bo2.new w t C o x y
  obtain ⟨W2, hW2⟩ : ∃ W2, (w.alloc (.cells #[.int .i64 t.k, .bool t.g, .int .u64 (t.n : Int), .string t.s, C] 25)).alloc (.cells #[.bool o, .int .i64 x, .bool y] 27) = W2 := ⟨_, rfl⟩
  rw [hW2] at hx
  have H2 : Hid (Calls Tryd.prog 31 #[.int .i64 2, .string t.s, .bool o] W2 (RwAns (txP o 2 t.s) w)) := Lib.hid ((rtext_any 2 t.s o W2 (by decide) hs).mono fun e w' h => RwAns.behind hx.b.b h)
  have H3 : Hid (Calls Tryd.prog 31 #[.int .i64 3, .string t.s, .bool o] W2 (RwAns (txP o 3 t.s) w)) := Lib.hid ((rtext_any 3 t.s o W2 (by decide) hs).mono fun e w' h => RwAns.behind hx.b.b h)
  have c0 := hx.b.r.k
  have c3 := hx.b.r.s
  obtain ⟨p0, p1, p2⟩ := hx.c
  have hi := itB_mk o t
  obtain ⟨R, hR⟩ : ∃ R, itB o t = R := ⟨_, rfl⟩
  rw [hR] at hi ⊢
  have HI := Lib.hid hi
  unfold vv
  obtain ⟨k, hkk⟩ : ∃ k, t.k = k := ⟨_, rfl⟩
  rw [hkk] at c0 hW2 hk HI
  rw [hkk]
  have HW2 := Lib.hid hW2
  clear hx hW2 hi hR hkk
  rcases hk with rfl | rfl
  · have HF : Hid (R = txP o 2 t.s) := Lib.hid (by rw [HI.out]; rfl)
    clear H3 HI
    go_enter Tryd.func15, Tryd.ntmps15
    go_upto_region 1 with fail
    rw [HW2.out]
    go_wp2_with fail
    refine H2.out.mono ?_
    rintro e w3 ⟨v, rfl, h3⟩
    have HH := Lib.hid h3
    clear h3
    go_wp2_with fail
    go_ret
    rw [HF.out]
    exact ⟨v, rfl, HH.out⟩
  · have HF : Hid (R = txP o 3 t.s) := Lib.hid (by rw [HI.out]; rfl)
    clear H2 HI
    go_enter Tryd.func15, Tryd.ntmps15
    go_upto_region 1 with fail
    rw [HW2.out]
    go_wp2_with fail
    refine H3.out.mono ?_
    rintro e w3 ⟨v, rfl, h3⟩
    have HH := Lib.hid h3
    clear h3
    go_wp2_with fail
    go_ret
    rw [HF.out]
    exact ⟨v, rfl, HH.out⟩
end Go.Proofs.YtlmabhpfmbebjaaDoor.nn
namespace Go.Proofs.YtlmabhpfmbebjaaDoor.nn
open Go.RowKit

set_option maxRecDepth 100000 in
set_option maxHeartbeats 4000000 in
theorem ritem_list (w0 : World) (t : VT) (C : Value) (o : Bool) (x : Int) (y : Bool) (w : World) (hk : t.k = 11) (hC : Lst w0 C t.l) (hw : Below w0.heap.size w0 w) (hLn : t.l.length ≤ 1099511627776) (ih : ∀ u, u ∈ t.l → Rts w0 o x y u) (hle : (itB o t).length + 20 ≤ 140737488355328) :
    Calls Tryd.prog 15 #[vv t C, .agg #[.bool o, .int .i64 x, .bool y]] w (RwAns (itB o t) w) := by
  have hx := Bo2.new w t C o x y
  obtain ⟨W2, hW2⟩ : ∃ W2, (w.alloc (.cells #[.int .i64 t.k, .bool t.g, .int .u64 (t.n : Int), .string t.s, C] 25)).alloc (.cells #[.bool o, .int .i64 x, .bool y] 27) = W2 := ⟨_, rfl⟩
  rw [hW2] at hx
  have hi : itB o t = hdO o 4 (t.l.length) ++ (itL o t.l ++ enO o) := by rw [itB_mk, hk]; rfl
  have hm := rmany_any w0 4 t C o x y W2 (Or.inl rfl) hC (hw.trans (hx.b.b.mono hw.size)) hLn ih (by
    rw [hi] at hle
    simp only [List.length_append] at hle
    first | rw [if_pos (by decide)] | rw [if_neg (by decide)]
    omega)
  have hm2 : Calls Tryd.prog 33 #[.int .i64 4, vv t C, .agg #[.bool o, .int .i64 x, .bool y]] W2 (RwAns (itB o t) W2) := by
    rw [hi]
    first | rw [if_pos (by decide)] at hm | rw [if_neg (by decide)] at hm
    exact hm
  have hm3 := hm2.mono fun e w' h => RwAns.behind hx.b.b h
  clear hm hm2 hi hle ih hLn hw
  have c0 := hx.b.r.k
  have c1 := hx.b.r.g
  have c2 := hx.b.r.n
  have c3 := hx.b.r.s
  have c4 := hx.b.r.l
  obtain ⟨p0, p1, p2⟩ := hx.c
  obtain ⟨A0, cc, rfl, _, _⟩ := hC.out
  unfold vv
  unfold vv at hm3
  obtain ⟨R, hR⟩ : ∃ R, itB o t = R := ⟨_, rfl⟩
  rw [hR] at hm3 ⊢
  rw [hk] at c0 hW2 hm3
  rw [hk]
  have HM := Lib.hid hm3
  have HW2 := Lib.hid hW2
  clear hx hW2 hR hk hC hm3
  go_enter Tryd.func15, Tryd.ntmps15
  go_upto_region 1 with fail
  rw [HW2.out]
  go_wp2_with fail
  refine HM.out.mono ?_
  rintro e w3 ⟨v, rfl, h3⟩
  have HH := Lib.hid h3
  clear h3
  go_wp2_with fail
  go_ret
  exact ⟨v, rfl, HH.out⟩
set_option maxRecDepth 100000 in
set_option maxHeartbeats 4000000 in
theorem ritem_map (w0 : World) (t : VT) (C : Value) (o : Bool) (x : Int) (y : Bool) (w : World) (hk : t.k = 12) (hC : Lst w0 C t.l) (hw : Below w0.heap.size w0 w) (hLn : t.l.length ≤ 1099511627776) (ih : ∀ u, u ∈ t.l → Rts w0 o x y u) (hle : (itB o t).length + 20 ≤ 140737488355328) :
    Calls Tryd.prog 15 #[vv t C, .agg #[.bool o, .int .i64 x, .bool y]] w (RwAns (itB o t) w) := by
  have hx := Bo2.new w t C o x y
  obtain ⟨W2, hW2⟩ : ∃ W2, (w.alloc (.cells #[.int .i64 t.k, .bool t.g, .int .u64 (t.n : Int), .string t.s, C] 25)).alloc (.cells #[.bool o, .int .i64 x, .bool y] 27) = W2 := ⟨_, rfl⟩
  rw [hW2] at hx
  have hi : itB o t = hdO o 5 (t.l.length / 2) ++ (itL o t.l ++ enO o) := by rw [itB_mk, hk]; rfl
  have hm := rmany_any w0 5 t C o x y W2 (Or.inr rfl) hC (hw.trans (hx.b.b.mono hw.size)) hLn ih (by
    rw [hi] at hle
    simp only [List.length_append] at hle
    first | rw [if_pos (by decide)] | rw [if_neg (by decide)]
    omega)
  have hm2 : Calls Tryd.prog 33 #[.int .i64 5, vv t C, .agg #[.bool o, .int .i64 x, .bool y]] W2 (RwAns (itB o t) W2) := by
    rw [hi]
    first | rw [if_pos (by decide)] at hm | rw [if_neg (by decide)] at hm
    exact hm
  have hm3 := hm2.mono fun e w' h => RwAns.behind hx.b.b h
  clear hm hm2 hi hle ih hLn hw
  have c0 := hx.b.r.k
  have c1 := hx.b.r.g
  have c2 := hx.b.r.n
  have c3 := hx.b.r.s
  have c4 := hx.b.r.l
  obtain ⟨p0, p1, p2⟩ := hx.c
  obtain ⟨A0, cc, rfl, _, _⟩ := hC.out
  unfold vv
  unfold vv at hm3
  obtain ⟨R, hR⟩ : ∃ R, itB o t = R := ⟨_, rfl⟩
  rw [hR] at hm3 ⊢
  rw [hk] at c0 hW2 hm3
  rw [hk]
  have HM := Lib.hid hm3
  have HW2 := Lib.hid hW2
  clear hx hW2 hR hk hC hm3
  go_enter Tryd.func15, Tryd.ntmps15
  go_upto_region 1 with fail
  rw [HW2.out]
  go_wp2_with fail
  refine HM.out.mono ?_
  rintro e w3 ⟨v, rfl, h3⟩
  have HH := Lib.hid h3
  clear h3
  go_wp2_with fail
  go_ret
  exact ⟨v, rfl, HH.out⟩
end Go.Proofs.YtlmabhpfmbebjaaDoor.nn
