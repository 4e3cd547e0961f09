/- Joined texts, what is wanted of them: CbRq. -/
import Derived.Test.YtlmabhpfmbebjaaDoorProg
import Derived.WalkKit
import Derived.Lib.Hide
import Derived.WalkSpells
import Derived.Deep.QuietTactic
import Derived.BigQuiet
import Derived.Deep.RegionHeld3
import Derived.Laws.BitsAllLaws
import Derived.Test.YtlmabhpfmbebjaaDoorShelf
import Derived.Deep.RegionWith
import Derived.IntWalk
import Derived.Test.YtlmabhpfmbebjaaDoorQc
import Derived.Test.YtlmabhpfmbebjaaDoorQa
import Derived.Test.YtlmabhpfmbebjaaDoorQl
import Derived.Test.YtlmabhpfmbebjaaDoorQe
import Derived.Test.YtlmabhpfmbebjaaDoorQx
import Derived.Test.YtlmabhpfmbebjaaDoorQq
import Derived.Test.YtlmabhpfmbebjaaDoorQm
import Derived.Test.YtlmabhpfmbebjaaDoorQk
import Derived.Test.YtlmabhpfmbebjaaDoorQp
import Derived.Test.YtlmabhpfmbebjaaDoorQw
namespace Go.Proofs.YtlmabhpfmbebjaaDoor.nn
open Go.RowKit

set_option maxRecDepth 100000 in
set_option maxHeartbeats 4000000 in
theorem ritem_tag (w0 : World) (t u : VT) (C : Value) (o : Bool) (x : Int) (y : Bool) (w : World) (hl : t.l = [u]) (hk : t.k = 13) (hn : t.n < 18446744073709551616) (hC : Lst w0 C t.l) (hw : Below w0.heap.size w0 w) (ih : Rts w0 o x y u) (hle : (itB o t).length + 20 ≤ 140737488355328) :
    Calls Tryd.prog 15 #[vv t C, .agg #[.bool o, .int .i64 x, .bool y]] w (RwAns (itB o t) w) := by
  obtain ⟨A, c, rfl, hlc, hA⟩ := hC.out
  rw [hl] at hA hlc
  rcases hA with ⟨_, h0, _⟩ | ⟨b1, off, D, rfl, hb1, hrow, hkid⟩
  · cases h0
  have hr := hrow 0 (by simp)
  have hkl := hkid 0 (by simp)
  rw [show ([u] : List VT)[0] = u from rfl, Nat.zero_mul, Nat.add_zero] at hr
  rw [show ([u] : List VT)[0] = u from rfl] at hkl
  obtain ⟨A', c', hC2, _⟩ := hkl.out
  obtain ⟨C', hC'⟩ : ∃ C', D 0 = C' := ⟨_, rfl⟩
  rw [hC'] at hr hkl hC2
  obtain ⟨n', hn'⟩ : ∃ n', u.l.length = n' := ⟨_, rfl⟩
  rw [hn'] at hC2
  subst hC2
  rw [hl, show ([u] : List VT).length = 1 from rfl]
  have hlc1 : 1 ≤ c := hlc
  have hx := Bo2.new w t (.slice (some ⟨b1, off, none⟩) 1 c) o x y
  obtain ⟨W2, hW2⟩ : ∃ W2, (w.alloc (.cells #[.int .i64 t.k, .bool t.g, .int .u64 (t.n : Int), .string t.s, .slice (some ⟨b1, off, none⟩) 1 c] 25)).alloc (.cells #[.bool o, .int .i64 x, .bool y] 27) = W2 := ⟨_, rfl⟩
  rw [hW2] at hx
  have HXD := Lib.hid (hx.on (Below.drew (Below.refl _ _)))
  have HBD := Lib.hid (Below.drew hx.b.b)
  have hi : itB o t = hdP 6 t.n ++ itB o u := by
    rw [itB_mk, hk, hl]
    show hdP 6 t.n ++ (itB o u ++ []) = _
    rw [List.append_nil]
  rw [hi] at hle ⊢
  rw [List.length_append] at hle
  have hp : Calls Tryd.prog 29 #[.int .i64 6, .int .u64 (t.n : Int)] W2.drew (RwAns (hdP 6 t.n) W2.drew) := rput_any' 6 t.n W2.drew (by decide) hn
  have HI : Hid (∀ W, Below w.heap.size w W → Calls Tryd.prog 15 #[vv u (.slice A' n' c'), .agg #[.bool o, .int .i64 x, .bool y]] W (RwAns (itB o u) W)) := Lib.hid fun W hW => ih _ W hkl (hw.trans (hW.mono hw.size)) (by omega)
  have HR : Hid (∀ W, Below w.heap.size w W → Row W b1 off u (.slice A' n' c')) := Lib.hid fun W hW => hr.below (hw.trans (hW.mono hw.size)) hb1
  have c0 := hx.b.r.k
  have d2 : W2.drew.cell? ⟨w.heap.size, 0 + 2, none⟩ = some (.int .u64 (t.n : Int)) := hx.b.r.n
  have d4 : W2.drew.cell? ⟨w.heap.size, 0 + 4, none⟩ = some (.slice (some ⟨b1, off, none⟩) 1 c) := hx.b.r.l
  obtain ⟨p0, p1, p2⟩ := HXD.out.c
  have hru := HR.out _ HBD.out
  have r0 := hru.k
  have r1 := hru.g
  have r2 := hru.n
  have r3 := hru.s
  have r4 := hru.l
  obtain ⟨P, hP⟩ : ∃ P, hdP 6 t.n = P := ⟨_, rfl⟩
  obtain ⟨Q, hQ⟩ : ∃ Q, itB o u = Q := ⟨_, rfl⟩
  rw [hP] at hp hle ⊢
  rw [hQ] at HI hle ⊢
  have HP := Lib.hid hp
  have hlq : P.length + Q.length ≤ 140737488355328 := by omega
  unfold vv
  unfold vv at HI
  rw [hk] at c0 hW2
  rw [hk]
  have HW2 := Lib.hid hW2
  clear hx hW2 hi hk hp hP hQ hle hl hlc hrow hkid hr hkl hC' hn' hru ih hC
  go_enter Tryd.func15, Tryd.ntmps15
  go_upto_region 1 with fail
  rw [HW2.out]
  go_upto_region 28 with fail
  go_region_law (first
    | (go_simp; go_at_call 29; (with_reducible refine HP.out.mono ?_); rintro e w4 ⟨v4, rfl, ho4, hb4⟩; have hX4 := HXD.out.on hb4; have q4 : w4.cell? ⟨w.heap.size, 0 + 4, none⟩ = some (.slice (some ⟨b1, off, none⟩) 1 c) := hX4.b.r.l; have q5 := hX4.c.1; have q6 := hX4.c.2.1; have q7 := hX4.c.2.2; have hB4 := HBD.out.trans (hb4.mono HBD.out.size); have s0 := (HR.out _ hB4).k; have s1 := (HR.out _ hB4).g; have s2 := (HR.out _ hB4).n; have s3 := (HR.out _ hB4).s; have s4 := (HR.out _ hB4).l)
    | (go_simp; go_at_call 15; refine (HI.out w4 hB4).mono ?_; rintro e w5 ⟨v5, rfl, ho5, hb5⟩; have hO4 := own_low (own_below ho4 hb5) HBD.out.size; obtain ⟨A5, c5, rfl, _, _, hr5⟩ := rd_list rfl ho5; have hB5 := hB4.trans (hb5.mono hB4.size); have hs5 := hB5.size)
    | (refine step_appK rfl _ _ rfl w.heap.size _ P Q rfl hO4 A5 _ c5 rfl rfl hr5 hlq hs5 ?_; intro v6 w6 ho6 hb6 hk6))
  all_goals
    have HH : Hid (w6.ownsRow w.heap.size 5 1 v6 (P ++ Q).length (Lib.byteCells (P ++ Q)) ∧ Below w.heap.size w w6) := Lib.hid ⟨ho6, hB5.trans hb6⟩
    clear ho6 hb6 hk6 hO4 hr5 hB5 hs5 ho5 hb5 ho4 hb4 hX4 q4 q5 q6 q7 hB4 s0 s1 s2 s3 s4
    go_wp2_with fail
    go_ret
    exact ⟨v6, rfl, HH.out⟩
end Go.Proofs.YtlmabhpfmbebjaaDoor.nn
