/- Joined texts, what is wanted of them: EventTreesW. -/
import Derived.Lib.Hide
import Derived.Deep.QuietTactic
import Derived.BigQuiet
import Derived.StillTailTactics
import Derived.IntWalk
import Derived.Deep.RegionHeld3
import Derived.Test.YthlpiaoofijfpaaProg
import Derived.WalkKit
import Derived.Test.YthlpiaoofijfpaaJh
import Derived.Test.YthlpiaoofijfpaaJz
import Derived.Test.YthlpiaoofijfpaaJg
import Derived.Test.YthlpiaoofijfpaaJo
import Derived.Test.YthlpiaoofijfpaaJa
import Derived.Test.YthlpiaoofijfpaaJba
import Derived.Test.YthlpiaoofijfpaaJn
import Derived.Test.YthlpiaoofijfpaaJp
import Derived.Test.YthlpiaoofijfpaaJx
import Derived.Test.YthlpiaoofijfpaaJc
import Derived.Test.YthlpiaoofijfpaaJb
import Derived.Test.YthlpiaoofijfpaaJs
import Derived.Test.YthlpiaoofijfpaaJk
import Derived.Test.YthlpiaoofijfpaaJu
import Derived.Test.YthlpiaoofijfpaaJe
import Derived.Test.YthlpiaoofijfpaaJq
import Derived.Test.YthlpiaoofijfpaaJr
import Derived.Test.YthlpiaoofijfpaaJi
import Derived.Test.YthlpiaoofijfpaaJd
import Derived.Test.YthlpiaoofijfpaaJy
namespace Go.Proofs.Ythlpiaoofijfpaa.nn
open Go.RowKit

theorem treeB_cnt (L : List Ev) : cnt (treeB L).1 ≤ 65536 := by
  by_cases h : (treeB L).2.2 = 0
  · exact (chk_cnt (treeB_yes h).2).1
  · rw [treeB_no h]; decide
set_option maxRecDepth 100000 in
set_option maxHeartbeats 4000000 in
theorem trees9_any (A : Option Addr) (L : List Ev) (c : Nat) (w : World) (hR : RdE w A L) (hn : L.length ≤ 1048576) (hWM : ∀ e, e ∈ L → evOk e ∧ e.s.size ≤ maxLen) :
    Calls Try.prog 4 #[.slice A L.length c] w fun r w' => r = .returned (.bool true) ∧ Below w.heap.size w w' := by
  have hwL : ∀ e, e ∈ L → wfE e := fun e he => ⟨(hWM e he).1.1, (hWM e he).1.2.1, (hWM e he).1.2.2, (hWM e he).2⟩
  have hcnt := treeB_cnt L
  obtain ⟨T, hT⟩ : ∃ T, (treeB L).1 = T := ⟨_, rfl⟩
  obtain ⟨nn, hnn⟩ : ∃ n, (treeB L).2.1 = n := ⟨_, rfl⟩
  obtain ⟨f, hf⟩ : ∃ f, (treeB L).2.2 = f := ⟨_, rfl⟩
  rw [hT] at hcnt
  have C1 : Hid (∀ W, Below w.heap.size w W → Calls Try.prog 14 #[.slice A L.length c] W fun x w' => ∃ A2 c2, x = .returned (.tuple #[vv T (.slice A2 T.l.length c2), .int .i64 (nn : Int), .int .i64 (f : Int)]) ∧ Lst w' (.slice A2 T.l.length c2) T.l ∧ Below W.heap.size W w') := Lib.hid fun W hW => by
    refine (tree_any A L c W (hR.below hW) hwL (by omega)).mono fun x w' ⟨C2, hx, hl2, hb⟩ => ?_
    rw [hT, hnn, hf] at hx
    rw [hT] at hl2
    obtain ⟨A2, c2, rfl, _⟩ := hl2.out
    exact ⟨A2, c2, hx, hl2, hb⟩
  have C2 : Hid (∀ W, Below w.heap.size w W → Calls Try.prog 15 #[.slice A L.length c] W fun x w' => ∃ A2 c2, x = .returned (.tuple #[vv T (.slice A2 T.l.length c2), .int .i64 (nn : Int), .int .i64 (f : Int)]) ∧ Lst w' (.slice A2 T.l.length c2) T.l ∧ Below W.heap.size W w') := Lib.hid fun W hW => by
    refine (rtree_any A L c W (hR.below hW) hwL (by omega)).mono fun x w' ⟨C2, hx, hl2, hb⟩ => ?_
    rw [hT, hnn, hf] at hx
    rw [hT] at hl2
    obtain ⟨A2, c2, rfl, _⟩ := hl2.out
    exact ⟨A2, c2, hx, hl2, hb⟩
  have C3 : Hid (∀ W A2 c2 A3 c3, Lst W (.slice A2 T.l.length c2) T.l → Lst W (.slice A3 T.l.length c3) T.l → Calls Try.prog 16 #[vv T (.slice A2 T.l.length c2), vv T (.slice A3 T.l.length c3)] W fun x w' => x = .returned (.bool true) ∧ Below W.heap.size W w') := Lib.hid fun W A2 c2 A3 c3 h2 h3 => by
    have := same9_any (cnt T) T T (.slice A2 T.l.length c2) (.slice A3 T.l.length c3) W (Nat.le_refl _) (by omega) (by omega) h2 h3
    rw [(eqv_iff T T).2 rfl] at this
    exact this
  have HA : Hid (∀ W, Calls Try.prog 13 #[] W fun e w' => e = .returned (.bool true) ∧ Below W.heap.size W w') := Lib.hid fun W => awake9 W
  obtain ⟨tl, htl⟩ : ∃ n, T.l.length = n := ⟨_, rfl⟩
  obtain ⟨n, hnl⟩ : ∃ n, L.length = n := ⟨_, rfl⟩
  rw [htl] at C1 C2 C3
  rw [hnl] at C1 C2 ⊢
  have HB0 := Lib.hid (Below.refl w.heap.size w)
  unfold vv at *
  clear hR hn hWM hwL hcnt hT hnn hf htl hnl
  go_enter Try.func4, Try.ntmps4
  go_wp2_with fail
  refine (C1.out _ HB0.out).mono ?_
  rintro x w1 ⟨A2, c2, rfl, hl2, hb1⟩
  obtain ⟨W2, hW2⟩ : ∃ W2, w1.alloc (.cells #[.int .i64 T.k, .bool T.g, .int .u64 (T.n : Int), .string T.s, .slice A2 tl c2] 25) = W2 := ⟨_, rfl⟩
  have H2 : Hid (Bk W2 w1.heap.size 25 #[.int .i64 T.k, .bool T.g, .int .u64 (T.n : Int), .string T.s, .slice A2 tl c2] ∧ Lst W2 (.slice A2 tl c2) T.l ∧ Below w.heap.size w W2) := Lib.hid (by
    rw [← hW2]
    exact ⟨.new _ _ _, hl2.keep ((Below.refl _ _).alloc (Nat.le_refl _) _) (Nat.le_refl _), hb1.alloc hb1.size _⟩)
  clear hl2 hb1 C1
  go_wp2_with fail
  refine (C2.out _ H2.out.2.2).mono ?_
  rintro x w3 ⟨A3, c3, rfl, hl3, hb3⟩
  have H3 : Hid (Bk w3 w1.heap.size 25 #[.int .i64 T.k, .bool T.g, .int .u64 (T.n : Int), .string T.s, .slice A2 tl c2] ∧ Lst w3 (.slice A2 tl c2) T.l ∧ Lst w3 (.slice A3 tl c3) T.l ∧ Below w.heap.size w w3) := Lib.hid ⟨H2.out.1.below hb3 H2.out.1.lt, H2.out.2.1.keep hb3 (Nat.le_refl _), hl3, H2.out.2.2.trans (hb3.mono H2.out.2.2.size)⟩
  clear hl3 hb3 C2 H2 hW2
  obtain ⟨W4, hW4⟩ : ∃ W4, w3.alloc (.cells #[.int .i64 T.k, .bool T.g, .int .u64 (T.n : Int), .string T.s, .slice A3 tl c3] 25) = W4 := ⟨_, rfl⟩
  have hal : Below w3.heap.size w3 W4 := by rw [← hW4]; exact (Below.refl _ _).alloc (Nat.le_refl _) _
  have H4 : Hid (Bk W4 w1.heap.size 25 #[.int .i64 T.k, .bool T.g, .int .u64 (T.n : Int), .string T.s, .slice A2 tl c2] ∧ Bk W4 w3.heap.size 25 #[.int .i64 T.k, .bool T.g, .int .u64 (T.n : Int), .string T.s, .slice A3 tl c3]) := Lib.hid ⟨H3.out.1.below hal H3.out.1.lt, by rw [← hW4]; exact .new _ _ _⟩
  have H5 : Hid (Lst W4 (.slice A2 tl c2) T.l ∧ Lst W4 (.slice A3 tl c3) T.l ∧ Below w.heap.size w W4) := Lib.hid ⟨H3.out.2.1.keep hal (Nat.le_refl _), H3.out.2.2.1.keep hal (Nat.le_refl _), H3.out.2.2.2.trans (hal.mono H3.out.2.2.2.size)⟩
  clear H3 hal
  obtain ⟨x0, x1, x2, x3, x4⟩ := H4.out.1.c5
  obtain ⟨y0, y1, y2, y3, y4⟩ := H4.out.2.c5
  go_wp2_with fail
  refine (C3.out _ _ _ _ _ H5.out.1 H5.out.2.1).mono ?_
  rintro x w5 ⟨rfl, hb5⟩
  have HB5 := Lib.hid (H5.out.2.2.trans (hb5.mono H5.out.2.2.size))
  clear hb5 x0 x1 x2 x3 x4 y0 y1 y2 y3 y4 H4 H5 C3
  go_wp2_with fail
  refine (HA.out _).mono ?_
  rintro x w6 ⟨rfl, hb6⟩
  have HB6 := Lib.hid (HB5.out.trans (hb6.mono HB5.out.size))
  clear hb6
  go_wp2_with fail
  go_ret
  exact ⟨rfl, HB6.out⟩
end Go.Proofs.Ythlpiaoofijfpaa.nn
