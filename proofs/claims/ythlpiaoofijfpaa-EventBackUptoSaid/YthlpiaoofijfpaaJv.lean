/- Joined texts, what is wanted of them: EventBackW. -/
import Derived.Test.YthlpiaoofijfpaaProg
import Derived.WalkKit
import Derived.Lib.Hide
import Derived.Deep.QuietTactic
import Derived.BigQuiet
import Derived.IntWalk
import Derived.Test.YthlpiaoofijfpaaJn
import Derived.Test.YthlpiaoofijfpaaJi
import Derived.Test.YthlpiaoofijfpaaJb
import Derived.Test.YthlpiaoofijfpaaJa
import Derived.Test.YthlpiaoofijfpaaJg
import Derived.Test.YthlpiaoofijfpaaJo
import Derived.Test.YthlpiaoofijfpaaJq
import Derived.Test.YthlpiaoofijfpaaJu
import Derived.Test.YthlpiaoofijfpaaJk
import Derived.Test.YthlpiaoofijfpaaJe
import Derived.Test.YthlpiaoofijfpaaJc
import Derived.Test.YthlpiaoofijfpaaJh
import Derived.Test.YthlpiaoofijfpaaJs
import Derived.Test.YthlpiaoofijfpaaJp
import Derived.Test.YthlpiaoofijfpaaJr
import Derived.Test.YthlpiaoofijfpaaJd
namespace Go.Proofs.Ythlpiaoofijfpaa.nn
open Go.RowKit

set_option maxRecDepth 100000 in
set_option maxHeartbeats 4000000 in
theorem back9_any (t : VT) (C : Value) (Am : Option Addr) (M : List Ev) (cm : Nat) (w : World) (hC : Lst w C t.l) (hB : blk t ≤ 1048576) (hwf : wfT t) (hR : RdE w Am M) (hM : M.length ≤ 1048576) (hWM : ∀ e, e ∈ M → wfE e) :
    Calls Try.prog 6 #[vv t C, .slice Am M.length cm] w fun r w' => r = .returned (.bool true) ∧ Below w.heap.size w w' := by
  have hcb := cnt_blk t
  have hsb := smx_blk t
  have hmx : (1048576 : Nat) ≤ maxLen := by simp [maxLen]
  obtain ⟨Ac, mc, cc, rfl⟩ : ∃ A m c, C = .slice A m c := by obtain ⟨a, b, e, _⟩ := hC.out; exact ⟨a, _, b, e⟩
  have HB0 := Lib.hid (Box.new w t (.slice Ac mc cc) 25)
  have H1 : Hid (∀ W, Box w t (.slice Ac mc cc) W → Calls Try.prog 10 #[vv t (.slice Ac mc cc)] W fun e w' => ∃ (A : Option Addr) (c : Nat), e = .returned (.tuple #[.slice A (evA t).length c, .int .i64 (chk t : Int)]) ∧ RdE w' A (evA t) ∧ Box w t (.slice Ac mc cc) w') := Lib.hid fun W hW =>
    (vevents_any t (.slice Ac mc cc) W (by omega) (by omega) (hC.keep hW.b (Nat.le_refl _)) hwf).mono fun e w' ⟨A, c, he, _, _, hr, hb⟩ => ⟨A, c, he, hr, hW.on hb⟩
  have HT1 : Hid (chk t = 0 → ∀ W A c, Box w t (.slice Ac mc cc) W → RdE W A (evA t) → Calls Try.prog 14 #[.slice A (evA t).length c] W fun x w' => ∃ A2 c2, x = .returned (.tuple #[vv t (.slice A2 t.l.length c2), .int .i64 ((evA t).length : Int), .int .i64 0]) ∧ Lst w' (.slice A2 t.l.length c2) t.l ∧ Box w t (.slice Ac mc cc) w') := Lib.hid fun h0 W A c hW hr => by
    have e0 : evA t = evs t := by unfold evA; rw [if_pos h0]
    have hl := evA_len t
    rw [e0] at hr hl ⊢
    refine (tree_any A (evs t) c W hr (wf_evs t hwf (by omega)) (by omega)).mono fun x w' ⟨C2, hx, hl2, hb⟩ => ?_
    rw [treeB_of h0] at hx hl2
    have hl3 : Lst w' C2 t.l := hl2
    obtain ⟨A2, c2, rfl, _⟩ := hl3.out
    exact ⟨A2, c2, hx, hl3, hW.on hb⟩
  have HS1 : Hid (∀ W A2 c2, Box w t (.slice Ac mc cc) W → Lst W (.slice A2 t.l.length c2) t.l → Calls Try.prog 16 #[vv t (.slice Ac mc cc), vv t (.slice A2 t.l.length c2)] W fun x w' => x = .returned (.bool true) ∧ Box w t (.slice Ac mc cc) w') := Lib.hid fun W A2 c2 hW hl => by
    have := same9_any (cnt t) t t (.slice Ac mc cc) (.slice A2 t.l.length c2) W (Nat.le_refl _) (by omega) (by omega) (hC.keep hW.b (Nat.le_refl _)) hl
    rw [(eqv_iff t t).2 rfl] at this
    exact this.mono fun x w' ⟨hx, hb⟩ => ⟨hx, hW.on hb⟩
  -- the second half
  obtain ⟨T, hT⟩ : ∃ T, (treeB M).1 = T := ⟨_, rfl⟩
  obtain ⟨nn, hnn⟩ : ∃ n, (treeB M).2.1 = n := ⟨_, rfl⟩
  obtain ⟨f, hf⟩ : ∃ f, (treeB M).2.2 = f := ⟨_, rfl⟩
  have hno : f ≠ 0 → T = emp := fun h => by rw [← hT]; exact treeB_no (by rw [hf]; exact h)
  have hyes : f = 0 → evs T = M ∧ chk T = 0 := fun h => by rw [← hT]; exact treeB_yes (by rw [hf]; exact h)
  have HT2 : Hid (∀ W, Box w t (.slice Ac mc cc) W → Calls Try.prog 14 #[.slice Am M.length cm] W fun x w' => ∃ A2 c2, x = .returned (.tuple #[vv T (.slice A2 T.l.length c2), .int .i64 (nn : Int), .int .i64 (f : Int)]) ∧ Lst w' (.slice A2 T.l.length c2) T.l ∧ Box w t (.slice Ac mc cc) w') := Lib.hid fun W hW => by
    refine (tree_any Am M cm W (hR.below hW.b) hWM (by omega)).mono fun x w' ⟨C2, hx, hl2, hb⟩ => ?_
    rw [hT, hnn, hf] at hx
    rw [hT] at hl2
    obtain ⟨A2, c2, rfl, _⟩ := hl2.out
    exact ⟨A2, c2, hx, hl2, hW.on hb⟩
  have HS2 : Hid (f ≠ 0 → ∀ W A2 c2, Box w t (.slice Ac mc cc) W → Lst W (.slice A2 T.l.length c2) T.l → Calls Try.prog 16 #[vv T (.slice A2 T.l.length c2), .agg #[.int .i64 0, .bool false, .int .u64 0, .string ⟨#[]⟩, .slice none 0 0]] W fun x w' => x = .returned (.bool true) ∧ Box w t (.slice Ac mc cc) w') := Lib.hid fun h0 W A2 c2 hW hl => by
    have hTe := hno h0
    rw [hTe] at hl ⊢
    have := same9_any 1 emp emp (.slice A2 emp.l.length c2) (.slice none 0 0) W (by decide) (by decide) (by decide) hl .nil_
    rw [(eqv_iff emp emp).2 rfl] at this
    exact this.mono fun x w' ⟨hx, hb⟩ => ⟨hx, hW.on hb⟩
  have HA : Hid (∀ W, Box w t (.slice Ac mc cc) W → Calls Try.prog 13 #[] W fun e w' => e = .returned (.bool true) ∧ Below W.heap.size W w' ∧ Box w t (.slice Ac mc cc) w') := Lib.hid fun W hW => (awake9 W).mono fun e w' ⟨he, hb⟩ => ⟨he, hb, hW.on hb⟩
  have hTw : f = 0 → wfT T ∧ smx T ≤ maxLen ∧ cnt T ≤ 65536 := fun h => by
    obtain ⟨h1, h2⟩ := hyes h
    obtain ⟨h3, h4⟩ := evs_wf T (by rw [h1]; exact hWM)
    exact ⟨h3, h4, (chk_cnt h2).1⟩
  have HE2 : Hid (f = 0 → ∀ W A2 c2, Box w t (.slice Ac mc cc) W → Lst W (.slice A2 T.l.length c2) T.l → Calls Try.prog 10 #[vv T (.slice A2 T.l.length c2)] W fun x w' => ∃ A c, x = .returned (.tuple #[.slice A M.length c, .int .i64 0]) ∧ RdE w' A M ∧ Below W.heap.size W w' ∧ Box w t (.slice Ac mc cc) w') := Lib.hid fun h0 W A2 c2 hW hl => by
    obtain ⟨h1, h2, h3⟩ := hTw h0
    obtain ⟨h4, h5⟩ := hyes h0
    have e0 : evA T = M := by unfold evA; rw [if_pos h5, h4]
    have := vevents_any T (.slice A2 T.l.length c2) W (by omega) h2 hl h1
    unfold EEAns at this
    rw [e0, h5] at this
    exact this.mono fun x w' ⟨A, c, hx, _, _, hr, hb⟩ => ⟨A, c, hx, hr, hb, hW.on hb⟩
  have HLS : Hid (∀ W A c, Box w t (.slice Ac mc cc) W → RdE W A M → Calls Try.prog 12 #[.slice A M.length c, .slice Am M.length cm] W fun x w' => x = .returned (.bool true) ∧ Below W.heap.size W w' ∧ Box w t (.slice Ac mc cc) w') := Lib.hid fun W A c hW hr => (list_same M A Am c cm W (by omega) hr (hR.below hW.b)).mono fun x w' ⟨hx, hb⟩ => ⟨hx, hb, hW.on hb⟩
  have HC1 : Hid (f = 0 → ∀ W A2 c2, Box w t (.slice Ac mc cc) W → Lst W (.slice A2 T.l.length c2) T.l → Calls Try.prog 25 #[vv T (.slice A2 T.l.length c2)] W fun x w' => x = .returned (.int .i64 0) ∧ Below W.heap.size W w' ∧ Box w t (.slice Ac mc cc) w') := Lib.hid fun h0 W A2 c2 hW hl => by
    obtain ⟨h1, h2, h3⟩ := hTw h0
    have := vcheck_any T (.slice A2 T.l.length c2) W (by omega) h2 hl h1
    rw [(hyes h0).2] at this
    exact this.mono fun x w' ⟨hx, hb⟩ => ⟨hx, hb, hW.on hb⟩
  have HC2 : Hid (f = 0 → ∀ W A2 c2, Box w t (.slice Ac mc cc) W → Lst W (.slice A2 T.l.length c2) T.l → Calls Try.prog 26 #[vv T (.slice A2 T.l.length c2)] W fun x w' => x = .returned (.int .i64 0) ∧ Box w t (.slice Ac mc cc) w') := Lib.hid fun h0 W A2 c2 hW hl => by
    obtain ⟨h1, h2, h3⟩ := hTw h0
    have := rchk_any T (.slice A2 T.l.length c2) W (by omega) h2 hl
    rw [(hyes h0).2] at this
    exact this.mono fun x w' ⟨hx, hb⟩ => ⟨hx, hW.on hb⟩
  obtain ⟨ck, hck⟩ : ∃ c, chk t = c := ⟨_, rfl⟩
  obtain ⟨L, hL⟩ : ∃ L, evA t = L := ⟨_, rfl⟩
  rw [hck, hL] at H1
  rw [hck, hL] at HT1
  obtain ⟨nl, hnl⟩ : ∃ n, L.length = n := ⟨_, rfl⟩
  rw [hnl] at H1 HT1
  obtain ⟨tl, htl⟩ : ∃ n, t.l.length = n := ⟨_, rfl⟩
  rw [htl] at HT1 HS1
  obtain ⟨ml, hml⟩ : ∃ n, M.length = n := ⟨_, rfl⟩
  rw [hml] at HT2 HE2 HLS ⊢
  obtain ⟨Tl, hTl⟩ : ∃ n, T.l.length = n := ⟨_, rfl⟩
  rw [hTl] at HT2 HS2 HE2 HC1 HC2
  unfold vv at *
  clear hC hB hwf hR hM hWM hcb hsb hmx hT hnn hf hno hyes hTw hck hL hnl htl hml hTl
  go_enter Try.func6, Try.ntmps6
  go_wp2_with fail
  refine (H1.out _ HB0.out).mono ?_
  rintro e w1 ⟨A1, c1, rfl, r1, k1⟩
  have HK1 := Lib.hid (And.intro r1 k1)
  clear r1 k1
  go_upto_if 21 with fail
  go_cut [7] (fun _ wx => Hid (Box w t (.slice Ac mc cc) wx))
  case first =>
    by_cases hck0 : ck = 0
    · have HTT := Lib.hid (HT1.out hck0)
      subst hck0
      clear HT1 H1 HT2 HS2 HE2 HLS HC1 HC2 HA
      go_wp2_with fail
      refine (HTT.out _ _ _ HK1.out.2 HK1.out.1).mono ?_
      rintro x w2 ⟨A2, c2, rfl, hl2, k2⟩
      have hl3 := hl2.keep ((Below.refl _ _).alloc (Nat.le_refl _) (.cells #[.int .i64 t.k, .bool t.g, .int .u64 (t.n : Int), .string t.s, .slice A2 tl c2] 25)) (Nat.le_refl _)
      have k3 := k2.on ((Below.refl _ _).alloc (Nat.le_refl _) (.cells #[.int .i64 t.k, .bool t.g, .int .u64 (t.n : Int), .string t.s, .slice A2 tl c2] 25))
      have q0 := k3.r.k
      have q1 := k3.r.g
      have q2 := k3.r.n
      have q3 := k3.r.s
      have q4 := k3.r.l
      have HK3 := Lib.hid (And.intro hl3 k3)
      clear hl2 k2 hl3 k3 HTT HK1
      go_wp2_with fail
      refine (HS1.out _ _ _ HK3.out.2 HK3.out.1).mono ?_
      rintro x w4 ⟨rfl, k4⟩
      have HK4 := Lib.hid k4
      clear k4 q0 q1 q2 q3 q4
      go_wp2_with fail
      go_meet
      exact HK4
    · have hc1 : ((ck : Int) == 0) = false := by simp; omega
      have HK4 := Lib.hid HK1.out.2
      clear HT1 H1 HT2 HS2 HE2 HLS HC1 HC2 HA HS1
      go_wp2_with fail
      go_meet
      exact HK4
  case rest =>
    clear HT1 H1 HS1 HK1 HB0
    have HW := hcut
    clear hcut
    go_wp2_with fail
    refine (HT2.out _ HW.out).mono ?_
    rintro x w2 ⟨A2, c2, rfl, hl2, k2⟩
    have hl3 := hl2.keep ((Below.refl _ _).alloc (Nat.le_refl _) (.cells #[.int .i64 T.k, .bool T.g, .int .u64 (T.n : Int), .string T.s, .slice A2 Tl c2] 25)) (Nat.le_refl _)
    have k3 := k2.on ((Below.refl _ _).alloc (Nat.le_refl _) (.cells #[.int .i64 T.k, .bool T.g, .int .u64 (T.n : Int), .string T.s, .slice A2 Tl c2] 25))
    obtain ⟨W3, hW3⟩ : ∃ W3, w2.alloc (.cells #[.int .i64 T.k, .bool T.g, .int .u64 (T.n : Int), .string T.s, .slice A2 Tl c2] 25) = W3 := ⟨_, rfl⟩
    have HBK : Hid (Bk W3 w2.heap.size 25 #[.int .i64 T.k, .bool T.g, .int .u64 (T.n : Int), .string T.s, .slice A2 Tl c2]) := Lib.hid (by rw [← hW3]; exact heap_alloc_last _ _)
    rw [hW3] at hl3 k3
    have HK3 := Lib.hid (And.intro hl3 k3)
    obtain ⟨x0, x1, x2, x3, x4⟩ := HBK.out.c5
    clear hl2 k2 hl3 k3 HW HT2
    by_cases hf0 : f = 0
    · have E2 := Lib.hid (HE2.out hf0)
      have K1 := Lib.hid (HC1.out hf0)
      have K2 := Lib.hid (HC2.out hf0)
      subst hf0
      clear HE2 HC1 HC2 HS2 HA
      go_wp2_with fail
      refine (E2.out _ _ _ HK3.out.2 HK3.out.1).mono ?_
      rintro x w4 ⟨A4, c4, rfl, r4, b4, k4⟩
      have HK4 := Lib.hid (And.intro r4 k4)
      have HL4 := Lib.hid (HK3.out.1.keep b4 (Nat.le_refl _))
      have HB4 := Lib.hid (HBK.out.below b4 HBK.out.lt)
      clear r4 b4 k4 x0 x1 x2 x3 x4 HK3 HBK hW3 E2
      go_wp2_with fail
      refine (HLS.out _ _ _ HK4.out.2 HK4.out.1).mono ?_
      rintro x w5 ⟨rfl, b5, k5⟩
      have HK5 := Lib.hid k5
      have HL5 := Lib.hid (HL4.out.keep b5 (Nat.le_refl _))
      have HB5 := Lib.hid (HB4.out.below b5 HB4.out.lt)
      obtain ⟨x0, x1, x2, x3, x4⟩ := HB5.out.c5
      clear b5 k5 HLS HK4 HL4 HB4
      go_wp2_with fail
      refine (K1.out _ _ _ HK5.out HL5.out).mono ?_
      rintro x w6 ⟨rfl, b6, k6⟩
      have HK6 := Lib.hid k6
      have HL6 := Lib.hid (HL5.out.keep b6 (Nat.le_refl _))
      have HB6 := Lib.hid (HB5.out.below b6 HB5.out.lt)
      clear x0 x1 x2 x3 x4
      obtain ⟨x0, x1, x2, x3, x4⟩ := HB6.out.c5
      clear b6 k6 K1 HK5 HL5 HB5
      go_wp2_with fail
      refine (K2.out _ _ _ HK6.out HL6.out).mono ?_
      rintro x w7 ⟨rfl, k7⟩
      have HK7 := Lib.hid k7.b
      clear k7 x0 x1 x2 x3 x4 K2 HK6 HL6 HB6
      go_wp2_with fail
      go_ret
      exact ⟨rfl, HK7.out⟩
    · have hf1 : ((f : Int) != 0) = true := by simp; omega
      have S2 := Lib.hid (HS2.out hf0)
      clear HE2 HC1 HC2 HS2 HLS hf0
      go_wp2_with fail
      refine (S2.out _ _ _ HK3.out.2 HK3.out.1).mono ?_
      rintro x w4 ⟨rfl, k4⟩
      have HK4 := Lib.hid k4
      clear k4 x0 x1 x2 x3 x4 HK3 HBK hW3 S2
      go_wp2_with fail
      refine (HA.out _ HK4.out).mono ?_
      rintro x w5 ⟨rfl, _, k5⟩
      have HK5 := Lib.hid k5.b
      clear k5 HA HK4
      go_wp2_with fail
      go_ret
      exact ⟨rfl, HK5.out⟩
theorem ev_wf {e : Ev} (h : evOk e) (hs : e.s.size ≤ maxLen) : wfE e := ⟨h.1, h.2.1, h.2.2, hs⟩
theorem backs9_any (t : VT) (C : Value) (Am : Option Addr) (M : List Ev) (cm : Nat) (w : World) (hC : Lst w C t.l) (hB : blk t ≤ 1048576) (hwf : wfT t) (hR : RdE w Am M) (hM : M.length ≤ 1048576) (hWM : ∀ e, e ∈ M → evOk e ∧ e.s.size ≤ maxLen) :
    Calls Try.prog 6 #[vv t C, .slice Am M.length cm] w fun r w' => r = .returned (.bool true) ∧ Below w.heap.size w w' :=
  back9_any t C Am M cm w hC hB hwf hR hM fun e he => ev_wf (hWM e he).1 (hWM e he).2
end Go.Proofs.Ythlpiaoofijfpaa.nn
