/- Joined texts, what is wanted of them: CborListsW. -/
import Derived.Test.YtfjdkpdljippnaaDoorProg
import Derived.WalkKit
import Derived.Lib.Hide
import Derived.WalkSpells
import Derived.Deep.QuietTactic
import Derived.BigQuiet
import Derived.Deep.RegionHeld3
import Derived.Laws.BitsAllLaws
import Derived.Test.YtfjdkpdljippnaaDoorShelf
import Derived.Deep.RegionWith
import Derived.IntWalk
import Derived.Deep.CutBlock
import Derived.Lib.MinMax
import Derived.StillTailTactics
import Derived.Test.YtfjdkpdljippnaaDoorJb
import Derived.Test.YtfjdkpdljippnaaDoorJa
import Derived.Test.YtfjdkpdljippnaaDoorJe
import Derived.Test.YtfjdkpdljippnaaDoorJs
import Derived.Test.YtfjdkpdljippnaaDoorJn
import Derived.Test.YtfjdkpdljippnaaDoorJo
import Derived.Test.YtfjdkpdljippnaaDoorJp
import Derived.Test.YtfjdkpdljippnaaDoorJk
import Derived.Test.YtfjdkpdljippnaaDoorJt
import Derived.Test.YtfjdkpdljippnaaDoorJf
import Derived.Test.YtfjdkpdljippnaaDoorJc
import Derived.Test.YtfjdkpdljippnaaDoorJh
import Derived.Test.YtfjdkpdljippnaaDoorJq
import Derived.Test.YtfjdkpdljippnaaDoorJr
import Derived.Test.YtfjdkpdljippnaaDoorJl
import Derived.Test.YtfjdkpdljippnaaDoorJm
namespace Go.Proofs.YtfjdkpdljippnaaDoor.nn
open Go.RowKit

/-- a list of two -/
def twoT (t u : VT) : VT := .mk 11 false 0 ⟨#[]⟩ [t, u]
theorem enE_zero {t : VT} : enE t = 0 ↔ chk t = 0 ∧ ext t = false := by
  unfold enE
  by_cases h : chk t = 0
  · rw [if_pos h]
    cases ext t <;> simp [h]
  · rw [if_neg h]
    simp [h]
theorem two_ok {t u : VT} (h : enE (twoT t u) = 0) : enE t = 0 ∧ enE u = 0 := by
  obtain ⟨h1, h2⟩ := enE_zero.1 h
  obtain ⟨d, c, r⟩ := chk_parts h1
  have hd : dep (twoT t u) = max (dep t) (max (dep u) 0) + 1 := rfl
  have hc : cnt (twoT t u) = cnt t + (cnt u + 0) + 1 := rfl
  have hx : ext (twoT t u) = (false || (ext t || (ext u || false))) := rfl
  have hr : rgt (twoT t u) = (oneB (twoT t u) && (!(lf 11) || decide ((2 : Nat) = 0)) && (rgt t && (rgt u && true))) := rfl
  rw [hr] at r
  rw [hx] at h2
  simp only [Bool.and_eq_true] at r
  simp only [Bool.or_eq_false_iff] at h2
  rw [hd] at d
  rw [hc] at c
  refine ⟨enE_zero.2 ⟨?_, h2.2.1⟩, enE_zero.2 ⟨?_, h2.2.2.1⟩⟩
  · unfold chk
    rw [if_neg (by omega), if_pos r.2.1]
  · unfold chk
    rw [if_neg (by omega), if_pos r.2.2.1]
theorem enL_zero {o : Bool} {t : VT} (h : enE t = 0) : enL o t = itB o t := by unfold enL; rw [if_pos (enE_zero.1 h)]
theorem enL_no {o : Bool} {t : VT} (h : enE t ≠ 0) : enL o t = [] := by unfold enL; rw [if_neg (fun h2 => h (enE_zero.2 h2))]
theorem two_text {t u : VT} (h : enE (twoT t u) = 0) : (⟨(enL false (twoT t u)).toArray⟩ : ByteArray) = (⟨#[130]⟩ : ByteArray) ++ ⟨(enL false t).toArray⟩ ++ ⟨(enL false u).toArray⟩ := by
  obtain ⟨h1, h2⟩ := two_ok h
  rw [enL_zero h, enL_zero h1, enL_zero h2]
  have e : itB false (twoT t u) = [130] ++ (itB false t ++ itB false u) := by
    show hdP 4 2 ++ (itB false t ++ (itB false u ++ []) ++ []) = _
    rw [show hdP 4 2 = [130] by decide +kernel, List.append_nil, List.append_nil]
  rw [e]
  apply ByteArray.ext
  simp [ByteArray.data_append]
theorem two_open {t u : VT} (h : enE (twoT t u) = 0) : (⟨(enL true (twoT t u)).toArray⟩ : ByteArray) = (⟨#[159]⟩ : ByteArray) ++ ⟨(enL true t).toArray⟩ ++ ⟨(enL true u).toArray⟩ ++ (⟨#[255]⟩ : ByteArray) := by
  obtain ⟨h1, h2⟩ := two_ok h
  rw [enL_zero h, enL_zero h1, enL_zero h2]
  have e : itB true (twoT t u) = [159] ++ (itB true t ++ itB true u) ++ [255] := by
    show [opP 4] ++ (itB true t ++ (itB true u ++ []) ++ [255]) = _
    rw [show opP 4 = 159 by decide +kernel, List.append_nil]
    simp only [List.append_assoc]
  rw [e]
  apply ByteArray.ext
  simp [ByteArray.data_append]
theorem enL_le (o : Bool) (t : VT) : (enL o t).length ≤ 20 * blk t := by
  unfold enL
  split
  · exact itB_le o t
  · simp
/-- what Encode answers, with its bytes as a text -/
theorem encode_txt (o : Bool) (x : Int) (y : Bool) (t : VT) (C : Value) (w : World) (hb : blk t ≤ 4000000) (hC : Lst w C t.l) (hwf : wfT t) (hg : Laid w) :
    Calls Tryd.prog 6 #[vv t C, .agg #[.bool o, .int .i64 x, .bool y]] w fun e w' => ∃ A c, e = .returned (.tuple #[.slice A (enL o t).length c, .int .i64 (enE t : Int)]) ∧ (∀ W, Below w'.heap.size w' W → (convert 28 9 (.slice A (enL o t).length c)).run Tryd.prog W = .ok (.string ⟨(enL o t).toArray⟩) W) ∧ Below w.heap.size w w' := by
  have h1 := cnt_blk t
  have h2 := smx_blk t
  have h3 := itB_le o t
  refine (encode_any o x y t C w (by omega) (by unfold maxLen; omega) hC hwf hg (by omega)).mono fun e w' ⟨A, c, he, _, _, hr, hb⟩ => ⟨A, c, he, fun W hW => ?_, hb⟩
  have := conv_row A (enL o t).length c (gL (enL o t)) W (hr.below hW)
  rw [pc_list] at this
  exact this
set_option maxRecDepth 100000 in
set_option maxHeartbeats 8000000 in
theorem clists_any (t : VT) (C : Value) (u : VT) (D : Value) (o : Bool) (w : World) (hC : Lst w C t.l) (hwt : wfT t) (hD : Lst w D u.l) (hwu : wfT u) (hb : blk t + blk u ≤ 1048576) (hg : Laid w) :
    Calls Tryd.prog 5 #[vv t C, vv u D, .bool o] w fun e w' => e = .returned (.bool true) ∧ Below w.heap.size w w' := by
  have HX := Box2.new w t C u D 25
  obtain ⟨W2, hW2⟩ : ∃ W2, (w.alloc (.cells #[.int .i64 t.k, .bool t.g, .int .u64 (t.n : Int), .string t.s, C] 25)).alloc (.cells #[.int .i64 u.k, .bool u.g, .int .u64 (u.n : Int), .string u.s, D] 25) = W2 := ⟨_, rfl⟩
  rw [hW2] at HX
  have hz2 : W2.heap.size = w.heap.size + 2 := by rw [← hW2]; simp
  obtain ⟨P, hP⟩ : ∃ P : World → Prop, P = fun W => Box2 w t C u D W ∧ W.heap[w.heap.size + 2]? = some (.cells #[.bool o, .int .i64 0, .bool false] 27 (0, 0)) := ⟨_, rfl⟩
  have HON : Hid (∀ W W', P W → Below W.heap.size W W' → P W') := Lib.hid fun W W' h hb => by
    rw [hP] at h ⊢
    exact ⟨h.1.on hb, (hb.block _ (lt_of_block h.2)).trans h.2⟩
  have HPB : Hid (∀ W, P W → Below w.heap.size w W) := Lib.hid fun W h => by rw [hP] at h; exact h.1.b
  have HPC : Hid (∀ W, P W → (Row W w.heap.size 0 t C ∧ Row W (w.heap.size + 1) 0 u D) ∧ W.cell? ⟨w.heap.size + 2, 0, none⟩ = some (.bool o) ∧ W.cell? ⟨w.heap.size + 2, 1, none⟩ = some (.int .i64 0) ∧ W.cell? ⟨w.heap.size + 2, 2, none⟩ = some (.bool false)) := Lib.hid fun W h => by
    rw [hP] at h
    exact ⟨⟨h.1.r, h.1.r2⟩, cell_of_row _ _ 0 _ _ _ h.2, cell_of_row _ _ 1 _ _ _ h.2, cell_of_row _ _ 2 _ _ _ h.2⟩
  obtain ⟨W3, hW3⟩ : ∃ W3, W2.alloc (.cells #[.bool o, .int .i64 0, .bool false] 27) = W3 := ⟨_, rfl⟩
  have HP3 : Hid (P W3) := Lib.hid (by
    rw [hP, ← hW3]
    refine ⟨HX.on ((Below.refl _ _).alloc (Nat.le_refl _) _), ?_⟩
    rw [← hz2]
    exact heap_alloc_last _ _)
  have H1 : Hid (∀ W, P W → Calls Tryd.prog 6 #[vv t C, .agg #[.bool o, .int .i64 0, .bool false]] W fun e w' => ∃ A c, e = .returned (.tuple #[.slice A (enL o t).length c, .int .i64 (enE t : Int)]) ∧ (∀ X, Below w'.heap.size w' X → (convert 28 9 (.slice A (enL o t).length c)).run Tryd.prog X = .ok (.string ⟨(enL o t).toArray⟩) X) ∧ Below W.heap.size W w' ∧ P w') := Lib.hid fun W hW =>
    (encode_txt o 0 false t C W (by omega) (hC.keep (HPB.out _ hW) (Nat.le_refl _)) hwt (hg.below (HPB.out _ hW))).mono fun e w' ⟨A, c, he, h2, h3⟩ => ⟨A, c, he, h2, h3, HON.out _ _ hW h3⟩
  have H2 : Hid (∀ W, P W → Calls Tryd.prog 6 #[vv u D, .agg #[.bool o, .int .i64 0, .bool false]] W fun e w' => ∃ A c, e = .returned (.tuple #[.slice A (enL o u).length c, .int .i64 (enE u : Int)]) ∧ (∀ X, Below w'.heap.size w' X → (convert 28 9 (.slice A (enL o u).length c)).run Tryd.prog X = .ok (.string ⟨(enL o u).toArray⟩) X) ∧ Below W.heap.size W w' ∧ P w') := Lib.hid fun W hW =>
    (encode_txt o 0 false u D W (by omega) (hD.keep (HPB.out _ hW) (Nat.le_refl _)) hwu (hg.below (HPB.out _ hW))).mono fun e w' ⟨A, c, he, h2, h3⟩ => ⟨A, c, he, h2, h3, HON.out _ _ hW h3⟩
  have H3 : Hid (∀ W c, P W → Calls Tryd.prog 6 #[.agg #[.int .i64 11, .bool false, .int .u64 0, .string ⟨#[]⟩, .slice (some ⟨W.heap.size, 0, none⟩) 2 2], .agg #[.bool o, .int .i64 0, .bool false]] (W.alloc (.cells #[.int .i64 t.k, .bool t.g, .int .u64 (t.n : Int), .string t.s, C, .int .i64 u.k, .bool u.g, .int .u64 (u.n : Int), .string u.s, D] c)) fun e w' => ∃ A c2, e = .returned (.tuple #[.slice A (enL o (twoT t u)).length c2, .int .i64 (enE (twoT t u) : Int)]) ∧ (∀ X, Below w'.heap.size w' X → (convert 28 9 (.slice A (enL o (twoT t u)).length c2)).run Tryd.prog X = .ok (.string ⟨(enL o (twoT t u)).toArray⟩) X) ∧ Below W.heap.size W w' ∧ P w') := Lib.hid fun W c hW => by
    have hbl : blk (twoT t u) = 0 + (blk t + (blk u + 1)) + 5 := rfl
    have hal := (Below.refl W.heap.size W).alloc (Nat.le_refl _) (.cells #[.int .i64 t.k, .bool t.g, .int .u64 (t.n : Int), .string t.s, C, .int .i64 u.k, .bool u.g, .int .u64 (u.n : Int), .string u.s, D] c)
    have hbw := (HPB.out _ hW).trans (hal.mono (HPB.out _ hW).size)
    have hL : Lst (W.alloc (.cells #[.int .i64 t.k, .bool t.g, .int .u64 (t.n : Int), .string t.s, C, .int .i64 u.k, .bool u.g, .int .u64 (u.n : Int), .string u.s, D] c)) (.slice (some ⟨W.heap.size, 0, none⟩) 2 2) [t, u] := by
      refine .at_ (C := fun i => if i = 0 then C else D) rfl (Nat.le_refl _) (by simp) (fun i hi => ?_) (fun i hi => ?_)
      · have : i = 0 ∨ i = 1 := by simp at hi; omega
        rcases this with rfl | rfl
        · exact ⟨by simp, by simp, by simp, by simp, by simp⟩
        · exact ⟨by simp, by simp, by simp, by simp, by simp⟩
      · have : i = 0 ∨ i = 1 := by simp at hi; omega
        rcases this with rfl | rfl
        · exact hC.keep hbw (Nat.le_refl _)
        · exact hD.keep hbw (Nat.le_refl _)
    refine (encode_txt o 0 false (twoT t u) _ _ (by rw [hbl]; omega) hL ⟨by decide, by decide, by decide, hwt, hwu, trivial⟩ (hg.below hbw)).mono fun e w' ⟨A, c, he, h2, h3⟩ => ⟨A, c, he, h2, hal.trans (h3.mono hal.size), HON.out _ _ hW (hal.trans (h3.mono hal.size))⟩
  have HA := Lib.hid (fun W (hW : Below w.heap.size w W) => awake11 W (hg.below hW))
  have hl1 := enL_le o t
  have hl2 := enL_le o u
  have hT0 : Hid (enE (twoT t u) = 0 → enE t = 0 ∧ enE u = 0) := Lib.hid two_ok
  have hT1 : Hid (enE (twoT t u) ≠ 0 → (enL o (twoT t u)).length = 0) := Lib.hid fun h => by rw [enL_no h]; rfl
  have hT2 : Hid (enE (twoT t u) = 0 → o = false → (⟨(enL o (twoT t u)).toArray⟩ : ByteArray) = (⟨#[130]⟩ : ByteArray) ++ ⟨(enL o t).toArray⟩ ++ ⟨(enL o u).toArray⟩) := Lib.hid fun h ho => by subst ho; exact two_text h
  have hT3 : Hid (enE (twoT t u) = 0 → o = true → (⟨(enL o (twoT t u)).toArray⟩ : ByteArray) = (⟨#[159]⟩ : ByteArray) ++ ⟨(enL o t).toArray⟩ ++ ⟨(enL o u).toArray⟩ ++ (⟨#[255]⟩ : ByteArray)) := Lib.hid fun h ho => by subst ho; exact two_open h
  have s1 : (⟨(enL o t).toArray⟩ : ByteArray).size = (enL o t).length := by show (enL o t).toArray.size = _; simp
  have s2 : (⟨(enL o u).toArray⟩ : ByteArray).size = (enL o u).length := by show (enL o u).toArray.size = _; simp
  obtain ⟨X1, hX1⟩ : ∃ X : ByteArray, (⟨(enL o t).toArray⟩ : ByteArray) = X := ⟨_, rfl⟩
  obtain ⟨X2, hX2⟩ : ∃ X : ByteArray, (⟨(enL o u).toArray⟩ : ByteArray) = X := ⟨_, rfl⟩
  obtain ⟨X3, hX3⟩ : ∃ X : ByteArray, (⟨(enL o (twoT t u)).toArray⟩ : ByteArray) = X := ⟨_, rfl⟩
  rw [hX1] at H1 hT2 hT3 s1
  rw [hX2] at H2 hT2 hT3 s2
  rw [hX3] at H3 hT2 hT3
  obtain ⟨n1, hn1⟩ : ∃ n, (enL o t).length = n := ⟨_, rfl⟩
  obtain ⟨n2, hn2⟩ : ∃ n, (enL o u).length = n := ⟨_, rfl⟩
  obtain ⟨n3, hn3⟩ : ∃ n, (enL o (twoT t u)).length = n := ⟨_, rfl⟩
  rw [hn1] at H1 s1 hl1
  rw [hn2] at H2 s2 hl2
  rw [hn3] at H3 hT1
  obtain ⟨e1, he1⟩ : ∃ n, enE t = n := ⟨_, rfl⟩
  obtain ⟨e2, he2⟩ : ∃ n, enE u = n := ⟨_, rfl⟩
  obtain ⟨e3, he3⟩ : ∃ n, enE (twoT t u) = n := ⟨_, rfl⟩
  rw [he1] at H1 hT0
  rw [he2] at H2 hT0
  rw [he3] at H3 hT0 hT1 hT2 hT3
  unfold vv at H1 H2 ⊢
  have hsz1 : X1.size ≤ 100000000 := by omega
  have hsz2 : X2.size ≤ 100000000 := by omega
  clear hP HX hz2 hX1 hX2 hX3 hn1 hn2 hn3 he1 he2 he3 hC hD hwt hwu hb hl1 hl2 s1 s2 hg
  have HW2 := Lib.hid hW2
  have HW3 := Lib.hid hW3
  clear hW2 hW3
  go_enter Tryd.func5, Tryd.ntmps5
  go_upto_region 2 with fail
  rw [HW2.out, HW3.out]
  clear HW2 HW3
  obtain ⟨⟨r1, r2⟩, o0, o1, o2⟩ := HPC.out _ HP3.out
  obtain ⟨a0, a1, a2, a3, a4⟩ := r1
  obtain ⟨b0, b1, b2, b3, b4⟩ := r2
  go_wp2_with fail
  refine (H1.out _ HP3.out).mono ?_
  rintro r w1 ⟨A1, c1, rfl, v1, k1, p1⟩
  have HV1 := Lib.hid v1
  have HP1 := Lib.hid p1
  clear a0 a1 a2 a3 a4 b0 b1 b2 b3 b4 o0 o1 o2 v1 k1 p1
  obtain ⟨⟨r1, r2⟩, o0, o1, o2⟩ := HPC.out _ HP1.out
  obtain ⟨a0, a1, a2, a3, a4⟩ := r1
  obtain ⟨b0, b1, b2, b3, b4⟩ := r2
  go_wp2_with fail
  refine (H2.out _ HP1.out).mono ?_
  rintro r w2 ⟨A2, c2, rfl, v2, k2, p2⟩
  have HV12 : Hid (∀ W, Below w2.heap.size w2 W → Below w1.heap.size w1 W) := Lib.hid fun W hW => k2.trans (hW.mono k2.size)
  have HV2 := Lib.hid v2
  have HP2 := Lib.hid p2
  clear a0 a1 a2 a3 a4 b0 b1 b2 b3 b4 o0 o1 o2 v2 k2 p2
  obtain ⟨⟨r1, r2⟩, o0, o1, o2⟩ := HPC.out _ HP2.out
  obtain ⟨a0, a1, a2, a3, a4⟩ := r1
  obtain ⟨b0, b1, b2, b3, b4⟩ := r2
  obtain ⟨_, x0, x1, x2⟩ := HPC.out _ (HON.out _ _ HP2.out ((Below.refl _ _).alloc (Nat.le_refl _) (.cells #[.int .i64 t.k, .bool t.g, .int .u64 (t.n : Int), .string t.s, C, .int .i64 u.k, .bool u.g, .int .u64 (u.n : Int), .string u.s, D] 25)))
  go_wp2_with fail
  refine (H3.out _ _ HP2.out).mono ?_
  rintro r w3 ⟨A3, c3, rfl, v3, k3, p3⟩
  have HV1' := Lib.hid (fun W (hW : Below w3.heap.size w3 W) => HV1.out W (HV12.out W (k3.trans (hW.mono k3.size))))
  have HV2' := Lib.hid (fun W (hW : Below w3.heap.size w3 W) => HV2.out W (k3.trans (hW.mono k3.size)))
  have HV3' := Lib.hid v3
  have HB3 := Lib.hid (HPB.out _ p3)
  clear a0 a1 a2 a3 a4 b0 b1 b2 b3 b4 o0 o1 o2 x0 x1 x2 v3 k3 p3 HV1 HV2 HV12 HP1 HP2 HP3 H1 H2 H3 HPC
  by_cases h3 : e3 = 0
  · obtain ⟨rfl, rfl⟩ := hT0.out h3
    have g1 := HV1'.out w3 (Below.refl _ _)
    have g2 := HV2'.out w3 (Below.refl _ _)
    have g3 := HV3'.out w3 (Below.refl _ _)
    cases o with
    | false =>
      have hx3 := hT2.out h3 rfl
      subst h3
      rw [hx3] at g3
      clear hT0 hT1 hT2 hT3 hx3 HV1' HV2' HV3'
      have l1 : ¬ 9223372036854775807 < 1 + X1.size := by omega
      have l2 : ¬ 9223372036854775807 < 1 + X1.size + X2.size := by omega
      go_wp2_with fail
      go_ret
      exact ⟨rfl, HB3.out⟩
    | true =>
      have hx3 := hT3.out h3 rfl
      subst h3
      rw [hx3] at g3
      clear hT0 hT1 hT2 hT3 hx3 HV1' HV2' HV3'
      have l1 : ¬ 9223372036854775807 < 1 + X1.size := by omega
      have l2 : ¬ 9223372036854775807 < 1 + X1.size + X2.size := by omega
      have l3 : ¬ 9223372036854775807 < 1 + X1.size + X2.size + 1 := by omega
      go_wp2_with fail
      go_ret
      exact ⟨rfl, HB3.out⟩
  · have hn : n3 = 0 := hT1.out h3
    have hne : ((e3 : Int) != 0) = true := by simp; omega
    subst hn
    have HAA := Lib.hid (HA.out w3 HB3.out)
    clear hT0 hT1 hT2 hT3 HV1' HV2' HV3' h3 HA
    go_wp2_with fail
    refine HAA.out.mono ?_
    rintro r w4 ⟨rfl, b4⟩
    have HB4 := Lib.hid (HB3.out.trans (b4.mono HB3.out.size))
    clear b4
    go_wp2_with fail
    go_ret
    exact ⟨rfl, HB4.out⟩
end Go.Proofs.YtfjdkpdljippnaaDoor.nn
