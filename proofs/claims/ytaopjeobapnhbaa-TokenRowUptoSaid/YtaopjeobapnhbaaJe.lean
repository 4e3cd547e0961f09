/- Joined texts, what is wanted of them: TkR, TkS, TkLaws, TokenNextsW, OpenS. -/
import Derived.Test.YtaopjeobapnhbaaProg
import Derived.WalkKit
import Derived.Lib.Hide
import Derived.Deep.CutBlock
import Derived.BigQuiet
import Derived.Deep.QuietTactic
import Derived.Deep.DeepCutAuto
import Derived.KernelRfl
import Derived.Below
import Derived.Deep.WholeRow
import Derived.Great.Walk
import Derived.Laws.BitsAllLaws
import Derived.RowKit
import Derived.IntWalk
import Derived.Test.YtaopjeobapnhbaaShelf
import Derived.Lib.MinMax
import Derived.Laws.BytesArg
import Derived.Laws.OwnMore
import Derived.Deep.AppendLies
import Derived.Deep.Draws
import Derived.Maps.AppendAt
import Derived.RegionTactic
import Derived.OwnWalk
import Derived.Deep.RegionLaw
import Derived.Lib.UnsafeStr
import Derived.Lib.AppendStr
import Derived.Lib.BitFns
import Derived.WalkSpells
import Derived.Laws.Rows
import Derived.Laws.Externs
import Derived.Deep.RegionHeld3
import Derived.Deep.RegionWith
import Derived.Deep.CutRange
import Derived.Deep.LoopGhost
import Derived.Laws.BitsLemmas
import Derived.Shelf.Spec.BitsCarry
import Derived.Laws.Bits64
import Derived.Laws.CopyOwn
import Derived.StillTailTactics
import Derived.Lib.Builder
import Derived.Lib.MakeNoZero
import Derived.OneCell
import Derived.BigRegion
import Derived.Test.YtaopjeobapnhbaaShelfR
import Derived.RangeFuncNested
import Derived.RangeFuncBound
import Derived.RangeFuncCalls
import Derived.RangeFuncLeaves
import Derived.Shelf.Abstract
import Derived.Shelf.RegionOpen
import Derived.OwnWalkIn
import Derived.TacticsInMore
import Derived.Laws.AppendOwn
import Derived.Maps.OwnIn
import Derived.RangeFuncBox
import Derived.Test.YtaopjeobapnhbaaRows
import Derived.ProofKit
import Derived.SizedLaws
import Derived.ChangeMaps5
import Derived.Test.YtaopjeobapnhbaaJd
namespace Go.Proofs.Ytaopjeobapnhbaa.nn
open Go.RowKit

set_option maxRecDepth 100000 in
set_option maxHeartbeats 1000000 in
theorem rskip_any (s : ByteArray) (i : Nat) (w : World) (hs : s.size ≤ 4611686018427387904) (hi : i ≤ s.size) :
    Calls Try.prog 15 #[.string s, .int .i64 (i : Int)] w fun e w' => e = .returned (.int .i64 (sk (bt s) s.size i : Int)) ∧ Below w.heap.size w w' := by
  have HI := Lib.hid hi
  obtain ⟨J, hJ⟩ : ∃ J, sk (bt s) s.size i = J := ⟨_, rfl⟩
  have HJ := Lib.hid hJ
  rw [hJ]
  clear hJ
  go_enter Try.func15, Try.ntmps15
  go_wp2_with fail
  go_loopw [1] (fun s1 wr => ∃ j : Nat, j ≤ s.size ∧ s1 = .int .i64 (j : Int) ∧ Hid (i ≤ j ∧ ∀ m, i ≤ m → m < j → blnk (bt s m) = true) ∧ Hid (Below w.heap.size w wr)) (fun s1 _ => s.size - (intOf s1).toNat)
  case atStart => exact ⟨i, hi, rfl, Lib.hid ⟨Nat.le_refl _, fun m h1 h2 => by omega⟩, Lib.hid (Below.refl _ _)⟩
  case round =>
    obtain ⟨j, hj, rfl, HM, HB⟩ := hrel
    by_cases hlt : j < s.size
    · have hx := bt_at hlt
      obtain ⟨x, hxx⟩ : ∃ x, (s[j]).toNat = x := ⟨_, rfl⟩
      rw [hxx] at hx
      have hb5 : (x = 9 ∨ x = 10 ∨ x = 13 ∨ x = 32) ∨ (blnk x = false ∧ ((x : Int) == 9) = false ∧ ((x : Int) == 10) = false ∧ ((x : Int) == 13) = false ∧ ((x : Int) == 32) = false) := by
        by_cases h : x = 9 ∨ x = 10 ∨ x = 13 ∨ x = 32
        · exact .inl h
        · exact .inr ⟨by unfold blnk; exact decide_eq_false h, by simp; omega, by simp; omega, by simp; omega, by simp; omega⟩
      rcases hb5 with hb4 | ⟨hb, q1, q2, q3, q4⟩
      · have HM2 : Hid (i ≤ j + 1 ∧ ∀ m, i ≤ m → m < j + 1 → blnk (bt s m) = true) := Lib.hid ⟨by have := HM.out.1; omega, fun m h1 h2 => by
          by_cases e : m = j
          · rw [e, hx]; unfold blnk; exact decide_eq_true hb4
          · exact HM.out.2 m h1 (by omega)⟩
        have f1 : wrap64 ((j : Int) + 1) = (j : Int) + 1 := by unfold wrap64; omega
        clear hx HM
        rcases hb4 with rfl | rfl | rfl | rfl
        all_goals
          go_wp2_with fail
          go_roundw
          case rel => exact ⟨j + 1, by omega, by go_num, HM2, by first | exact HB | exact Lib.hid (drew_below HB.out _)⟩
          case measure => simp [intOf]; omega
      · have HV : Hid (J = j) := Lib.hid (by rw [← HJ.out]; exact sk_of HM.out.1 (Nat.le_of_lt hlt) HM.out.2 fun _ => by rw [hx]; exact hb)
        clear hx hb HM
        go_wp2_with fail
        go_ret
        exact ⟨by rw [HV.out]; rfl, by first | exact HB.out | exact drew_below HB.out _⟩
    · obtain rfl : j = s.size := by omega
      have HV : Hid (J = s.size) := Lib.hid (by rw [← HJ.out]; exact sk_of HM.out.1 (Nat.le_refl _) HM.out.2 fun h => absurd h (by omega))
      clear HM hlt
      go_wp2_with fail
      go_ret
      exact ⟨by rw [HV.out]; rfl, by first | exact HB.out | exact drew_below HB.out _⟩
def kdF (c : Nat) : Nat := if isW c = true then c else if c = 34 then 83 else if c = 45 ∨ (48 ≤ c ∧ c ≤ 57) then 78 else 63
set_option maxRecDepth 100000 in
set_option maxHeartbeats 4000000 in
theorem rkind_any (c : Nat) (w : World) : Calls Try.prog 16 #[.int .u8 (c : Int)] w fun e w' => e = .returned (.int .u8 (kdF c : Int)) ∧ w = w' := by
  by_cases h91 : c = 91
  · subst h91
    have hk : kdF 91 = 91 := by decide
    rw [hk]
    go_enter Try.func16, Try.ntmps16
    go_wp2_with fail
    go_ret
    exact ⟨rfl, rfl⟩
  by_cases h93 : c = 93
  · subst h93
    have hk : kdF 93 = 93 := by decide
    rw [hk]
    go_enter Try.func16, Try.ntmps16
    go_wp2_with fail
    go_ret
    exact ⟨rfl, rfl⟩
  by_cases h123 : c = 123
  · subst h123
    have hk : kdF 123 = 123 := by decide
    rw [hk]
    go_enter Try.func16, Try.ntmps16
    go_wp2_with fail
    go_ret
    exact ⟨rfl, rfl⟩
  by_cases h125 : c = 125
  · subst h125
    have hk : kdF 125 = 125 := by decide
    rw [hk]
    go_enter Try.func16, Try.ntmps16
    go_wp2_with fail
    go_ret
    exact ⟨rfl, rfl⟩
  by_cases h58 : c = 58
  · subst h58
    have hk : kdF 58 = 58 := by decide
    rw [hk]
    go_enter Try.func16, Try.ntmps16
    go_wp2_with fail
    go_ret
    exact ⟨rfl, rfl⟩
  by_cases h44 : c = 44
  · subst h44
    have hk : kdF 44 = 44 := by decide
    rw [hk]
    go_enter Try.func16, Try.ntmps16
    go_wp2_with fail
    go_ret
    exact ⟨rfl, rfl⟩
  by_cases h110 : c = 110
  · subst h110
    have hk : kdF 110 = 110 := by decide
    rw [hk]
    go_enter Try.func16, Try.ntmps16
    go_wp2_with fail
    go_ret
    exact ⟨rfl, rfl⟩
  by_cases h116 : c = 116
  · subst h116
    have hk : kdF 116 = 116 := by decide
    rw [hk]
    go_enter Try.func16, Try.ntmps16
    go_wp2_with fail
    go_ret
    exact ⟨rfl, rfl⟩
  by_cases h102 : c = 102
  · subst h102
    have hk : kdF 102 = 102 := by decide
    rw [hk]
    go_enter Try.func16, Try.ntmps16
    go_wp2_with fail
    go_ret
    exact ⟨rfl, rfl⟩
  by_cases h34 : c = 34
  · subst h34
    have hk : kdF 34 = 83 := by decide
    rw [hk]
    go_enter Try.func16, Try.ntmps16
    go_wp2_with fail
    go_ret
    exact ⟨rfl, rfl⟩
  by_cases h45 : c = 45
  · subst h45
    have hk : kdF 45 = 78 := by decide
    rw [hk]
    go_enter Try.func16, Try.ntmps16
    go_wp2_with fail
    go_ret
    exact ⟨rfl, rfl⟩
  by_cases h48 : c = 48
  · subst h48
    have hk : kdF 48 = 78 := by decide
    rw [hk]
    go_enter Try.func16, Try.ntmps16
    go_wp2_with fail
    go_ret
    exact ⟨rfl, rfl⟩
  by_cases h49 : c = 49
  · subst h49
    have hk : kdF 49 = 78 := by decide
    rw [hk]
    go_enter Try.func16, Try.ntmps16
    go_wp2_with fail
    go_ret
    exact ⟨rfl, rfl⟩
  by_cases h50 : c = 50
  · subst h50
    have hk : kdF 50 = 78 := by decide
    rw [hk]
    go_enter Try.func16, Try.ntmps16
    go_wp2_with fail
    go_ret
    exact ⟨rfl, rfl⟩
  by_cases h51 : c = 51
  · subst h51
    have hk : kdF 51 = 78 := by decide
    rw [hk]
    go_enter Try.func16, Try.ntmps16
    go_wp2_with fail
    go_ret
    exact ⟨rfl, rfl⟩
  by_cases h52 : c = 52
  · subst h52
    have hk : kdF 52 = 78 := by decide
    rw [hk]
    go_enter Try.func16, Try.ntmps16
    go_wp2_with fail
    go_ret
    exact ⟨rfl, rfl⟩
  by_cases h53 : c = 53
  · subst h53
    have hk : kdF 53 = 78 := by decide
    rw [hk]
    go_enter Try.func16, Try.ntmps16
    go_wp2_with fail
    go_ret
    exact ⟨rfl, rfl⟩
  by_cases h54 : c = 54
  · subst h54
    have hk : kdF 54 = 78 := by decide
    rw [hk]
    go_enter Try.func16, Try.ntmps16
    go_wp2_with fail
    go_ret
    exact ⟨rfl, rfl⟩
  by_cases h55 : c = 55
  · subst h55
    have hk : kdF 55 = 78 := by decide
    rw [hk]
    go_enter Try.func16, Try.ntmps16
    go_wp2_with fail
    go_ret
    exact ⟨rfl, rfl⟩
  by_cases h56 : c = 56
  · subst h56
    have hk : kdF 56 = 78 := by decide
    rw [hk]
    go_enter Try.func16, Try.ntmps16
    go_wp2_with fail
    go_ret
    exact ⟨rfl, rfl⟩
  by_cases h57 : c = 57
  · subst h57
    have hk : kdF 57 = 78 := by decide
    rw [hk]
    go_enter Try.func16, Try.ntmps16
    go_wp2_with fail
    go_ret
    exact ⟨rfl, rfl⟩
  have hk : kdF c = 63 := by
    unfold kdF isW
    rw [if_neg (by rw [decide_eq_true_iff]; omega), if_neg h34, if_neg (by omega)]
  rw [hk]
  have q91 : ((c : Int) == 91) = false := by simp; omega
  have q93 : ((c : Int) == 93) = false := by simp; omega
  have q123 : ((c : Int) == 123) = false := by simp; omega
  have q125 : ((c : Int) == 125) = false := by simp; omega
  have q58 : ((c : Int) == 58) = false := by simp; omega
  have q44 : ((c : Int) == 44) = false := by simp; omega
  have q110 : ((c : Int) == 110) = false := by simp; omega
  have q116 : ((c : Int) == 116) = false := by simp; omega
  have q102 : ((c : Int) == 102) = false := by simp; omega
  have q34 : ((c : Int) == 34) = false := by simp; omega
  have q45 : ((c : Int) == 45) = false := by simp; omega
  have q48 : ((c : Int) == 48) = false := by simp; omega
  have q49 : ((c : Int) == 49) = false := by simp; omega
  have q50 : ((c : Int) == 50) = false := by simp; omega
  have q51 : ((c : Int) == 51) = false := by simp; omega
  have q52 : ((c : Int) == 52) = false := by simp; omega
  have q53 : ((c : Int) == 53) = false := by simp; omega
  have q54 : ((c : Int) == 54) = false := by simp; omega
  have q55 : ((c : Int) == 55) = false := by simp; omega
  have q56 : ((c : Int) == 56) = false := by simp; omega
  have q57 : ((c : Int) == 57) = false := by simp; omega
  clear hk h91 h93 h123 h125 h58 h44 h110 h116 h102 h34 h45 h48 h49 h50 h51 h52 h53 h54 h55 h56 h57
  go_enter Try.func16, Try.ntmps16
  go_wp2_with fail
  go_ret
  exact ⟨rfl, rfl⟩
set_option maxRecDepth 100000 in
set_option maxHeartbeats 4000000 in
theorem rword_any (c : Nat) (w : World) (hc : isW c = true) : Calls Try.prog 19 #[.int .u8 (c : Int)] w fun e w' => e = .returned (.string (wd c)) ∧ Below w.heap.size w w' := by
  unfold isW at hc
  have hc := of_decide_eq_true hc
  have H := Lib.hid (fun o => (Below.refl w.heap.size w).alloc (Nat.le_refl _) o)
  by_cases hw : c = 110 ∨ c = 116 ∨ c = 102
  · clear hc
    rcases hw with rfl | rfl | rfl
    all_goals
      go_enter Try.func19, Try.ntmps19
      go_wp2_with fail
      go_ret
      exact ⟨rfl, Below.refl _ _⟩
  have hv : wd c = ⟨#[UInt8.ofNat c]⟩ := by unfold wd; rw [if_neg (by omega), if_neg (by omega), if_neg (by omega)]
  have HV := Lib.hid hv
  have q0 : ((c : Int) == 110) = false := by simp; omega
  have q1 : ((c : Int) == 116) = false := by simp; omega
  have q2 : ((c : Int) == 102) = false := by simp; omega
  have kc := conv_new w [(c : Int)] 1 rfl
  simp only [List.map_cons, List.map_nil] at kc
  clear hc hw hv
  go_enter Try.func19, Try.ntmps19
  go_wp2_with fail
  go_ret
  exact ⟨by rw [HV.out]; exact congrArg (fun x => Ending.returned (.string x)) (str_of rfl), H.out _⟩
theorem nm_none {s : ByteArray} (h : 0 < s.size) (hx : bt s 0 ≠ 45 ∧ ¬ (48 ≤ bt s 0 ∧ bt s 0 ≤ 57)) : nmp s = 0 ∧ nme s = 4 := by
  have h9 : nq (bt s) (0 + 1) = 9 := by
    show nst 0 (bt s 0) = 9
    rw [nst_0 _ (bt_lt s 0), if_neg (by rw [decide_eq_true_iff]; exact hx.1), if_neg (by rw [decide_eq_true_iff]; omega), if_neg (by rw [decide_eq_true_iff]; omega)]
  have hn : NmIs s 0 4 := ⟨Nat.zero_le _, by show (0 : Nat) ≠ 9; decide, fun _ => h9, by
    have h2 : ¬ nacc (nq (bt s) 0) = true := by show ¬ nacc 0 = true; decide
    rw [if_neg h2, if_neg (by omega)]⟩
  obtain ⟨a, b⟩ := nm_of hn
  exact ⟨a.symm, b.symm⟩
theorem ext_ext {s : ByteArray} {j p : Nat} (hp : j + p ≤ s.size) : (s.extract j s.size).extract 0 p = s.extract j (j + p) := by
  have hz : (s.extract j s.size).size = s.size - j := by rw [ByteArray.size_extract]; omega
  apply ByteArray.ext_getElem
  · simp only [ByteArray.size_extract]; omega
  · intro i h1 h2
    rw [ByteArray.getElem_extract, ByteArray.getElem_extract, ByteArray.getElem_extract]
    congr 1
    omega
end Go.Proofs.Ytaopjeobapnhbaa.nn
namespace Go.Proofs.Ytaopjeobapnhbaa.nn
open Go.RowKit

/-- a token that is being made, in block g -/
def Tc (W : World) (g K j : Nat) : Prop :=
  (W.cell? ⟨g, 0, none⟩ = some (.int .u8 (K : Int)) ∧ W.frozen? ⟨g, 0, none⟩ = false) ∧ (W.cell? ⟨g, 1, none⟩ = some (.int .i64 (j : Int)) ∧ W.frozen? ⟨g, 1, none⟩ = false) ∧
  (W.cell? ⟨g, 2, none⟩ = some (.int .i64 0) ∧ W.frozen? ⟨g, 2, none⟩ = false) ∧ (W.cell? ⟨g, 3, none⟩ = some (.string ⟨#[]⟩) ∧ W.frozen? ⟨g, 3, none⟩ = false)
theorem Tc.of {W : World} {g K j : Nat} {T : TypeId} (h : W.heap[g]? = some (.cells #[.int .u8 (K : Int), .int .i64 (j : Int), .int .i64 0, .string ⟨#[]⟩] T (0, 0))) : Tc W g K j := by
  have hf : ∀ i, W.frozen? ⟨g, i, none⟩ = false := fun i => by simp [World.frozen?, h]
  exact ⟨⟨cell_of_row _ _ 0 _ _ _ h, hf 0⟩, ⟨cell_of_row _ _ 1 _ _ _ h, hf 1⟩, ⟨cell_of_row _ _ 2 _ _ _ h, hf 2⟩, ⟨cell_of_row _ _ 3 _ _ _ h, hf 3⟩⟩
theorem two_tk {w W0 : World} (K j : Nat) (T : TypeId) (hb0 : Below w.heap.size w W0) (k0 : W0.heap[w.heap.size]? = some (.cells #[.int .u8 0, .int .i64 0, .int .i64 0, .string ⟨#[]⟩] T (0, 0))) :
    ∀ W, Below (W0.heap.size + 1) (W0.alloc (.cells #[.int .u8 (K : Int), .int .i64 (j : Int), .int .i64 0, .string ⟨#[]⟩] T)) W → (Tt W w.heap.size ∧ Tc W W0.heap.size K j ∧ w.heap.size < W0.heap.size ∧ W0.heap.size < W.heap.size) ∧ Below w.heap.size w W := by
  intro W h
  have hlt := lt_of_block k0
  have h1 : Below W0.heap.size W0 (W0.alloc (.cells #[.int .u8 (K : Int), .int .i64 (j : Int), .int .i64 0, .string ⟨#[]⟩] T)) := (Below.refl _ _).alloc (Nat.le_refl _) _
  have hz : (W0.alloc (.cells #[.int .u8 (K : Int), .int .i64 (j : Int), .int .i64 0, .string ⟨#[]⟩] T)).heap.size = W0.heap.size + 1 := by simp
  have hs := h.size
  rw [hz] at hs
  refine ⟨⟨Tt.of ((h.block _ (by omega)).trans ((h1.block _ hlt).trans k0)), Tc.of ((h.block _ (by omega)).trans (heap_alloc_last _ _)), hlt, by omega⟩, hb0.trans ((h1.mono (Nat.le_of_lt hlt)).trans (h.mono (by omega)))⟩
theorem wrap_one {i2 n : Nat} (h : i2 ≤ n) (hn : n ≤ 140737488355000) : wrap64 ((i2 : Int) + 1) = ((i2 + 1 : Nat) : Int) := by
  unfold wrap64
  omega
theorem esmeas {a b n : Nat} {z : Int} (h : z = (b : Int)) (hm : n - b < n - a) : n - (intOf (.int .i64 z)).toNat < n - (intOf (.int .i64 (a : Int))).toNat := by
  subst h
  exact hm
theorem num_add {j p q n : Nat} (h : j + p = q) (hp : p ≤ n - j) (hj : j ≤ n) (hn : n ≤ 140737488355000) : wrap64 ((j : Int) + (p : Int)) = (q : Int) ∧ (j : Int) ≤ (q : Int) ∧ (q : Int) ≤ (n : Int) := by
  refine ⟨?_, by omega, by omega⟩
  unfold wrap64
  omega
section
variable {w : World}
set_option maxRecDepth 100000 in
set_option maxHeartbeats 8000000 in
theorem rtnext_out (s : ByteArray) (z : Int) (h : z < 0 ∨ (s.size : Int) < z) : Calls Try.prog 8 #[.string s, .int .i64 z] w fun e w' => e = .returned nxO ∧ Below w.heap.size w w' := by
  obtain ⟨W0, hW0⟩ : ∃ W0, w.alloc (.cells #[.int .u8 0, .int .i64 0, .int .i64 0, .string ⟨#[]⟩] 27) = W0 := ⟨_, rfl⟩
  have k0 : W0.heap[w.heap.size]? = some (.cells #[.int .u8 0, .int .i64 0, .int .i64 0, .string ⟨#[]⟩] 27 (0, 0)) := by rw [← hW0]; exact heap_alloc_last _ _
  have HBW : Hid (Below w.heap.size w W0) := Lib.hid (by rw [← hW0]; exact (Below.refl _ _).alloc (Nat.le_refl _) _)
  have HW0 := Lib.hid hW0
  obtain ⟨⟨bc0, bf0⟩, ⟨bc1, bf1⟩, ⟨bc2, bf2⟩, ⟨bc3, bf3⟩⟩ := Tt.of k0
  have hg : decide (z < 0) = true ∨ (decide (z < 0) = false ∧ decide ((s.size : Int) < z) = true) := by
    by_cases h1 : z < 0
    · exact .inl (decide_eq_true h1)
    · exact .inr ⟨decide_eq_false h1, decide_eq_true (by omega)⟩
  clear hW0 k0 h
  rcases hg with g1 | ⟨g1, g2⟩
  all_goals
    go_enter Try.func8, Try.ntmps8
    go_upto_region 1 with fail
    rw [HW0.out]
    clear HW0
    go_wp2_with fail
    exact bodyPost_ret (v := nxO) (by simp [results, Try.results8, go_sem, nxO, TkV, bc0, bc1, bc2, bc3]) rfl ⟨rfl, by first | exact below_set4 HBW.out (Nat.le_refl _) _ _ _ _ | exact Below.drew (below_set4 HBW.out (Nat.le_refl _) _ _ _ _)⟩
set_option maxRecDepth 100000 in
set_option maxHeartbeats 8000000 in
theorem rtnext_any (s : ByteArray) (i : Nat) (hs : s.size ≤ 140737488355000) (hi : i ≤ s.size) : Calls Try.prog 8 #[.string s, .int .i64 (i : Int)] w fun e w' => e = .returned (nxV (nxR s i)) ∧ Below w.heap.size w w' := by
  obtain ⟨W0, hW0⟩ : ∃ W0, w.alloc (.cells #[.int .u8 0, .int .i64 0, .int .i64 0, .string ⟨#[]⟩] 27) = W0 := ⟨_, rfl⟩
  have k0 : W0.heap[w.heap.size]? = some (.cells #[.int .u8 0, .int .i64 0, .int .i64 0, .string ⟨#[]⟩] 27 (0, 0)) := by rw [← hW0]; exact heap_alloc_last _ _
  have hb0 : Below w.heap.size w W0 := by rw [← hW0]; exact (Below.refl _ _).alloc (Nat.le_refl _) _
  have hlt0 : w.heap.size < W0.heap.size := by rw [← hW0]; simp
  have HZB : Hid (∀ W, Below W0.heap.size W0 W → (Tt W w.heap.size ∧ w.heap.size < W.heap.size) ∧ (Below w.heap.size w W ∧ W.heap[w.heap.size]? = some (.cells #[.int .u8 0, .int .i64 0, .int .i64 0, .string ⟨#[]⟩] 27 (0, 0)))) := Lib.hid fun W h => ⟨⟨Tt.of ((h.block w.heap.size hlt0).trans k0), Nat.lt_of_lt_of_le hlt0 h.size⟩, hb0.trans (h.mono (Nat.le_of_lt hlt0)), (h.block w.heap.size hlt0).trans k0⟩
  have HW0 := Lib.hid hW0
  obtain ⟨hj1, hj2⟩ := sk_le (f := bt s) hi
  have HBB := Lib.hid (fun W => rskip_any s i W (by omega) hi)
  obtain ⟨R, hR⟩ : ∃ R, nxR s i = R := ⟨_, rfl⟩
  have HR := Lib.hid hR
  unfold nxR at HR
  rw [hR]
  obtain ⟨j, hj⟩ : ∃ j, sk (bt s) s.size i = j := ⟨_, rfl⟩
  rw [hj] at hj1 hj2 HBB HR
  obtain ⟨et, ez⟩ := bt_tail (s := s) (a := j) hj2
  have g0 : decide ((i : Int) < 0) = false := decide_eq_false (by omega)
  have g1 : decide ((s.size : Int) < (i : Int)) = false := decide_eq_false (by omega)
  have g2 : (j : Int) ≤ (s.size : Int) := by omega
  clear hR hW0 k0 hb0 hlt0 hj hi
  by_cases hjn : j = s.size
  · have HV : Hid (R = .ok ⟨0, s.size, s.size, ⟨#[]⟩⟩ s.size) := Lib.hid (by
      have h7 := HR.out
      have h8 : rdR (s.extract j s.size) = .ok (0, ⟨#[]⟩) 0 := by unfold rdR; rw [if_pos (by omega)]
      rw [h8] at h7
      rw [← h7, hjn]; rfl)
    subst hjn
    clear HR et ez
    go_enter Try.func8, Try.ntmps8
    go_upto_region 1 with fail
    rw [HW0.out]
    clear HW0
    go_wp2_with fail
    refine (HBB.out _).mono ?_
    rintro r w1 ⟨rfl, b1⟩
    have HB1 : Hid (Below W0.heap.size W0 w1) := Lib.hid (by first | exact b1 | exact (drew_below (Below.refl _ _) _).trans b1)
    clear HBB b1
    obtain ⟨⟨⟨⟨bc0, bf0⟩, ⟨bc1, bf1⟩, ⟨bc2, bf2⟩, ⟨bc3, bf3⟩⟩, hl2⟩, hbw⟩ := HZB.out _ HB1.out
    have HBW := Lib.hid hbw.1
    clear hbw HZB
    go_wp2_with fail
    refine bodyPost_ret (v := .tuple #[TkV 0 s.size s.size ⟨#[]⟩, .int .i64 (s.size : Int), .int .i64 0]) ?_ rfl ⟨by rw [HV.out]; rfl, ?_⟩
    · simp [results, Try.results8, go_sem, TkV, bc0, bc1, bc2, bc3]
    · first | exact below_set4 HBW.out (Nat.le_refl _) _ _ _ _ | exact Below.drew (below_set4 HBW.out (Nat.le_refl _) _ _ _ _)
  have hlt : j < s.size := by omega
  have hx := bt_at hlt
  obtain ⟨x, hxx⟩ : ∃ x, (s[j]).toNat = x := ⟨_, rfl⟩
  rw [hxx] at hx
  have hx256 : x < 256 := by rw [← hxx]; exact s[j].toNat_lt
  have hjf : ((j : Int) == (s.size : Int)) = false := by simp; omega
  have HK := Lib.hid (fun W => rkind_any x W)
  obtain ⟨K, hK⟩ : ∃ K, kdF x = K := ⟨_, rfl⟩
  rw [hK] at HK
  have h0 : bt (s.extract j s.size) 0 = x := by rw [et]; simp only [sh]; rw [Nat.add_zero]; exact hx
  by_cases hq : K = 63
  · subst hq
    have HV : Hid (R = .no j 4) := Lib.hid (by
      have h7 := HR.out
      have hw : isW x = false := by
        cases h : isW x with
        | false => rfl
        | true => unfold kdF at hK; rw [if_pos h] at hK; subst hK; exact absurd h (by decide)
      have h34 : x ≠ 34 := fun h => by unfold kdF at hK; rw [hw, if_neg (by decide), if_pos h] at hK; cases hK
      have hnum : ¬ (x = 45 ∨ (48 ≤ x ∧ x ≤ 57)) := fun h => by unfold kdF at hK; rw [hw, if_neg (by decide), if_neg h34, if_pos h] at hK; cases hK
      obtain ⟨n1, n2⟩ := nm_none (s := s.extract j s.size) (by omega) (by rw [h0]; omega)
      have h8 : rdR (s.extract j s.size) = .no 0 4 := by unfold rdR; rw [if_neg (by omega), h0, hw, if_neg (by decide), if_neg h34, n1, n2, if_neg (by decide)]
      rw [h8] at h7
      exact h7.symm)
    clear HR et ez hx hK h0 hjn
    go_enter Try.func8, Try.ntmps8
    go_upto_region 1 with fail
    rw [HW0.out]
    clear HW0
    go_wp2_with fail
    refine (HBB.out _).mono ?_
    rintro r w1 ⟨rfl, b1⟩
    have HB1 : Hid (Below W0.heap.size W0 w1) := Lib.hid (by first | exact b1 | exact (drew_below (Below.refl _ _) _).trans b1)
    clear HBB b1
    obtain ⟨⟨⟨⟨bc0, bf0⟩, ⟨bc1, bf1⟩, ⟨bc2, bf2⟩, ⟨bc3, bf3⟩⟩, hl2⟩, hbw⟩ := HZB.out _ HB1.out
    have HBW := Lib.hid hbw
    clear hbw HZB
    go_wp2_with fail
    refine (HK.out _).mono ?_
    rintro r w2 ⟨rfl, rfl⟩
    clear HK
    go_wp2_with fail
    refine bodyPost_ret (v := .tuple #[TkV 0 0 0 ⟨#[]⟩, .int .i64 (j : Int), .int .i64 4]) ?_ rfl ⟨by rw [HV.out]; rfl, ?_⟩
    · simp [results, Try.results8, go_sem, TkV, bc0, bc1, bc2, bc3, hl2]
    · first | exact (below_set4 HBW.out.1 (Nat.le_refl _) _ _ _ _).alloc (by simp; omega) _ | exact Below.drew ((below_set4 HBW.out.1 (Nat.le_refl _) _ _ _ _).alloc (by simp; omega) _)
  by_cases hq2 : K = 83
  · subst hq2
    have hx34 : isW x = false ∧ x = 34 := by
      unfold kdF at hK
      cases h : isW x with
      | true => rw [if_pos h] at hK; subst hK; exact absurd h (by decide)
      | false =>
        rw [h, if_neg (by decide)] at hK
        by_cases h1 : x = 34
        · exact ⟨rfl, h1⟩
        · rw [if_neg h1] at hK; split at hK <;> cases hK
    obtain ⟨S, hS⟩ : ∃ S, scanP (sh (bt s) j) (s.size - j) 0 = S := ⟨_, rfl⟩
    have hsz : rsK S ≤ s.size - j := by
      rw [← hS]
      cases h : scanP (sh (bt s) j) (s.size - j) 0 with
      | ok L k => exact (det_scan.ok (Nat.zero_le _) h).2.1
      | no q e => exact det_no_le det_scan (Nat.zero_le _) h
    have HS := Lib.hid (fun W => rscan_any (s.extract j s.size) W (by omega) (by rw [et, ez, hS]; omega))
    rw [et, ez, hS] at HS
    unfold EscAns at HS
    have HV : Hid ((match stR S with | .ok y p => .ok ⟨y.1, j, j + p, y.2⟩ (j + p) | .no q e => .no (j + q) e) = R) := Lib.hid (by
      have h7 := HR.out
      have h8 : rdR (s.extract j s.size) = stR S := by
        unfold rdR
        rw [if_neg (by omega), h0, hx34.1, if_neg (by decide), if_pos hx34.2, et, ez, hS]
        cases S <;> rfl
      rw [h8] at h7
      exact h7)
    clear HR et ez hx hK h0 hjn hx34 hq
    cases S with
    | no q e =>
      have he : e ≠ 0 := by have := eser_scan hS; omega
      have hq : q ≤ s.size - j := hsz
      have HV2 : Hid (R = .no (j + q) e) := Lib.hid HV.out.symm
      have HS2 : Hid (∀ W, Calls Try.prog 17 #[.string (s.extract j s.size)] W fun r w' => r = .returned (.tuple #[.string ⟨#[]⟩, .int .i64 (q : Int), .int .i64 (e : Int)]) ∧ Below W.heap.size W w') := Lib.hid HS.out
      have k1 : ((e : Int) != 0) = true := by simp; omega
      have f1 : wrap64 ((j : Int) + (q : Int)) = (j : Int) + (q : Int) := by unfold wrap64; omega
      clear HS HV hS he hq hsz
      go_enter Try.func8, Try.ntmps8
      go_upto_region 1 with fail
      rw [HW0.out]
      clear HW0
      go_wp2_with fail
      refine (HBB.out _).mono ?_
      rintro r w1 ⟨rfl, b1⟩
      have HB1 : Hid (Below W0.heap.size W0 w1) := Lib.hid (by first | exact b1 | exact (drew_below (Below.refl _ _) _).trans b1)
      clear HBB b1
      obtain ⟨⟨⟨⟨bc0, bf0⟩, ⟨bc1, bf1⟩, ⟨bc2, bf2⟩, ⟨bc3, bf3⟩⟩, hl2⟩, hbw⟩ := HZB.out _ HB1.out
      have HBW := Lib.hid hbw
      clear hbw HZB
      go_wp2_with fail
      refine (HK.out _).mono ?_
      rintro r w2 ⟨rfl, rfl⟩
      clear HK
      have HT2 := Lib.hid (two_tk (W0 := w1) 83 j 27 HBW.out.1 HBW.out.2)
      obtain ⟨W1, hW1⟩ : ∃ W1, w1.alloc (.cells #[.int .u8 83, .int .i64 (j : Int), .int .i64 0, .string ⟨#[]⟩] 27) = W1 := ⟨_, rfl⟩
      have hz1 : W1.heap.size = w1.heap.size + 1 := by rw [← hW1]; simp
      rw [show ((83 : Nat) : Int) = 83 from rfl, hW1, ← hz1] at HT2
      have HW1 := Lib.hid hW1
      clear hW1 hz1
      go_wp2_with fail
      rw [HW1.out]
      clear HW1
      refine (HS2.out _).mono ?_
      rintro r w3 ⟨rfl, b3⟩
      obtain ⟨⟨⟨⟨cc0, cf0⟩, ⟨cc1, cf1⟩, ⟨cc2, cf2⟩, ⟨cc3, cf3⟩⟩, ⟨⟨dc0, df0⟩, ⟨dc1, df1⟩, ⟨dc2, df2⟩, ⟨dc3, df3⟩⟩, hl3, hl4⟩, hbw⟩ := HT2.out w3 (by first | exact b3 | exact (drew_below (Below.refl _ _) _).trans b3)
      have HBX := Lib.hid hbw
      have hn1 : ¬ w1.heap.size = w.heap.size := by omega
      have hn2 : ¬ w.heap.size = w1.heap.size := by omega
      clear b3 HS2 hbw HT2 HB1 HBW bc0 bf0 bc1 bf1 bc2 bf2 bc3 bf3 hl2
      go_wp2_with fail
      go_wp2_with fail
      refine bodyPost_ret (v := .tuple #[TkV 0 0 0 ⟨#[]⟩, .int .i64 ((j : Int) + (q : Int)), .int .i64 (e : Int)]) ?_ rfl ⟨by rw [HV2.out]; unfold nxV; push_cast; rfl, ?_⟩
      · simp [results, Try.results8, go_sem, TkV, cc0, cc1, cc2, cc3, f1]
      · repeat (first | with_reducible exact HBX.out | with_reducible refine Below.setCell ?_ (by first | exact Nat.le_refl _ | exact Nat.le_of_lt hl3) _ | with_reducible refine Below.drew ?_)
    | ok L k =>
      have hk : k ≤ s.size - j := hsz
      have HV2 : Hid (R = .ok ⟨83, j, j + k, ⟨L.toArray⟩⟩ (j + k)) := Lib.hid HV.out.symm
      have HS2 : Hid (∀ W, Calls Try.prog 17 #[.string (s.extract j s.size)] W fun r w' => r = .returned (.tuple #[.string ⟨L.toArray⟩, .int .i64 (k : Int), .int .i64 0]) ∧ Below W.heap.size W w') := Lib.hid HS.out
      obtain ⟨T, hT⟩ : ∃ T : ByteArray, (⟨L.toArray⟩ : ByteArray) = T := ⟨_, rfl⟩
      rw [hT] at HV2 HS2
      have f1 : wrap64 ((j : Int) + (k : Int)) = (j : Int) + (k : Int) := by unfold wrap64; omega
      clear HS HV hS hsz hk hT
      go_enter Try.func8, Try.ntmps8
      go_upto_region 1 with fail
      rw [HW0.out]
      clear HW0
      go_wp2_with fail
      refine (HBB.out _).mono ?_
      rintro r w1 ⟨rfl, b1⟩
      have HB1 : Hid (Below W0.heap.size W0 w1) := Lib.hid (by first | exact b1 | exact (drew_below (Below.refl _ _) _).trans b1)
      clear HBB b1
      obtain ⟨⟨⟨⟨bc0, bf0⟩, ⟨bc1, bf1⟩, ⟨bc2, bf2⟩, ⟨bc3, bf3⟩⟩, hl2⟩, hbw⟩ := HZB.out _ HB1.out
      have HBW := Lib.hid hbw
      clear hbw HZB
      go_wp2_with fail
      refine (HK.out _).mono ?_
      rintro r w2 ⟨rfl, rfl⟩
      clear HK
      have HT2 := Lib.hid (two_tk (W0 := w1) 83 j 27 HBW.out.1 HBW.out.2)
      obtain ⟨W1, hW1⟩ : ∃ W1, w1.alloc (.cells #[.int .u8 83, .int .i64 (j : Int), .int .i64 0, .string ⟨#[]⟩] 27) = W1 := ⟨_, rfl⟩
      have hz1 : W1.heap.size = w1.heap.size + 1 := by rw [← hW1]; simp
      rw [show ((83 : Nat) : Int) = 83 from rfl, hW1, ← hz1] at HT2
      have HW1 := Lib.hid hW1
      clear hW1 hz1
      go_wp2_with fail
      rw [HW1.out]
      clear HW1
      refine (HS2.out _).mono ?_
      rintro r w3 ⟨rfl, b3⟩
      obtain ⟨⟨⟨⟨cc0, cf0⟩, ⟨cc1, cf1⟩, ⟨cc2, cf2⟩, ⟨cc3, cf3⟩⟩, ⟨⟨dc0, df0⟩, ⟨dc1, df1⟩, ⟨dc2, df2⟩, ⟨dc3, df3⟩⟩, hl3, hl4⟩, hbw⟩ := HT2.out w3 (by first | exact b3 | exact (drew_below (Below.refl _ _) _).trans b3)
      have HBX := Lib.hid hbw
      have hn1 : ¬ w1.heap.size = w.heap.size := by omega
      have hn2 : ¬ w.heap.size = w1.heap.size := by omega
      clear b3 HS2 hbw HT2 HB1 HBW bc0 bf0 bc1 bf1 bc2 bf2 bc3 bf3 hl2
      go_wp2_with fail
      obtain ⟨W5, hW5⟩ : ∃ W5, (w3.setCell ⟨w1.heap.size, 3, none⟩ (.string T)).setCell ⟨w1.heap.size, 2, none⟩ (.int .i64 ((j : Int) + (k : Int))) = W5 := ⟨_, rfl⟩
      have y0 : W5.cell? ⟨w1.heap.size, 0, none⟩ = some (.int .u8 83) := by rw [← hW5]; simp [go_sem, dc0]
      have y1 : W5.cell? ⟨w1.heap.size, 1, none⟩ = some (.int .i64 (j : Int)) := by rw [← hW5]; simp [go_sem, dc1]
      have y2 : W5.cell? ⟨w1.heap.size, 2, none⟩ = some (.int .i64 ((j : Int) + (k : Int))) := by rw [← hW5]; simp [go_sem, dc2]
      have y3 : W5.cell? ⟨w1.heap.size, 3, none⟩ = some (.string T) := by rw [← hW5]; simp [go_sem, dc3]
      have z0 : W5.cell? ⟨w.heap.size, 0, none⟩ = some (.int .u8 0) := by rw [← hW5]; simp [go_sem, cc0]
      have z0f : W5.frozen? ⟨w.heap.size, 0, none⟩ = false := by rw [← hW5]; simp [cf0]
      have z1 : W5.cell? ⟨w.heap.size, 1, none⟩ = some (.int .i64 0) := by rw [← hW5]; simp [go_sem, cc1]
      have z1f : W5.frozen? ⟨w.heap.size, 1, none⟩ = false := by rw [← hW5]; simp [cf1]
      have z2 : W5.cell? ⟨w.heap.size, 2, none⟩ = some (.int .i64 0) := by rw [← hW5]; simp [go_sem, cc2]
      have z2f : W5.frozen? ⟨w.heap.size, 2, none⟩ = false := by rw [← hW5]; simp [cf2]
      have z3 : W5.cell? ⟨w.heap.size, 3, none⟩ = some (.string ⟨#[]⟩) := by rw [← hW5]; simp [go_sem, cc3]
      have z3f : W5.frozen? ⟨w.heap.size, 3, none⟩ = false := by rw [← hW5]; simp [cf3]
      have HB5 : Hid (Below w.heap.size w W5) := Lib.hid (by rw [← hW5]; repeat (first | with_reducible exact HBX.out | with_reducible refine Below.setCell ?_ (by first | exact Nat.le_refl _ | exact Nat.le_of_lt hl3) _))
      rw [hW5]
      clear hW5 dc0 dc1 dc2 dc3 df0 df1 df2 df3 cc0 cc1 cc2 cc3 cf0 cf1 cf2 cf3 HBX
      go_region
      all_goals
        go_wp2_with fail
        refine bodyPost_ret (v := .tuple #[TkV 83 j (j + k) T, .int .i64 ((j : Int) + (k : Int)), .int .i64 0]) ?_ rfl ⟨by rw [HV2.out]; unfold nxV; push_cast; rfl, ?_⟩
        · simp [results, Try.results8, go_sem, TkV, z0, z1, z2, z3]
        · first | exact below_set4 HB5.out (Nat.le_refl _) _ _ _ _ | exact Below.drew (below_set4 HB5.out (Nat.le_refl _) _ _ _ _)
  by_cases hq3 : K = 78
  · subst hq3
    have hx78 : isW x = false ∧ x ≠ 34 := by
      unfold kdF at hK
      cases h : isW x with
      | true => rw [if_pos h] at hK; subst hK; exact absurd h (by decide)
      | false =>
        rw [h, if_neg (by decide)] at hK
        by_cases h1 : x = 34
        · rw [if_pos h1] at hK; cases hK
        · exact ⟨rfl, h1⟩
    have HS := Lib.hid (fun W => nscan_any (s.extract j s.size) W (by omega))
    unfold NmAns at HS
    have HV : Hid (∀ p e, NmIs (s.extract j s.size) p e → p ≤ s.size - j ∧ (e = 0 ∨ e = 3 ∨ e = 4) ∧ (e = 0 → R = .ok ⟨78, j, j + p, s.extract j (j + p)⟩ (j + p)) ∧ (e ≠ 0 → R = .no (j + p) e)) := Lib.hid fun p e hn => by
      have hle := hn.le
      obtain ⟨n1, n2⟩ := nm_of hn
      rw [ez] at hle
      have h7 := HR.out
      have hv := nme_vals (s.extract j s.size)
      rw [← n2] at hv
      refine ⟨hle, hv, fun h => ?_, fun h => ?_⟩
      · have h8 : rdR (s.extract j s.size) = .ok (78, (s.extract j s.size).extract 0 p) p := by unfold rdR; rw [if_neg (by omega), h0, hx78.1, if_neg (by decide), if_neg hx78.2, ← n1, ← n2, if_pos h]
        rw [h8, ext_ext (by omega)] at h7
        exact h7.symm
      · have h8 : rdR (s.extract j s.size) = .no p e := by unfold rdR; rw [if_neg (by omega), h0, hx78.1, if_neg (by decide), if_neg hx78.2, ← n1, ← n2, if_neg h]
        rw [h8] at h7
        exact h7.symm
    clear HR et ez hx hK h0 hjn hx78 hq hq2
    go_enter Try.func8, Try.ntmps8
    go_upto_region 1 with fail
    rw [HW0.out]
    clear HW0
    go_wp2_with fail
    refine (HBB.out _).mono ?_
    rintro r w1 ⟨rfl, b1⟩
    have HB1 : Hid (Below W0.heap.size W0 w1) := Lib.hid (by first | exact b1 | exact (drew_below (Below.refl _ _) _).trans b1)
    clear HBB b1
    obtain ⟨⟨⟨⟨bc0, bf0⟩, ⟨bc1, bf1⟩, ⟨bc2, bf2⟩, ⟨bc3, bf3⟩⟩, hl2⟩, hbw⟩ := HZB.out _ HB1.out
    have HBW := Lib.hid hbw
    clear hbw HZB
    go_wp2_with fail
    refine (HK.out _).mono ?_
    rintro r w2 ⟨rfl, rfl⟩
    clear HK
    have HT2 := Lib.hid (two_tk (W0 := w1) 78 j 27 HBW.out.1 HBW.out.2)
    obtain ⟨W1, hW1⟩ : ∃ W1, w1.alloc (.cells #[.int .u8 78, .int .i64 (j : Int), .int .i64 0, .string ⟨#[]⟩] 27) = W1 := ⟨_, rfl⟩
    have hz1 : W1.heap.size = w1.heap.size + 1 := by rw [← hW1]; simp
    rw [show ((78 : Nat) : Int) = 78 from rfl, hW1, ← hz1] at HT2
    have HW1 := Lib.hid hW1
    clear hW1 hz1
    go_wp2_with fail
    rw [HW1.out]
    clear HW1
    refine (HS.out _).mono ?_
    rintro r w3 ⟨p, e, rfl, hn, b3⟩
    obtain ⟨⟨⟨⟨cc0, cf0⟩, ⟨cc1, cf1⟩, ⟨cc2, cf2⟩, ⟨cc3, cf3⟩⟩, ⟨⟨dc0, df0⟩, ⟨dc1, df1⟩, ⟨dc2, df2⟩, ⟨dc3, df3⟩⟩, hl3, hl4⟩, hbw⟩ := HT2.out w3 (by first | exact b3 | exact (drew_below (Below.refl _ _) _).trans b3)
    have HBX := Lib.hid hbw
    have hn1 : ¬ w1.heap.size = w.heap.size := by omega
    have hn2 : ¬ w.heap.size = w1.heap.size := by omega
    clear b3 HS hbw HT2 HB1 HBW bc0 bf0 bc1 bf1 bc2 bf2 bc3 bf3 hl2
    obtain ⟨hp, hev, hv0, hv1⟩ := HV.out p e hn
    obtain ⟨q, hqq⟩ : ∃ q, j + p = q := ⟨_, rfl⟩
    rw [hqq] at hv0 hv1
    obtain ⟨f1, g5, g6⟩ := num_add hqq hp hj2 hs
    clear hn HV hqq hp
    by_cases he : e = 0
    · subst he
      have HV2 := Lib.hid (hv0 rfl)
      clear hv0 hv1 hev
      go_upto_region 30 with fail
      obtain ⟨W4, hW4⟩ : ∃ W4, w3.setCell ⟨w1.heap.size, 2, none⟩ (.int .i64 (q : Int)) = W4 := ⟨_, rfl⟩
      have u0 : W4.cell? ⟨w1.heap.size, 0, none⟩ = some (.int .u8 78) := by rw [← hW4]; simp [go_sem, dc0]
      have u1 : W4.cell? ⟨w1.heap.size, 1, none⟩ = some (.int .i64 (j : Int)) := by rw [← hW4]; simp [go_sem, dc1]
      have u2 : W4.cell? ⟨w1.heap.size, 2, none⟩ = some (.int .i64 (q : Int)) := by rw [← hW4]; simp [go_sem, dc2]
      have u3 : W4.cell? ⟨w1.heap.size, 3, none⟩ = some (.string ⟨#[]⟩) := by rw [← hW4]; simp [go_sem, dc3]
      have u3f : W4.frozen? ⟨w1.heap.size, 3, none⟩ = false := by rw [← hW4]; simp [df3]
      have v0 : W4.cell? ⟨w.heap.size, 0, none⟩ = some (.int .u8 0) := by rw [← hW4]; simp [go_sem, cc0]
      have v1 : W4.cell? ⟨w.heap.size, 1, none⟩ = some (.int .i64 0) := by rw [← hW4]; simp [go_sem, cc1]
      have v2 : W4.cell? ⟨w.heap.size, 2, none⟩ = some (.int .i64 0) := by rw [← hW4]; simp [go_sem, cc2]
      have v3 : W4.cell? ⟨w.heap.size, 3, none⟩ = some (.string ⟨#[]⟩) := by rw [← hW4]; simp [go_sem, cc3]
      have v0f : W4.frozen? ⟨w.heap.size, 0, none⟩ = false := by rw [← hW4]; simp [cf0]
      have v1f : W4.frozen? ⟨w.heap.size, 1, none⟩ = false := by rw [← hW4]; simp [cf1]
      have v2f : W4.frozen? ⟨w.heap.size, 2, none⟩ = false := by rw [← hW4]; simp [cf2]
      have v3f : W4.frozen? ⟨w.heap.size, 3, none⟩ = false := by rw [← hW4]; simp [cf3]
      have HB4 : Hid (Below w.heap.size w W4) := Lib.hid (by rw [← hW4]; exact HBX.out.setCell (p := ⟨w1.heap.size, 2, none⟩) (Nat.le_of_lt hl3) _)
      rw [hW4]
      clear hW4 dc0 dc1 dc2 dc3 df0 df1 df2 df3 cc0 cc1 cc2 cc3 cf0 cf1 cf2 cf3 HBX hl4
      go_wp2_with fail
      obtain ⟨W5, hW5⟩ : ∃ W5, W4.setCell ⟨w1.heap.size, 3, none⟩ (.string (s.extract j q)) = W5 := ⟨_, rfl⟩
      have y0 : W5.cell? ⟨w1.heap.size, 0, none⟩ = some (.int .u8 78) := by rw [← hW5]; simp [go_sem, u0]
      have y1 : W5.cell? ⟨w1.heap.size, 1, none⟩ = some (.int .i64 (j : Int)) := by rw [← hW5]; simp [go_sem, u1]
      have y2 : W5.cell? ⟨w1.heap.size, 2, none⟩ = some (.int .i64 (q : Int)) := by rw [← hW5]; simp [go_sem, u2]
      have y3 : W5.cell? ⟨w1.heap.size, 3, none⟩ = some (.string (s.extract j q)) := by rw [← hW5]; simp [go_sem, u3]
      have z0 : W5.cell? ⟨w.heap.size, 0, none⟩ = some (.int .u8 0) := by rw [← hW5]; simp [go_sem, v0]
      have z0f : W5.frozen? ⟨w.heap.size, 0, none⟩ = false := by rw [← hW5]; simp [v0f]
      have z1 : W5.cell? ⟨w.heap.size, 1, none⟩ = some (.int .i64 0) := by rw [← hW5]; simp [go_sem, v1]
      have z1f : W5.frozen? ⟨w.heap.size, 1, none⟩ = false := by rw [← hW5]; simp [v1f]
      have z2 : W5.cell? ⟨w.heap.size, 2, none⟩ = some (.int .i64 0) := by rw [← hW5]; simp [go_sem, v2]
      have z2f : W5.frozen? ⟨w.heap.size, 2, none⟩ = false := by rw [← hW5]; simp [v2f]
      have z3 : W5.cell? ⟨w.heap.size, 3, none⟩ = some (.string ⟨#[]⟩) := by rw [← hW5]; simp [go_sem, v3]
      have z3f : W5.frozen? ⟨w.heap.size, 3, none⟩ = false := by rw [← hW5]; simp [v3f]
      have HB5 : Hid (Below w.heap.size w W5) := Lib.hid (by rw [← hW5]; exact HB4.out.setCell (Nat.le_of_lt hl3) _)
      rw [hW5]
      clear hW5 u0 u1 u2 u3 u3f v0 v1 v2 v3 v0f v1f v2f v3f HB4
      go_region
      all_goals
        go_wp2_with fail
        refine bodyPost_ret (v := .tuple #[TkV 78 j q (s.extract j q), .int .i64 (q : Int), .int .i64 0]) ?_ rfl ⟨by rw [HV2.out]; rfl, ?_⟩
        · simp [results, Try.results8, go_sem, TkV, z0, z1, z2, z3]
        · first | exact below_set4 HB5.out (Nat.le_refl _) _ _ _ _ | exact Below.drew (below_set4 HB5.out (Nat.le_refl _) _ _ _ _)
    · have HV2 := Lib.hid (hv1 he)
      have k1 : ((e : Int) != 0) = true := by simp; omega
      clear hv0 hv1 hev he
      go_wp2_with fail
      refine bodyPost_ret (v := .tuple #[TkV 0 0 0 ⟨#[]⟩, .int .i64 (q : Int), .int .i64 (e : Int)]) ?_ rfl ⟨by rw [HV2.out]; rfl, ?_⟩
      · simp [results, Try.results8, go_sem, TkV, cc0, cc1, cc2, cc3, f1]
      · repeat (first | with_reducible exact HBX.out | with_reducible refine Below.setCell ?_ (by first | exact Nat.le_refl _ | exact Nat.le_of_lt hl3) _ | with_reducible refine Below.drew ?_)
  have hW : isW x = true ∧ K = x := by
    unfold kdF at hK
    cases h : isW x with
    | true => rw [if_pos h] at hK; exact ⟨rfl, hK.symm⟩
    | false =>
      rw [h, if_neg (by decide)] at hK
      split at hK
      · exact absurd hK.symm hq2
      · split at hK
        · exact absurd hK.symm hq3
        · exact absurd hK.symm hq
  obtain ⟨hW, rfl⟩ := hW
  have HS := Lib.hid (fun W => rword_any K W hW)
  have hm := wd_size K
  obtain ⟨T, hT⟩ : ∃ T, wd K = T := ⟨_, rfl⟩
  have HV : Hid (fwR K (flR (sh (bt s) j) (s.size - j) (bt T) T.size 0) = rdR (s.extract j s.size)) := Lib.hid (by
    unfold rdR
    rw [if_neg (by omega), h0, hW, if_pos rfl, et, ez, hT]
    cases flR (sh (bt s) j) (s.size - j) (bt T) T.size 0 <;> rfl)
  rw [hT] at HS hm
  have k63 : ((K : Int) == 63) = false := by simp; omega
  have k83 : ((K : Int) == 83) = false := by simp; omega
  have k78 : ((K : Int) == 78) = false := by simp; omega
  obtain ⟨F, hF⟩ : ∃ F, flR (sh (bt s) j) (s.size - j) (bt T) T.size 0 = F := ⟨_, rfl⟩
  have HF0 := Lib.hid hF
  have HR2 : Hid (R = match fwR K F with | .ok y p => .ok ⟨y.1, j, j + p, y.2⟩ (j + p) | .no q e => .no (j + q) e) := Lib.hid (by
    have h7 := HR.out
    rw [← HV.out, hF] at h7
    exact h7.symm)
  clear HR HV et ez hx hK h0 hjn hq hq2 hq3 hF hT hW
  go_enter Try.func8, Try.ntmps8
  go_upto_region 1 with fail
  rw [HW0.out]
  clear HW0
  go_wp2_with fail
  refine (HBB.out _).mono ?_
  rintro r w1 ⟨rfl, b1⟩
  have HB1 : Hid (Below W0.heap.size W0 w1) := Lib.hid (by first | exact b1 | exact (drew_below (Below.refl _ _) _).trans b1)
  clear HBB b1
  obtain ⟨⟨⟨⟨bc0, bf0⟩, ⟨bc1, bf1⟩, ⟨bc2, bf2⟩, ⟨bc3, bf3⟩⟩, hl2⟩, hbw⟩ := HZB.out _ HB1.out
  have HBW := Lib.hid hbw
  clear hbw HZB
  go_wp2_with fail
  refine (HK.out _).mono ?_
  rintro r w2 ⟨rfl, rfl⟩
  clear HK
  have HT2 := Lib.hid (two_tk (W0 := w1) K j 27 HBW.out.1 HBW.out.2)
  obtain ⟨W1, hW1⟩ : ∃ W1, w1.alloc (.cells #[.int .u8 (K : Int), .int .i64 (j : Int), .int .i64 0, .string ⟨#[]⟩] 27) = W1 := ⟨_, rfl⟩
  have hz1 : W1.heap.size = w1.heap.size + 1 := by rw [← hW1]; simp
  rw [hW1, ← hz1] at HT2
  have HW1 := Lib.hid hW1
  clear hW1 hz1
  go_wp2_with fail
  rw [HW1.out]
  clear HW1
  refine (HS.out _).mono ?_
  rintro r w3 ⟨rfl, b3⟩
  have B3 : Hid (Below W1.heap.size W1 w3) := Lib.hid (by first | exact b3 | exact (drew_below (Below.refl _ _) _).trans b3)
  clear b3 HS HB1 HBW bc0 bf0 bc1 bf1 bc2 bf2 bc3 bf3 hl2
  have HBZ : Hid (∀ W, Below w3.heap.size w3 W → _) := Lib.hid fun W hW => HT2.out W (B3.out.trans (hW.mono B3.out.size))
  clear HT2 B3
  go_wp2_with fail
  clear hm k63 k83 k78
  go_loopw [14] (fun s14 wr => ∃ i2 : Nat, i2 ≤ T.size ∧ s14 = .int .i64 (i2 : Int) ∧ j + i2 ≤ s.size ∧ Hid (flR (sh (bt s) j) (s.size - j) (bt T) (T.size - i2) i2 = F) ∧ Hid (Below w3.heap.size w3 wr)) (fun s14 _ => T.size - (intOf s14).toNat)
  case atStart => exact ⟨0, Nat.zero_le _, rfl, hj2, HF0, Lib.hid (Below.refl _ _)⟩
  case round =>
    obtain ⟨i2, hi2, rfl, hji, HS, HB⟩ := hrel
    obtain ⟨v, hv⟩ : ∃ v, j + i2 = v := ⟨_, rfl⟩
    obtain ⟨f1, g5, g6⟩ := num_add (n := s.size) hv (by omega) hj2 hs
    have HBD : Hid (∀ W, Below w3.heap.size w3 W → Below w.heap.size w W) := Lib.hid fun W h => (HBZ.out W h).2
    obtain ⟨⟨⟨⟨cc0, cf0⟩, ⟨cc1, cf1⟩, ⟨cc2, cf2⟩, ⟨cc3, cf3⟩⟩, ⟨⟨dc0, df0⟩, ⟨dc1, df1⟩, ⟨dc2, df2⟩, ⟨dc3, df3⟩⟩, hl3, hl4⟩, hbw⟩ := HBZ.out wr HB.out
    have HBX := Lib.hid hbw
    have hn1 : ¬ w1.heap.size = w.heap.size := Nat.ne_of_gt hl3
    have hn2 : ¬ w.heap.size = w1.heap.size := Nat.ne_of_lt hl3
    clear hbw
    have hvs : v ≤ s.size := by rw [← hv]; exact hji
    have HJI := Lib.hid hv
    clear hji hv g5
    by_cases hlt2 : i2 < T.size
    · have HT := HS.out
      rw [show T.size - i2 = (T.size - (i2 + 1)) + 1 by clear hn1 hn2; omega, flR] at HT
      have hy := bt_at hlt2
      obtain ⟨y, hyy⟩ : ∃ y, (T[i2]).toNat = y := ⟨_, rfl⟩
      rw [hyy] at hy
      by_cases hvn : v < s.size
      · have q0 : decide ((s.size : Int) ≤ (v : Int)) = false := decide_eq_false (by clear hn1 hn2; omega)
        have hx := bt_at hvn
        obtain ⟨x2, hxx2⟩ : ∃ x2, (s[v]).toNat = x2 := ⟨_, rfl⟩
        rw [hxx2] at hx
        have hsv : sh (bt s) j i2 = x2 := by simp only [sh]; rw [HJI.out]; exact hx
        rw [if_neg (by have := HJI.out; clear hn1 hn2; omega), hsv, hy] at HT
        by_cases hxy : x2 = y
        · rw [if_pos hxy] at HT
          have HT2 := Lib.hid HT
          have q1 : ((x2 : Int) != (y : Int)) = false := by rw [hxy]; simp
          have hnx : Hid (j + (i2 + 1) ≤ s.size) := Lib.hid (by have := HJI.out; clear hn1 hn2; omega)
          obtain ⟨i3, hi3⟩ : ∃ i3, i2 + 1 = i3 := ⟨_, rfl⟩
          have f2 : wrap64 ((i2 : Int) + 1) = (i3 : Int) := by rw [← hi3]; exact wrap_one (i2 := i2) (n := s.size) (by have := HJI.out; clear hn1 hn2; omega) hs
          have hi4 : i3 ≤ T.size := by rw [← hi3]; exact hlt2
          have hm2 : T.size - i3 < T.size - i2 := by rw [← hi3]; exact Nat.sub_lt_sub_left hlt2 (Nat.lt_succ_self i2)
          rw [hi3] at HT2 hnx
          have HM := Lib.hid (And.intro hi4 hm2)
          clear hi3 hi4 hm2
          clear HT HS hx hy hxy hsv HBX HBD cc0 cf0 cc1 cf1 cc2 cf2 cc3 cf3 dc0 df0 dc1 df1 dc2 df2 dc3 df3 hn1 hn2
          go_wp2_with fail
          go_quiet (fail)
          go_wp2_with fail
          go_roundw
          case rel => exact ⟨i3, HM.out.1, by rw [f2], hnx.out, HT2, by first | exact HB | exact Lib.hid (drew_below HB.out _)⟩
          case measure => exact esmeas f2 HM.out.2
        · rw [if_neg hxy] at HT
          have HV2 : Hid (R = .no v 4) := Lib.hid (by rw [HR2.out, ← HT]; show Rs.no (j + i2) 4 = _; rw [HJI.out])
          have q1 : ((x2 : Int) != (y : Int)) = true := by rw [bne_iff_ne]; exact fun h => hxy (Int.ofNat.inj h)
          clear HT HS hx hy hxy hsv HBD HR2
          go_wp2_with fail
          go_quiet (fail)
          go_wp2_with fail
          refine bodyPost_ret (v := .tuple #[TkV 0 0 0 ⟨#[]⟩, .int .i64 (v : Int), .int .i64 4]) ?_ rfl ⟨by rw [HV2.out]; rfl, ?_⟩
          · simp [results, Try.results8, go_sem, TkV, cc0, cc1, cc2, cc3, f1]
          · first | exact below_set4 HBX.out (Nat.le_refl _) _ _ _ _ | exact below_set4 (drew_below HBX.out _) (Nat.le_refl _) _ _ _ _ | exact Below.drew (below_set4 HBX.out (Nat.le_refl _) _ _ _ _)
      · have q0 : decide ((s.size : Int) ≤ (v : Int)) = true := decide_eq_true (by clear hn1 hn2; omega)
        have HV2 : Hid (R = .no s.size 3) := Lib.hid (by
          rw [if_pos (by have := HJI.out; clear hn1 hn2; omega)] at HT
          rw [HR2.out, ← HT]
          show Rs.no (j + (s.size - j)) 3 = _
          rw [show j + (s.size - j) = s.size by clear hn1 hn2; omega])
        clear HT HS hy HBD HR2
        go_wp2_with fail
        refine bodyPost_ret (v := .tuple #[TkV 0 0 0 ⟨#[]⟩, .int .i64 (s.size : Int), .int .i64 3]) ?_ rfl ⟨by rw [HV2.out]; rfl, ?_⟩
        · simp [results, Try.results8, go_sem, TkV, cc0, cc1, cc2, cc3]
        · first | exact below_set4 HBX.out (Nat.le_refl _) _ _ _ _ | exact Below.drew (below_set4 HBX.out (Nat.le_refl _) _ _ _ _)
    · have hie : i2 = T.size := by clear hn1 hn2; omega
      subst hie
      have HV2 : Hid (R = .ok ⟨K, j, v, ⟨#[]⟩⟩ v) := Lib.hid (by
        have h7 := HS.out
        rw [Nat.sub_self] at h7
        rw [HR2.out, ← h7, ← HJI.out]
        rfl)
      clear HS HBD HR2 hlt2
      go_wp2_with fail
      obtain ⟨W5, hW5⟩ : ∃ W5, wr.setCell ⟨w1.heap.size, 2, none⟩ (.int .i64 (v : Int)) = W5 := ⟨_, rfl⟩
      have y0 : W5.cell? ⟨w1.heap.size, 0, none⟩ = some (.int .u8 (K : Int)) := by rw [← hW5]; simp [go_sem, dc0]
      have y1 : W5.cell? ⟨w1.heap.size, 1, none⟩ = some (.int .i64 (j : Int)) := by rw [← hW5]; simp [go_sem, dc1]
      have y2 : W5.cell? ⟨w1.heap.size, 2, none⟩ = some (.int .i64 (v : Int)) := by rw [← hW5]; simp [go_sem, dc2]
      have y3 : W5.cell? ⟨w1.heap.size, 3, none⟩ = some (.string ⟨#[]⟩) := by rw [← hW5]; simp [go_sem, dc3]
      have z0 : W5.cell? ⟨w.heap.size, 0, none⟩ = some (.int .u8 0) := by rw [← hW5]; simp [go_sem, cc0]
      have z0f : W5.frozen? ⟨w.heap.size, 0, none⟩ = false := by rw [← hW5]; simp [cf0]
      have z1 : W5.cell? ⟨w.heap.size, 1, none⟩ = some (.int .i64 0) := by rw [← hW5]; simp [go_sem, cc1]
      have z1f : W5.frozen? ⟨w.heap.size, 1, none⟩ = false := by rw [← hW5]; simp [cf1]
      have z2 : W5.cell? ⟨w.heap.size, 2, none⟩ = some (.int .i64 0) := by rw [← hW5]; simp [go_sem, cc2]
      have z2f : W5.frozen? ⟨w.heap.size, 2, none⟩ = false := by rw [← hW5]; simp [cf2]
      have z3 : W5.cell? ⟨w.heap.size, 3, none⟩ = some (.string ⟨#[]⟩) := by rw [← hW5]; simp [go_sem, cc3]
      have z3f : W5.frozen? ⟨w.heap.size, 3, none⟩ = false := by rw [← hW5]; simp [cf3]
      have HB5 : Hid (Below w.heap.size w W5) := Lib.hid (by rw [← hW5]; exact HBX.out.setCell (Nat.le_of_lt hl3) _)
      rw [hW5]
      clear hW5 dc0 dc1 dc2 dc3 df0 df1 df2 df3 cc0 cc1 cc2 cc3 cf0 cf1 cf2 cf3 HBX hl4
      go_region
      all_goals
        go_wp2_with fail
        refine bodyPost_ret (v := .tuple #[TkV K j v ⟨#[]⟩, .int .i64 (v : Int), .int .i64 0]) ?_ rfl ⟨by rw [HV2.out]; rfl, ?_⟩
        · simp [results, Try.results8, go_sem, TkV, z0, z1, z2, z3]
        · first | exact below_set4 HB5.out (Nat.le_refl _) _ _ _ _ | exact Below.drew (below_set4 HB5.out (Nat.le_refl _) _ _ _ _)
end
end Go.Proofs.Ytaopjeobapnhbaa.nn
namespace Go.Proofs.Ytaopjeobapnhbaa.nn
open Go.RowKit

section
variable {w : World}
set_option maxRecDepth 100000 in
set_option maxHeartbeats 4000000 in
theorem twin_any (k a b : Nat) (t : ByteArray) : Calls Try.prog 9 #[TkV k a b t, TkV k a b t] w fun e w' => e = .returned (.bool true) ∧ Below w.heap.size w w' := by
  have H := Lib.hid (fun o o' => ((Below.refl w.heap.size w).alloc (Nat.le_refl _) o).alloc (by simp) o')
  unfold TkV
  go_enter Try.func9, Try.ntmps9
  go_wp2_with fail
  go_ret
  exact ⟨rfl, by first | exact H.out _ _ | exact Below.drew (H.out _ _)⟩
theorem nx_awake : nxR ⟨#[91]⟩ 0 = .ok ⟨91, 0, 1, ⟨#[]⟩⟩ 1 := by kernel_rfl
theorem nx_awake2 : nxR ⟨#[91]⟩ 1 = .ok ⟨0, 1, 1, ⟨#[]⟩⟩ 1 := by kernel_rfl
set_option maxRecDepth 100000 in
set_option maxHeartbeats 4000000 in
theorem awake14 : Calls Try.prog 10 #[] w fun e w' => e = .returned (.bool true) ∧ Below w.heap.size w w' := by
  have hL : Ls ⟨#[91]⟩ 0 [] (.ok [⟨91, 0, 1, ⟨#[]⟩⟩] 1) := .more nx_awake (by decide) (.fin nx_awake2 rfl)
  have hC := tlist_any (w := w) ⟨#[91]⟩ (by decide) _ hL
  unfold LsAns at hC
  have HC := Lib.hid hC
  clear hC hL
  go_enter Try.func10, Try.ntmps10
  go_wp2_with fail
  refine HC.out.mono ?_
  rintro r w1 ⟨⟨v, rfl, hv⟩, hb⟩
  obtain ⟨A, c, rfl⟩ := own_form_tk hv
  have HB := Lib.hid hb
  have hg : ∃ g, A = some ⟨g, 0, none⟩ := by
    rcases hv.2 with ⟨h1, _⟩ | ⟨g, cap, cur, h1, _⟩
    · injection h1 with _ h2; cases h2
    · injection h1 with h2; exact ⟨g, h2⟩
  obtain ⟨g, rfl⟩ := hg
  have c0 : w1.cell? ⟨g, 0, none⟩ = some (.int .u8 91) := hv.cellAt 0 (by decide)
  clear hb hv HC
  go_wp2_with fail
  go_ret
  exact ⟨rfl, by first | exact HB.out | exact HB.out.drew⟩
end
end Go.Proofs.Ytaopjeobapnhbaa.nn
namespace Go.Proofs.Ytaopjeobapnhbaa.nn
open Go.RowKit

theorem nxV_form (R : Rs Tk) : ∃ (k a b : Nat) (t : ByteArray) (p e : Nat), nxV R = .tuple #[TkV k a b t, .int .i64 (p : Int), .int .i64 (e : Int)] := by
  cases R with
  | ok t p => exact ⟨_, _, _, _, p, 0, rfl⟩
  | no q e => exact ⟨0, 0, 0, ⟨#[]⟩, q, e, rfl⟩
section
variable {w : World}
theorem next_both (s : ByteArray) (z : Int) (hs : s.size ≤ 140737488355000) : ∃ (k a b : Nat) (t : ByteArray) (p e : Nat),
    (∀ w, Calls Try.prog 7 #[.string s, .int .i64 z] w fun r w' => r = .returned (.tuple #[TkV k a b t, .int .i64 (p : Int), .int .i64 (e : Int)]) ∧ Below w.heap.size w w') ∧
    (∀ w, Calls Try.prog 8 #[.string s, .int .i64 z] w fun r w' => r = .returned (.tuple #[TkV k a b t, .int .i64 (p : Int), .int .i64 (e : Int)]) ∧ Below w.heap.size w w') := by
  by_cases h : z < 0 ∨ (s.size : Int) < z
  · exact ⟨0, 0, 0, ⟨#[]⟩, 0, 1, fun w => tnext_out s z h, fun w => rtnext_out s z h⟩
  · obtain ⟨i, rfl⟩ := Int.eq_ofNat_of_zero_le (show 0 ≤ z by omega)
    obtain ⟨k, a, b, t, p, e, hv⟩ := nxV_form (nxR s i)
    refine ⟨k, a, b, t, p, e, fun w => ?_, fun w => ?_⟩
    · have := tnext_any (w := w) s i hs (by omega)
      rwa [hv] at this
    · have := rtnext_any (w := w) s i hs (by omega)
      rwa [hv] at this
set_option maxRecDepth 100000 in
set_option maxHeartbeats 8000000 in
theorem tnexts_any (s : ByteArray) (hs : s.size ≤ 140737488351232) (z : Int) (_ : -9223372036854775808 ≤ z) (_ : z ≤ 9223372036854775807) (w : World) :
    Calls Try.prog 3 #[.string s, .int .i64 z] w fun e w' => e = .returned (.bool true) ∧ Below w.heap.size w w' := by
  obtain ⟨k, a, b, t, p, e, h1, h2⟩ := next_both s z (by omega)
  have H1 := Lib.hid (h1 w)
  have H2 := Lib.hid h2
  have H3 := Lib.hid (fun W => twin_any (w := W) k a b t)
  have H4 := Lib.hid (fun W => awake14 (w := W))
  clear h1 h2
  unfold TkV at H1 H2 H3
  go_enter Try.func3, Try.ntmps3
  go_wp2_with fail
  refine H1.out.mono ?_
  rintro r w1 ⟨rfl, b1⟩
  have hA := b1.alloc b1.size (.cells #[.int .u8 (k : Int), .int .i64 (a : Int), .int .i64 (b : Int), .string t] 23)
  have HB1 := Lib.hid hA
  clear b1 H1 hA
  go_wp2_with fail
  refine (H2.out _).mono ?_
  rintro r w2 ⟨rfl, b2⟩
  have HB2 := Lib.hid (HB1.out.trans (b2.mono HB1.out.size))
  have k3 : w2.heap[w1.heap.size]? = some (.cells #[.int .u8 (k : Int), .int .i64 (a : Int), .int .i64 (b : Int), .string t] 23 (0, 0)) := (b2.block w1.heap.size (by simp)).trans (heap_alloc_last _ _)
  have k4 : (w2.alloc (.cells #[.int .u8 (k : Int), .int .i64 (a : Int), .int .i64 (b : Int), .string t] 27)).heap[w1.heap.size]? = some (.cells #[.int .u8 (k : Int), .int .i64 (a : Int), .int .i64 (b : Int), .string t] 23 (0, 0)) := (((Below.refl _ _).alloc (Nat.le_refl _) _).block w1.heap.size (lt_of_block k3)).trans k3
  have a0 := cell_of_row _ _ 0 _ _ _ k3
  have a1 := cell_of_row _ _ 1 _ _ _ k3
  have a2 := cell_of_row _ _ 2 _ _ _ k3
  have a3 := cell_of_row _ _ 3 _ _ _ k3
  have b0 := cell_of_row _ _ 0 _ _ _ k4
  have b1 := cell_of_row _ _ 1 _ _ _ k4
  have b3 := cell_of_row _ _ 2 _ _ _ k4
  have b4 := cell_of_row _ _ 3 _ _ _ k4
  have HB3 := Lib.hid (HB2.out.alloc HB2.out.size (.cells #[.int .u8 (k : Int), .int .i64 (a : Int), .int .i64 (b : Int), .string t] 27))
  clear b2 H2 k3 k4 HB1
  go_wp2_with fail
  refine (H3.out _).mono ?_
  rintro r w3 ⟨rfl, c3⟩
  have HB4 := Lib.hid (HB3.out.trans (c3.mono HB3.out.size))
  clear c3 H3 HB3 HB2 a0 a1 a2 a3 b0 b1 b3 b4
  go_wp2_with fail
  refine (H4.out _).mono ?_
  rintro r w4 ⟨rfl, c4⟩
  have HB5 := Lib.hid (HB4.out.trans (c4.mono HB4.out.size))
  clear c4 H4
  go_wp2_with fail
  go_ret
  exact ⟨rfl, HB5.out⟩
end
end Go.Proofs.Ytaopjeobapnhbaa.nn
namespace Go.Proofs.Ytaopjeobapnhbaa.nn
open Go.ChangeShapes Go.WideShapes Go.ChangeAt Go.RowKit

theorem Try.own : ownKnob Try.prog.godebug = none := by kernel_rfl
theorem wf_i64 {n : Int} (h : (Lit.int .i64 n).wf = true) : -9223372036854775808 ≤ n ∧ n ≤ 9223372036854775807 := by
  have h1 : IntKind.i64.min = -9223372036854775808 := rfl
  have h2 : IntKind.i64.max = 9223372036854775807 := rfl
  simp only [Lit.wf, Bool.and_eq_true, decide_eq_true_eq] at h
  omega
theorem size_reach {s : ByteArray} (h : s.data.toList.length ≤ reachBytes) : s.size ≤ 140737488351232 := h
end Go.Proofs.Ytaopjeobapnhbaa.nn
