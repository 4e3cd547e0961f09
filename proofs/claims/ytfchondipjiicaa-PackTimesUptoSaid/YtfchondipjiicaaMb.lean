/- Joined texts, what is wanted of them: RkA, RkC, TmB, PkE, PkN, PkN2, PkM, PkO, TmC, TmD, RefEqual, Same13, Path, It. -/
import Derived.Below
import Derived.Laws.OwnMore
import Derived.Deep.AppendLies
import Derived.Deep.Draws
import Derived.Maps.AppendAt
import Derived.RegionTactic
import Derived.OwnWalk
import Derived.Deep.RegionLaw
import Derived.WalkKit
import Derived.Test.YtfchondipjiicaaProg
import Derived.Laws.BytesArg
import Derived.Lib.UnsafeStr
import Derived.Lib.AppendStr
import Derived.Lib.Hide
import Derived.Lib.MinMax
import Derived.Deep.QuietTactic
import Derived.BigQuiet
import Derived.IntWalk
import Derived.Laws.Rows
import Derived.WalkSpells
import Derived.Deep.RegionHeld3
import Derived.Laws.BitsAllLaws
import Derived.Test.YtfchondipjiicaaShelf
import Derived.Deep.RegionWith
import Derived.Lib.BitFns
import Derived.Deep.CutBlock
import Derived.Deep.DeepCutAuto
import Derived.KernelRfl
import Derived.Deep.WholeRow
import Derived.Great.Walk
import Derived.StillTailTactics
import Derived.Lib.Builder
import Derived.Shelf.RegionOpen
import Derived.RowKit
import Derived.Laws.AppendOwn
import Derived.RangeFuncNested
import Derived.RangeFuncBound
import Derived.RangeFuncCalls
import Derived.RangeFuncLeaves
import Derived.Shelf.Abstract
import Derived.OwnWalkIn
import Derived.TacticsInMore
import Derived.Test.YtfchondipjiicaaRows
import Derived.ProofKit
import Derived.SizedLaws
import Derived.ChangeMaps5
import Derived.Deep.Slices
import Derived.Deep.Fields
import Derived.Test.YtfchondipjiicaaMa
namespace Go.Proofs.Ytfchondipjiicaa.nn
open Go.RowKit

/-- an answer that is the call's own bytes -/
def RpAns (L : List UInt8) (w : World) (e : Ending) (w' : World) : Prop := ∃ v, e = .returned v ∧ w'.ownsRow w.heap.size 5 1 v L.length (Lib.byteCells L) ∧ Below w.heap.size w w'
theorem RpAns.lit1 (w : World) {d : Nat} (h : d < 256) : RpAns [UInt8.ofNat d] w (.returned (.slice (some ⟨w.heap.size, 0, none⟩) 1 1)) (w.alloc (.cells #[.int .u8 (d : Int)] 5)) := by
  refine ⟨_, rfl, ?_, (Below.refl _ _).alloc (Nat.le_refl _) _⟩
  have h1 := World.ownsRow_lit (base := w.heap.size) (e := 5) (size := 1) w #[.int .u8 (d : Int)] 1 (Nat.le_refl _) (by simp [maxLen]) rfl
  have e : Lib.byteCells [UInt8.ofNat d] = [.int .u8 (d : Int)] := by
    unfold Lib.byteCells
    simp only [List.map_cons, List.map_nil]
    rw [pu8_of h]
  rw [e]
  exact h1
set_option maxRecDepth 100000 in
set_option maxHeartbeats 8000000 in
theorem rbig13_any (f n q : Nat) (w : World) (hf : f < 256) (_ : n < 18446744073709551616) (hq0 : 0 < q) (hq : q ≤ 8) :
    Calls Try.prog 22 #[.int .i64 (f : Int), .int .u64 (n : Int), .int .i64 (q : Int)] w (RpAns (UInt8.ofNat f :: lwP n q) w) := by
  obtain ⟨i0, hi, hz0, hz1, hz2⟩ := info_parts infoP8
  have hL1 := RpAns.lit1 w hf
  have uf : IntKind.u8.wrap (f : Int) = (f : Int) := by rw [IntKind.wrap_u8]; omega
  obtain ⟨b0, hb0⟩ : ∃ x : UInt8, UInt8.ofNat f = x := ⟨_, rfl⟩
  rw [hb0] at hL1 ⊢
  have HL : Hid ((w.alloc (.cells #[.int .u8 (f : Int)] 5)).ownsRow w.heap.size 5 1 (.slice (some ⟨w.heap.size, 0, none⟩) 1 1) 1 (Lib.byteCells [b0]) ∧ Below w.heap.size w (w.alloc (.cells #[.int .u8 (f : Int)] 5))) := Lib.hid (by
    obtain ⟨v, e, h1, h2⟩ := hL1
    injection e with e
    subst e
    exact ⟨h1, h2⟩)
  have HT : Hid (lwP n q = lsF (fun i => n / 256 ^ (q - 1 - i) % 256) q) := Lib.hid rfl
  clear hL1 hb0 hf
  go_enter Try.func22, Try.ntmps22
  go_wp2_with fail
  go_loopw [7, 8] (fun s7 s8 wr => ∃ (j : Nat) (A : Option Addr) (c : Nat), j ≤ q ∧ s7 = .slice A (j + 1) c ∧ s8 = .int .i64 ((q : Int) - 1 - (j : Int)) ∧ Hid (wr.ownsRow w.heap.size 5 1 (.slice A (j + 1) c) (j + 1) (Lib.byteCells (b0 :: lsF (fun i => n / 256 ^ (q - 1 - i) % 256) j)) ∧ Below w.heap.size w wr)) (fun _ s8 _ => ((intOf s8) + 1).toNat)
  case atStart => exact ⟨0, _, 1, Nat.zero_le _, rfl, congrArg (Value.int .i64) (by omega), Lib.hid ⟨HL.out.1, HL.out.2⟩⟩
  case round =>
    obtain ⟨j, A, c, hj, rfl, rfl, hO⟩ := hrel
    by_cases hlt : j < q
    · obtain ⟨i, hii⟩ : ∃ i : Nat, (q : Int) - 1 - (j : Int) = (i : Int) := ⟨q - 1 - j, by omega⟩
      rw [hii]
      have h8 : i = 0 ∨ i = 1 ∨ i = 2 ∨ i = 3 ∨ i = 4 ∨ i = 5 ∨ i = 6 ∨ i = 7 := by omega
      obtain ⟨d, hd⟩ : ∃ d, n / 256 ^ i % 256 = d := ⟨_, rfl⟩
      have hd256 : d < 256 := by rw [← hd]; exact Nat.mod_lt _ (by decide)
      have HDJ : Hid (b0 :: lsF (fun i => n / 256 ^ (q - 1 - i) % 256) (j + 1) = (b0 :: lsF (fun i => n / 256 ^ (q - 1 - i) % 256) j) ++ [UInt8.ofNat d]) := Lib.hid (by rw [lsF_succ6, show q - 1 - j = i by omega, hd]; rfl)
      have U1 : Hid (∀ N : Nat, N = 256 ^ i → IntKind.u8.wrap ((n : Int) / (N : Int)) = (d : Int)) := Lib.hid (fun N hN => by
        rw [IntKind.wrap_u8, ← hd, hN]
        simp)
      obtain ⟨P, hP⟩ : ∃ P, b0 :: lsF (fun i => n / 256 ^ (q - 1 - i) % 256) j = P := ⟨_, rfl⟩
      have hPl : j + 1 = P.length := by rw [← hP, List.length_cons, lsF_len]
      rw [hP] at hO HDJ
      have HR : Hid (∀ W : World, Rd (W.alloc (.cells #[.int .u8 (d : Int)] 5)) .u8 (some ⟨W.heap.size, 0, none⟩) 1 (gL [UInt8.ofNat d])) := Lib.hid fun W => prd_b1 W hd256 _
      have HA := Lib.hid (own_below hO.out.1 ((Below.refl _ _).alloc (Nat.le_refl _) (.cells #[.int .u8 (d : Int)] 5)))
      have HB2 := Lib.hid (hO.out.2.alloc hO.out.2.size (.cells #[.int .u8 (d : Int)] 5))
      have hsz : w.heap.size ≤ (wr.alloc (.cells #[.int .u8 (d : Int)] 5)).heap.size := HB2.out.size
      have hln : j + 1 + 1 ≤ 140737488355328 := by omega
      clear hd hP
      have k0 : IntKind.i64.wrap 0 = 0 := by decide
      have k1 : IntKind.i64.wrap 8 = 8 := by decide
      have k2 : IntKind.i64.wrap 16 = 16 := by decide
      have k3 : IntKind.i64.wrap 24 = 24 := by decide
      have k4 : IntKind.i64.wrap 32 = 32 := by decide
      have k5 : IntKind.i64.wrap 40 = 40 := by decide
      have k6 : IntKind.i64.wrap 48 = 48 := by decide
      have k7 : IntKind.i64.wrap 56 = 56 := by decide
      rcases h8 with rfl | rfl | rfl | rfl | rfl | rfl | rfl | rfl
      all_goals
        first
          | (have u2 : IntKind.u8.wrap (n : Int) = (d : Int) := by have := U1.out 1 (by decide); rw [show ((1 : Nat) : Int) = 1 from rfl, Int.ediv_one] at this; exact this)
          | (have u2 : IntKind.u8.wrap ((n : Int) / 256) = (d : Int) := U1.out 256 (by decide))
          | (have u2 : IntKind.u8.wrap ((n : Int) / 65536) = (d : Int) := U1.out 65536 (by decide))
          | (have u2 : IntKind.u8.wrap ((n : Int) / 16777216) = (d : Int) := U1.out 16777216 (by decide))
          | (have u2 : IntKind.u8.wrap ((n : Int) / 4294967296) = (d : Int) := U1.out 4294967296 (by decide))
          | (have u2 : IntKind.u8.wrap ((n : Int) / 1099511627776) = (d : Int) := U1.out 1099511627776 (by decide))
          | (have u2 : IntKind.u8.wrap ((n : Int) / 281474976710656) = (d : Int) := U1.out 281474976710656 (by decide))
          | (have u2 : IntKind.u8.wrap ((n : Int) / 72057594037927936) = (d : Int) := U1.out 72057594037927936 (by decide))
        clear U1
        go_wp2_with (at_builtin; refine wpList_appB rfl _ _ _ rfl w.heap.size 5 i0 _ Try.underlying26 hi hz0 hz1 hz2 rfl _ (j + 1) P hPl rfl HA.out _ 1 1 [UInt8.ofNat d] rfl rfl (HR.out _) hln hsz ?_; intro v1 w1 hown1 hb1)
        obtain ⟨A1, c1, rfl, -, -, -⟩ := rd_list (by rw [List.length_append, ← hPl]; rfl) hown1
        have HN := Lib.hid (And.intro hown1 (HB2.out.trans hb1))
        clear hown1 hb1
        go_wp2_with fail
        go_roundw
        case rel => exact ⟨j + 1, A1, c1, by omega, rfl, congrArg (Value.int .i64) (by omega), Lib.hid ⟨by rw [HDJ.out]; exact HN.out.1, HN.out.2⟩⟩
        case measure => simp [intOf]
    · obtain rfl : j = q := by omega
      have hneg : ((j : Int) - 1 - (j : Int)) = -1 := by omega
      rw [hneg]
      clear hneg
      go_wp2_with fail
      exact bodyPost_ret (v := .slice A (j + 1) c) (by simp [results, Try.results22, go_sem]) rfl ⟨_, rfl, by rw [HT.out, List.length_cons, lsF_len]; exact hO.out.1, hO.out.2⟩
end Go.Proofs.Ytfchondipjiicaa.nn
namespace Go.Proofs.Ytfchondipjiicaa.nn
open Go.RowKit

theorem Box.five {w W : World} {t : VT} {C : Value} (h : Box w t C W) : W.cell? ⟨w.heap.size, 0, none⟩ = some (.int .i64 t.k) ∧ W.cell? ⟨w.heap.size, 1, none⟩ = some (.bool t.g) ∧ W.cell? ⟨w.heap.size, 2, none⟩ = some (.int .u64 (t.n : Int)) ∧ W.cell? ⟨w.heap.size, 3, none⟩ = some (.string t.s) ∧ W.cell? ⟨w.heap.size, 4, none⟩ = some C := ⟨h.r.k, h.r.g, h.r.n, h.r.s, h.r.l⟩
end Go.Proofs.Ytfchondipjiicaa.nn
namespace Go.Proofs.Ytfchondipjiicaa.nn
open Go.RowKit

theorem neIt {c k : Int} (h : c ≠ k) : (c == k) = false ∧ (c != k) = true := ⟨by simp [h], by simp [h]⟩
def tmX (s : ByteArray) : Nat := if s.size = 4 then nS s else if s.size = 8 then nS s % 17179869184 else nS (s.extract 4 12)
def tmY (s : ByteArray) : Nat := if s.size = 4 then 0 else if s.size = 8 then nS s / 17179869184 else nS (s.extract 0 4)
def tmOk (t : VT) : Prop := t.k = 14 ∧ t.n = 255 ∧ t.g = false ∧ t.l.length = 0 ∧ (t.s.size = 4 ∨ t.s.size = 8 ∨ t.s.size = 12) ∧ tmY t.s < 1000000000
def tmR (x y : Nat) : Value := .tuple #[.int .i64 (wrap64 (x : Int)), .int .u32 (y : Int), .bool true]
def tmNo : Value := .tuple #[.int .i64 0, .int .u32 0, .bool false]
instance (t : VT) : Decidable (tmOk t) := by unfold tmOk; infer_instance
def tmV (t : VT) : Value := if tmOk t then tmR (tmX t.s) (tmY t.s) else tmNo
theorem ext4_size {s : ByteArray} (h : s.size = 12) : (s.extract 0 4).size = 4 ∧ (s.extract 4 12).size = 8 := by
  rw [ByteArray.size_extract, ByteArray.size_extract]; omega
theorem u64_low34 (a : Nat) (ha : a < 18446744073709551616) : bits .and .u64 (a : Int) 17179869183 = ((a % 17179869184 : Nat) : Int) :=
  (u64_and_nat a 17179869183 ha (by decide)).trans (by rw [and_mask a 34])
/-- a time's answer by its number of nanoseconds -/
theorem tmV_by {t : VT} (h1 : t.k = 14) (h2 : t.n = 255) (h3 : t.g = false) (h4 : t.l.length = 0) (h5 : t.s.size = 4 ∨ t.s.size = 8 ∨ t.s.size = 12) : tmV t = if tmY t.s < 1000000000 then tmR (tmX t.s) (tmY t.s) else tmNo := by
  unfold tmV
  by_cases h6 : tmY t.s < 1000000000
  · rw [if_pos ⟨h1, h2, h3, h4, h5, h6⟩, if_pos h6]
  · rw [if_neg (fun h => h6 h.2.2.2.2.2), if_neg h6]
section
variable {w : World}
set_option maxRecDepth 100000 in
set_option maxHeartbeats 8000000 in
theorem ptime_any (t : VT) (C : Value) (hC : Lst w C t.l) (hLn : t.l.length ≤ 1099511627776) : Calls Try.prog 9 #[vv t C] w fun e w' => e = .returned (tmV t) ∧ Below w.heap.size w w' := by
  obtain ⟨A, cc, rfl, hlc, -⟩ := hC.out
  obtain ⟨W1, hW1⟩ : ∃ W1, w.alloc (.cells #[.int .i64 t.k, .bool t.g, .int .u64 (t.n : Int), .string t.s, .slice A t.l.length cc] 25) = W1 := ⟨_, rfl⟩
  have HX := Box.new w t (.slice A t.l.length cc) 25
  rw [hW1] at HX
  obtain ⟨c0, c1, c2, c3, c4⟩ := HX.five
  have HB := Lib.hid HX.b
  have HNB : Hid (∀ s : ByteArray, s.size ≤ 8 → ∀ W, Calls Try.prog 19 #[.string s] W fun e w' => e = .returned (.int .u64 (nS s : Int)) ∧ W = w') := Lib.hid fun s h W => pnumber_any s h
  have HW1 := Lib.hid hW1
  obtain ⟨V, hV⟩ : ∃ V, tmV t = V := ⟨_, rfl⟩
  rw [hV]
  obtain ⟨m, hm⟩ : ∃ m, t.l.length = m := ⟨_, rfl⟩
  have HT : Hid (∀ h : ¬ (t.k = 14 ∧ t.n = 255 ∧ t.g = false ∧ m = 0 ∧ (t.s.size = 4 ∨ t.s.size = 8 ∨ t.s.size = 12)), V = tmNo) := Lib.hid fun h => by
    rw [← hV]
    exact if_neg fun h2 => h ⟨h2.1, h2.2.1, h2.2.2.1, by rw [← hm]; exact h2.2.2.2.1, h2.2.2.2.2.1⟩
  have HO : Hid (t.k = 14 → t.n = 255 → t.g = false → m = 0 → (t.s.size = 4 ∨ t.s.size = 8 ∨ t.s.size = 12) → V = if tmY t.s < 1000000000 then tmR (tmX t.s) (tmY t.s) else tmNo) := Lib.hid fun h1 h2 h3 h4 h5 => by
    rw [← hV]
    exact tmV_by h1 h2 h3 (by rw [hm]; exact h4) h5
  rw [hm] at c4 HW1 hLn
  unfold vv
  rw [hm]
  clear hW1 HX hC hlc hV hm
  obtain ⟨k, hk⟩ : ∃ k, t.k = k := ⟨_, rfl⟩
  obtain ⟨n, hn⟩ : ∃ n, t.n = n := ⟨_, rfl⟩
  obtain ⟨g, hg⟩ : ∃ g, t.g = g := ⟨_, rfl⟩
  obtain ⟨s, hs⟩ : ∃ s, t.s = s := ⟨_, rfl⟩
  rw [hk] at c0
  rw [hn] at c2
  rw [hg] at c1
  rw [hs] at c3
  rw [hk, hn, hg, hs] at HW1 HT HO ⊢
  clear hk hn hg hs
  by_cases h1 : k = 14
  case neg =>
    have HV := Lib.hid (HT.out fun h => h1 h.1)
    rw [HV.out]
    obtain ⟨q1, q2⟩ := neIt h1
    clear HT HO HNB HV h1
    go_enter Try.func9, Try.ntmps9
    go_upto_region 1 with fail
    rw [HW1.out]
    clear HW1
    go_wp2_with fail
    exact bodyPost_ret (v := tmNo) (by simp [results, Try.results9, go_sem, tmNo]) rfl ⟨rfl, HB.out⟩
  subst h1
  by_cases h2 : n = 255
  case neg =>
    have HV := Lib.hid (HT.out fun h => h2 h.2.1)
    rw [HV.out]
    obtain ⟨q1, q2⟩ := neIt (c := (n : Int)) (k := 255) (by omega)
    clear HT HO HNB HV h2
    go_enter Try.func9, Try.ntmps9
    go_upto_region 1 with fail
    rw [HW1.out]
    clear HW1
    go_wp2_with fail
    exact bodyPost_ret (v := tmNo) (by simp [results, Try.results9, go_sem, tmNo]) rfl ⟨rfl, HB.out⟩
  subst h2
  have e255 : ((255 : Nat) : Int) = 255 := rfl
  rw [e255] at c2 HW1 ⊢
  clear e255
  cases g with
  | true =>
    have HV := Lib.hid (HT.out fun h => by cases h.2.2.1)
    rw [HV.out]
    clear HT HO HNB HV
    go_enter Try.func9, Try.ntmps9
    go_upto_region 1 with fail
    rw [HW1.out]
    clear HW1
    go_wp2_with fail
    exact bodyPost_ret (v := tmNo) (by simp [results, Try.results9, go_sem, tmNo]) rfl ⟨rfl, HB.out⟩
  | false =>
    by_cases h3 : m = 0
    case neg =>
      have HV := Lib.hid (HT.out fun h => h3 h.2.2.2.1)
      rw [HV.out]
      obtain ⟨q1, q2⟩ := neIt (c := (m : Int)) (k := 0) (by omega)
      have q3 : (0 : Int) < (m : Int) := by omega
      clear HT HO HNB HV h3
      go_enter Try.func9, Try.ntmps9
      go_upto_region 1 with fail
      rw [HW1.out]
      clear HW1
      go_wp2_with fail
      exact bodyPost_ret (v := tmNo) (by simp [results, Try.results9, go_sem, tmNo]) rfl ⟨rfl, HB.out⟩
    subst h3
    have HO2 := Lib.hid (HO.out rfl rfl rfl rfl)
    by_cases h4 : s.size = 4 ∨ s.size = 8 ∨ s.size = 12
    case neg =>
      have HV := Lib.hid (HT.out fun h => h4 h.2.2.2.2)
      rw [HV.out]
      obtain ⟨q1, q2⟩ := neIt (c := (s.size : Int)) (k := 4) (by omega)
      obtain ⟨q3, q4⟩ := neIt (c := (s.size : Int)) (k := 8) (by omega)
      obtain ⟨q5, q6⟩ := neIt (c := (s.size : Int)) (k := 12) (by omega)
      clear HT HO HNB HV h4 HO2
      go_enter Try.func9, Try.ntmps9
      go_upto_region 1 with fail
      rw [HW1.out]
      clear HW1
      go_wp2_with fail
      exact bodyPost_ret (v := tmNo) (by simp [results, Try.results9, go_sem, tmNo]) rfl ⟨rfl, HB.out⟩
    have HV := Lib.hid (HO2.out h4)
    clear HT HO HO2
    rcases h4 with h4 | h4 | h4
    · have h4' : (s.size : Int) = 4 := by omega
      have HV2 : Hid (V = tmR (nS s) 0) := Lib.hid (by rw [HV.out]; unfold tmY tmX; rw [if_pos h4, if_pos h4]; rfl)
      rw [HV2.out]
      have H1 := Lib.hid (HNB.out s (by omega))
      clear HV HV2 HNB
      obtain ⟨N, hN⟩ : ∃ N, nS s = N := ⟨_, rfl⟩
      rw [hN] at H1 ⊢
      clear hN
      go_enter Try.func9, Try.ntmps9
      go_upto_region 1 with fail
      rw [HW1.out]
      clear HW1
      go_wp2_with fail
      refine (H1.out _).mono ?_
      rintro e w2 ⟨rfl, rfl⟩
      clear H1
      go_wp2_with fail
      exact bodyPost_ret (v := tmR N 0) (by simp [results, Try.results9, go_sem, tmR]) rfl ⟨rfl, HB.out⟩
    · have h4' : (s.size : Int) = 8 := by omega
      have h4n : ((s.size : Int) == 4) = false := neI (by omega)
      have HV2 : Hid (V = if nS s / 17179869184 < 1000000000 then tmR (nS s % 17179869184) (nS s / 17179869184) else tmNo) := Lib.hid (by rw [HV.out, show tmY s = nS s / 17179869184 by unfold tmY; rw [if_neg (by omega : ¬ s.size = 4), if_pos h4], show tmX s = nS s % 17179869184 by unfold tmX; rw [if_neg (by omega : ¬ s.size = 4), if_pos h4]])
      rw [HV2.out]
      have hlt := nS_lt (s := s) (by omega)
      have H1 := Lib.hid (HNB.out s (by omega))
      clear HV HV2 HNB
      obtain ⟨N, hN⟩ : ∃ N, nS s = N := ⟨_, rfl⟩
      rw [hN] at H1 hlt ⊢
      clear hN
      have b1 := u64_low34 N hlt
      obtain ⟨X, hX⟩ : ∃ X, N % 17179869184 = X := ⟨_, rfl⟩
      obtain ⟨Y, hY⟩ : ∃ Y, N / 17179869184 = Y := ⟨_, rfl⟩
      have b2 : (N : Int) / 17179869184 = (Y : Int) := by omega
      have b3 : IntKind.u64.wrap (Y : Int) = (Y : Int) := by rw [IntKind.wrap_u64]; omega
      rw [hX] at b1 ⊢
      rw [hY]
      clear hX hY hlt
      by_cases h9 : Y < 1000000000
      · rw [if_pos h9]
        have g1 : decide ((1000000000 : Int) ≤ (Y : Int)) = false := decide_eq_false (by omega)
        have b4 : IntKind.u32.wrap (Y : Int) = (Y : Int) := by rw [IntKind.wrap_u32]; omega
        clear h9
        go_enter Try.func9, Try.ntmps9
        go_upto_region 1 with fail
        rw [HW1.out]
        clear HW1
        go_wp2_with fail
        refine (H1.out _).mono ?_
        rintro e w2 ⟨rfl, rfl⟩
        clear H1
        go_wp2_with fail
        exact bodyPost_ret (v := tmR X Y) (by simp [results, Try.results9, go_sem, tmR]) rfl ⟨rfl, HB.out⟩
      · rw [if_neg h9]
        have g1 : decide ((1000000000 : Int) ≤ (Y : Int)) = true := decide_eq_true (by omega)
        clear h9
        go_enter Try.func9, Try.ntmps9
        go_upto_region 1 with fail
        rw [HW1.out]
        clear HW1
        go_wp2_with fail
        refine (H1.out _).mono ?_
        rintro e w2 ⟨rfl, rfl⟩
        clear H1
        go_wp2_with fail
        exact bodyPost_ret (v := tmNo) (by simp [results, Try.results9, go_sem, tmNo]) rfl ⟨rfl, HB.out⟩
    · have h4' : (s.size : Int) = 12 := by omega
      have h4n : ((s.size : Int) == 4) = false := neI (by omega)
      have h4m : ((s.size : Int) == 8) = false := neI (by omega)
      have HV2 : Hid (V = if nS (s.extract 0 4) < 1000000000 then tmR (nS (s.extract 4 12)) (nS (s.extract 0 4)) else tmNo) := Lib.hid (by rw [HV.out, show tmY s = nS (s.extract 0 4) by unfold tmY; rw [if_neg (by omega : ¬ s.size = 4), if_neg (by omega : ¬ s.size = 8)], show tmX s = nS (s.extract 4 12) by unfold tmX; rw [if_neg (by omega : ¬ s.size = 4), if_neg (by omega : ¬ s.size = 8)]])
      rw [HV2.out]
      obtain ⟨z1, z2⟩ := ext4_size h4
      have H1 := Lib.hid (HNB.out (s.extract 0 4) (by omega))
      have H2 := Lib.hid (HNB.out (s.extract 4 12) (by omega))
      clear HV HV2 HNB z1 z2
      obtain ⟨Y, hY⟩ : ∃ N, nS (s.extract 0 4) = N := ⟨_, rfl⟩
      obtain ⟨X, hX⟩ : ∃ N, nS (s.extract 4 12) = N := ⟨_, rfl⟩
      rw [hY] at H1 ⊢
      rw [hX] at H2 ⊢
      clear hX hY
      by_cases h9 : Y < 1000000000
      · rw [if_pos h9]
        have g1 : decide ((1000000000 : Int) ≤ (Y : Int)) = false := decide_eq_false (by omega)
        have b4 : IntKind.u32.wrap (Y : Int) = (Y : Int) := by rw [IntKind.wrap_u32]; omega
        clear h9
        go_enter Try.func9, Try.ntmps9
        go_upto_region 1 with fail
        rw [HW1.out]
        clear HW1
        go_upto_region 12 with fail
        go_region_law (first | (go_simp; go_at_call 19; (with_reducible refine (H2.out _).mono ?_); rintro e w4 ⟨rfl, rfl⟩) | (go_simp; go_at_call 19; (with_reducible refine (H1.out _).mono ?_); rintro e w4 ⟨rfl, rfl⟩))
        all_goals
          clear H1 H2
          go_wp2_with fail
          exact bodyPost_ret (v := tmR X Y) (by simp [results, Try.results9, go_sem, tmR]) rfl ⟨rfl, by first | exact HB.out | exact Below.drew HB.out⟩
      · rw [if_neg h9]
        have g1 : decide ((1000000000 : Int) ≤ (Y : Int)) = true := decide_eq_true (by omega)
        clear h9
        go_enter Try.func9, Try.ntmps9
        go_upto_region 1 with fail
        rw [HW1.out]
        clear HW1
        go_upto_region 12 with fail
        go_region_law (first | (go_simp; go_at_call 19; (with_reducible refine (H2.out _).mono ?_); rintro e w4 ⟨rfl, rfl⟩) | (go_simp; go_at_call 19; (with_reducible refine (H1.out _).mono ?_); rintro e w4 ⟨rfl, rfl⟩))
        all_goals
          clear H1 H2
          go_wp2_with fail
          exact bodyPost_ret (v := tmNo) (by simp [results, Try.results9, go_sem, tmNo]) rfl ⟨rfl, by first | exact HB.out | exact Below.drew HB.out⟩
set_option maxRecDepth 100000 in
set_option maxHeartbeats 8000000 in
theorem rtime_any (t : VT) (C : Value) (hC : Lst w C t.l) (hLn : t.l.length ≤ 1099511627776) : Calls Try.prog 10 #[vv t C] w fun e w' => e = .returned (tmV t) ∧ Below w.heap.size w w' := by
  obtain ⟨A, cc, rfl, hlc, -⟩ := hC.out
  obtain ⟨W1, hW1⟩ : ∃ W1, w.alloc (.cells #[.int .i64 t.k, .bool t.g, .int .u64 (t.n : Int), .string t.s, .slice A t.l.length cc] 25) = W1 := ⟨_, rfl⟩
  have HX := Box.new w t (.slice A t.l.length cc) 25
  rw [hW1] at HX
  obtain ⟨c0, c1, c2, c3, c4⟩ := HX.five
  have HB := Lib.hid HX.b
  have HNB : Hid (∀ s : ByteArray, s.size ≤ 8 → ∀ W, Calls Try.prog 20 #[.string s] W fun e w' => e = .returned (.int .u64 (nS s : Int)) ∧ W = w') := Lib.hid fun s h W => rnumber_any s h
  have HW1 := Lib.hid hW1
  obtain ⟨V, hV⟩ : ∃ V, tmV t = V := ⟨_, rfl⟩
  rw [hV]
  obtain ⟨m, hm⟩ : ∃ m, t.l.length = m := ⟨_, rfl⟩
  have HT : Hid (∀ h : ¬ (t.k = 14 ∧ t.n = 255 ∧ t.g = false ∧ m = 0 ∧ (t.s.size = 4 ∨ t.s.size = 8 ∨ t.s.size = 12)), V = tmNo) := Lib.hid fun h => by
    rw [← hV]
    exact if_neg fun h2 => h ⟨h2.1, h2.2.1, h2.2.2.1, by rw [← hm]; exact h2.2.2.2.1, h2.2.2.2.2.1⟩
  have HO : Hid (t.k = 14 → t.n = 255 → t.g = false → m = 0 → (t.s.size = 4 ∨ t.s.size = 8 ∨ t.s.size = 12) → V = if tmY t.s < 1000000000 then tmR (tmX t.s) (tmY t.s) else tmNo) := Lib.hid fun h1 h2 h3 h4 h5 => by
    rw [← hV]
    exact tmV_by h1 h2 h3 (by rw [hm]; exact h4) h5
  rw [hm] at c4 HW1 hLn
  unfold vv
  rw [hm]
  clear hW1 HX hC hlc hV hm
  obtain ⟨k, hk⟩ : ∃ k, t.k = k := ⟨_, rfl⟩
  obtain ⟨n, hn⟩ : ∃ n, t.n = n := ⟨_, rfl⟩
  obtain ⟨g, hg⟩ : ∃ g, t.g = g := ⟨_, rfl⟩
  obtain ⟨s, hs⟩ : ∃ s, t.s = s := ⟨_, rfl⟩
  rw [hk] at c0
  rw [hn] at c2
  rw [hg] at c1
  rw [hs] at c3
  rw [hk, hn, hg, hs] at HW1 HT HO ⊢
  clear hk hn hg hs
  by_cases h1 : k = 14
  case neg =>
    have HV := Lib.hid (HT.out fun h => h1 h.1)
    rw [HV.out]
    obtain ⟨q1, q2⟩ := neIt h1
    clear HT HO HNB HV h1
    go_enter Try.func10, Try.ntmps10
    go_upto_region 1 with fail
    rw [HW1.out]
    clear HW1
    go_wp2_with fail
    exact bodyPost_ret (v := tmNo) (by simp [results, Try.results10, go_sem, tmNo]) rfl ⟨rfl, HB.out⟩
  subst h1
  by_cases h2 : n = 255
  case neg =>
    have HV := Lib.hid (HT.out fun h => h2 h.2.1)
    rw [HV.out]
    obtain ⟨q1, q2⟩ := neIt (c := (n : Int)) (k := 255) (by omega)
    clear HT HO HNB HV h2
    go_enter Try.func10, Try.ntmps10
    go_upto_region 1 with fail
    rw [HW1.out]
    clear HW1
    go_wp2_with fail
    exact bodyPost_ret (v := tmNo) (by simp [results, Try.results10, go_sem, tmNo]) rfl ⟨rfl, HB.out⟩
  subst h2
  have e255 : ((255 : Nat) : Int) = 255 := rfl
  rw [e255] at c2 HW1 ⊢
  clear e255
  cases g with
  | true =>
    have HV := Lib.hid (HT.out fun h => by cases h.2.2.1)
    rw [HV.out]
    clear HT HO HNB HV
    go_enter Try.func10, Try.ntmps10
    go_upto_region 1 with fail
    rw [HW1.out]
    clear HW1
    go_wp2_with fail
    exact bodyPost_ret (v := tmNo) (by simp [results, Try.results10, go_sem, tmNo]) rfl ⟨rfl, HB.out⟩
  | false =>
    by_cases h3 : m = 0
    case neg =>
      have HV := Lib.hid (HT.out fun h => h3 h.2.2.2.1)
      rw [HV.out]
      obtain ⟨q1, q2⟩ := neIt (c := (m : Int)) (k := 0) (by omega)
      have q3 : (0 : Int) < (m : Int) := by omega
      clear HT HO HNB HV h3
      go_enter Try.func10, Try.ntmps10
      go_upto_region 1 with fail
      rw [HW1.out]
      clear HW1
      go_wp2_with fail
      exact bodyPost_ret (v := tmNo) (by simp [results, Try.results10, go_sem, tmNo]) rfl ⟨rfl, HB.out⟩
    subst h3
    have HO2 := Lib.hid (HO.out rfl rfl rfl rfl)
    by_cases h4 : s.size = 4 ∨ s.size = 8 ∨ s.size = 12
    case neg =>
      have HV := Lib.hid (HT.out fun h => h4 h.2.2.2.2)
      rw [HV.out]
      obtain ⟨q1, q2⟩ := neIt (c := (s.size : Int)) (k := 4) (by omega)
      obtain ⟨q3, q4⟩ := neIt (c := (s.size : Int)) (k := 8) (by omega)
      obtain ⟨q5, q6⟩ := neIt (c := (s.size : Int)) (k := 12) (by omega)
      clear HT HO HNB HV h4 HO2
      go_enter Try.func10, Try.ntmps10
      go_upto_region 1 with fail
      rw [HW1.out]
      clear HW1
      go_wp2_with fail
      exact bodyPost_ret (v := tmNo) (by simp [results, Try.results10, go_sem, tmNo]) rfl ⟨rfl, HB.out⟩
    have HV := Lib.hid (HO2.out h4)
    clear HT HO HO2
    rcases h4 with h4 | h4 | h4
    · have h4' : (s.size : Int) = 4 := by omega
      have HV2 : Hid (V = tmR (nS s) 0) := Lib.hid (by rw [HV.out]; unfold tmY tmX; rw [if_pos h4, if_pos h4]; rfl)
      rw [HV2.out]
      have H1 := Lib.hid (HNB.out s (by omega))
      clear HV HV2 HNB
      obtain ⟨N, hN⟩ : ∃ N, nS s = N := ⟨_, rfl⟩
      rw [hN] at H1 ⊢
      clear hN
      go_enter Try.func10, Try.ntmps10
      go_upto_region 1 with fail
      rw [HW1.out]
      clear HW1
      go_wp2_with fail
      refine (H1.out _).mono ?_
      rintro e w2 ⟨rfl, rfl⟩
      clear H1
      go_wp2_with fail
      exact bodyPost_ret (v := tmR N 0) (by simp [results, Try.results10, go_sem, tmR]) rfl ⟨rfl, HB.out⟩
    · have h4' : (s.size : Int) = 8 := by omega
      have h4n : ((s.size : Int) == 4) = false := neI (by omega)
      have HV2 : Hid (V = if nS s / 17179869184 < 1000000000 then tmR (nS s % 17179869184) (nS s / 17179869184) else tmNo) := Lib.hid (by rw [HV.out, show tmY s = nS s / 17179869184 by unfold tmY; rw [if_neg (by omega : ¬ s.size = 4), if_pos h4], show tmX s = nS s % 17179869184 by unfold tmX; rw [if_neg (by omega : ¬ s.size = 4), if_pos h4]])
      rw [HV2.out]
      have hlt := nS_lt (s := s) (by omega)
      have H1 := Lib.hid (HNB.out s (by omega))
      clear HV HV2 HNB
      obtain ⟨N, hN⟩ : ∃ N, nS s = N := ⟨_, rfl⟩
      rw [hN] at H1 hlt ⊢
      clear hN
      have b1 := u64_low34 N hlt
      obtain ⟨X, hX⟩ : ∃ X, N % 17179869184 = X := ⟨_, rfl⟩
      obtain ⟨Y, hY⟩ : ∃ Y, N / 17179869184 = Y := ⟨_, rfl⟩
      have b2 : (N : Int) / 17179869184 = (Y : Int) := by omega
      have b3 : IntKind.u64.wrap (Y : Int) = (Y : Int) := by rw [IntKind.wrap_u64]; omega
      rw [hX] at b1 ⊢
      rw [hY]
      clear hX hY hlt
      by_cases h9 : Y < 1000000000
      · rw [if_pos h9]
        have g1 : decide ((1000000000 : Int) ≤ (Y : Int)) = false := decide_eq_false (by omega)
        have b4 : IntKind.u32.wrap (Y : Int) = (Y : Int) := by rw [IntKind.wrap_u32]; omega
        clear h9
        go_enter Try.func10, Try.ntmps10
        go_upto_region 1 with fail
        rw [HW1.out]
        clear HW1
        go_wp2_with fail
        refine (H1.out _).mono ?_
        rintro e w2 ⟨rfl, rfl⟩
        go_wp2_with fail
        refine (H1.out _).mono ?_
        rintro e w2 ⟨rfl, rfl⟩
        clear H1
        go_wp2_with fail
        exact bodyPost_ret (v := tmR X Y) (by simp [results, Try.results10, go_sem, tmR]) rfl ⟨rfl, HB.out⟩
      · rw [if_neg h9]
        have g1 : decide ((1000000000 : Int) ≤ (Y : Int)) = true := decide_eq_true (by omega)
        clear h9
        go_enter Try.func10, Try.ntmps10
        go_upto_region 1 with fail
        rw [HW1.out]
        clear HW1
        go_wp2_with fail
        refine (H1.out _).mono ?_
        rintro e w2 ⟨rfl, rfl⟩
        go_wp2_with fail
        refine (H1.out _).mono ?_
        rintro e w2 ⟨rfl, rfl⟩
        clear H1
        go_wp2_with fail
        exact bodyPost_ret (v := tmNo) (by simp [results, Try.results10, go_sem, tmNo]) rfl ⟨rfl, HB.out⟩
    · have h4' : (s.size : Int) = 12 := by omega
      have h4n : ((s.size : Int) == 4) = false := neI (by omega)
      have h4m : ((s.size : Int) == 8) = false := neI (by omega)
      have HV2 : Hid (V = if nS (s.extract 0 4) < 1000000000 then tmR (nS (s.extract 4 12)) (nS (s.extract 0 4)) else tmNo) := Lib.hid (by rw [HV.out, show tmY s = nS (s.extract 0 4) by unfold tmY; rw [if_neg (by omega : ¬ s.size = 4), if_neg (by omega : ¬ s.size = 8)], show tmX s = nS (s.extract 4 12) by unfold tmX; rw [if_neg (by omega : ¬ s.size = 4), if_neg (by omega : ¬ s.size = 8)]])
      rw [HV2.out]
      obtain ⟨z1, z2⟩ := ext4_size h4
      have H1 := Lib.hid (HNB.out (s.extract 0 4) (by omega))
      have H2 := Lib.hid (HNB.out (s.extract 4 12) (by omega))
      clear HV HV2 HNB z1 z2
      obtain ⟨Y, hY⟩ : ∃ N, nS (s.extract 0 4) = N := ⟨_, rfl⟩
      obtain ⟨X, hX⟩ : ∃ N, nS (s.extract 4 12) = N := ⟨_, rfl⟩
      rw [hY] at H1 ⊢
      rw [hX] at H2 ⊢
      clear hX hY
      by_cases h9 : Y < 1000000000
      · rw [if_pos h9]
        have g1 : decide ((1000000000 : Int) ≤ (Y : Int)) = false := decide_eq_false (by omega)
        have b4 : IntKind.u32.wrap (Y : Int) = (Y : Int) := by rw [IntKind.wrap_u32]; omega
        clear h9
        go_enter Try.func10, Try.ntmps10
        go_upto_region 1 with fail
        rw [HW1.out]
        clear HW1
        go_wp2_with fail
        refine (H1.out _).mono ?_
        rintro e w2 ⟨rfl, rfl⟩
        go_wp2_with fail
        refine (H2.out _).mono ?_
        rintro e w2 ⟨rfl, rfl⟩
        clear H1 H2
        go_wp2_with fail
        exact bodyPost_ret (v := tmR X Y) (by simp [results, Try.results10, go_sem, tmR]) rfl ⟨rfl, HB.out⟩
      · rw [if_neg h9]
        have g1 : decide ((1000000000 : Int) ≤ (Y : Int)) = true := decide_eq_true (by omega)
        clear h9
        go_enter Try.func10, Try.ntmps10
        go_upto_region 1 with fail
        rw [HW1.out]
        clear HW1
        go_wp2_with fail
        refine (H1.out _).mono ?_
        rintro e w2 ⟨rfl, rfl⟩
        go_wp2_with fail
        refine (H2.out _).mono ?_
        rintro e w2 ⟨rfl, rfl⟩
        clear H1 H2
        go_wp2_with fail
        exact bodyPost_ret (v := tmNo) (by simp [results, Try.results10, go_sem, tmNo]) rfl ⟨rfl, HB.out⟩
end
end Go.Proofs.Ytfchondipjiicaa.nn
namespace Go.Proofs.Ytfchondipjiicaa.nn
open Go.RowKit

section
variable {B b : Nat} {l : List UInt8} {w : World}
set_option maxRecDepth 100000 in
set_option maxHeartbeats 8000000 in
/-- behind the head: the type and the bytes -/
theorem pext_any (t : VT) (C : Value) (h : Pw B b l w) (_ : t.n < 18446744073709551616) (hle : l.length + t.s.size + 40 ≤ 140737488355328) (hBw : B ≤ w.heap.size) :
    Calls Try.prog 31 #[.pointer (some ⟨b, 0, none⟩), vv t C] w (PwAns B b (l ++ pxP t.n t.s) w) := by
  have HN := Lib.hid (Ip.new h hBw #[.int .i64 t.k, .bool t.g, .int .u64 (t.n : Int), .string t.s, C])
  have hb := h.lt
  obtain ⟨n, hnn⟩ : ∃ n, t.n = n := ⟨_, rfl⟩
  obtain ⟨s, hss⟩ : ∃ n, t.s = n := ⟨_, rfl⟩
  obtain ⟨k, hkk⟩ : ∃ n, t.k = n := ⟨_, rfl⟩
  obtain ⟨g, hgg⟩ : ∃ n, t.g = n := ⟨_, rfl⟩
  unfold vv
  rw [hnn, hss, hkk, hgg] at HN ⊢
  rw [hss] at hle
  obtain ⟨cs, hcs⟩ : ∃ cs : Array Value, #[.int .i64 k, .bool g, .int .u64 (n : Int), .string s, C] = cs := ⟨_, rfl⟩
  rw [hcs] at HN
  have HC : Hid (∀ l' W, Ip w B b l' cs W → W.cell? ⟨w.heap.size, 2, none⟩ = some (.int .u64 (n : Int)) ∧ W.cell? ⟨w.heap.size, 3, none⟩ = some (.string s)) := Lib.hid fun l' W hW => by
    have h2 := hW.cell 2
    have h3 := hW.cell 3
    rw [← hcs] at h2 h3
    exact ⟨h2, h3⟩
  have HF : Hid (∀ (l' : List UInt8) (d : Nat) W, Ip w B b l' cs W → d < 256 → l'.length + 1 ≤ 140737488355328 → Calls Try.prog 26 #[.pointer (some ⟨b, 0, none⟩), .int .u8 (d : Int)] W fun e w' => e = .returned (.tuple #[]) ∧ Ip w B b (l' ++ [UInt8.ofNat d]) cs w') := Lib.hid fun l' d W hW hd hl => (pfirst_any B b l' d W hW.wr hd hl hW.sz).mono fun e w' hs => ⟨hs.1, hW.step hs hb⟩
  have hk8 : 1 * 2 ^ lsK s.size 1 ≤ 8 := by have := two_lsK s.size 1; omega
  have HH : Hid (∀ W, Ip w B b l cs W → Calls Try.prog 28 #[.pointer (some ⟨b, 0, none⟩), .int .u8 199, .int .i64 1, .int .u64 (s.size : Int)] W fun e w' => e = .returned (.tuple #[]) ∧ Ip w B b (l ++ phP 199 1 s.size) cs w') := Lib.hid fun W hW => (phead_any B b l 199 1 s.size W hW.wr (by decide) (.inl rfl) (by omega) hk8 (by omega) hW.sz).mono fun e w' hs => ⟨hs.1, hW.step hs hb⟩
  have HW1 := Lib.hid hcs
  obtain ⟨nb, hnb⟩ : ∃ x, n % 256 = x := ⟨_, rfl⟩
  have hnb256 : nb < 256 := by omega
  have u1 : IntKind.u8.wrap (n : Int) = (nb : Int) := by rw [IntKind.wrap_u8]; omega
  obtain ⟨P, hP⟩ : ∃ P, peP s.size = P := ⟨_, rfl⟩
  have hPl : P.length ≤ 9 := by rw [← hP]; exact peP_le _
  have HT : Hid (l ++ pxP n s = (l ++ P ++ [UInt8.ofNat nb]) ++ s.data.toList) := Lib.hid (by unfold pxP; rw [hP, hnb]; simp only [List.append_assoc])
  have hln : (l ++ P ++ [UInt8.ofNat nb]).length + s.size ≤ 140737488355328 := by simp only [List.length_append, List.length_singleton]; omega
  have hl1 : (l ++ P).length + 1 ≤ 140737488355328 := by rw [List.length_append]; omega
  have hl0 : l.length + 1 ≤ 140737488355328 := by omega
  have u9 : IntKind.u64.wrap (s.size : Int) = (s.size : Int) := by rw [IntKind.wrap_u64]; omega
  rw [HT.out]
  have hHS : ∀ W, Ip w B b (l ++ P ++ [UInt8.ofNat nb]) cs W → ∃ v, Pbk B b v v (l ++ P ++ [UInt8.ofNat nb]) W ∧ Below B w W ∧ Kq b w W ∧ B ≤ W.heap.size := fun W hW => by
    obtain ⟨v, hv⟩ := hW.wr
    exact ⟨v, hv, hW.bl, hW.kw, hW.sz⟩
  have HHS := Lib.hid hHS
  clear h hle hBw hnn hss hkk hgg hb hHS hk8 hnb hPl HT
  have hcase : (∃ d : Nat, P = [UInt8.ofNat d] ∧ ((s.size = 1 ∧ d = 212) ∨ (s.size = 2 ∧ d = 213) ∨ (s.size = 4 ∧ d = 214) ∨ (s.size = 8 ∧ d = 215) ∨ (s.size = 16 ∧ d = 216))) ∨ (P = phP 199 1 s.size ∧ ¬ s.size = 1 ∧ ¬ s.size = 2 ∧ ¬ s.size = 4 ∧ ¬ s.size = 8 ∧ ¬ s.size = 16) := by
    rw [← hP]
    unfold peP
    by_cases h1 : s.size = 1
    · rw [if_pos h1]; exact .inl ⟨212, rfl, .inl ⟨h1, rfl⟩⟩
    · by_cases h2 : s.size = 2
      · rw [if_neg h1, if_pos h2]; exact .inl ⟨213, rfl, .inr (.inl ⟨h2, rfl⟩)⟩
      · by_cases h4 : s.size = 4
        · rw [if_neg h1, if_neg h2, if_pos h4]; exact .inl ⟨214, rfl, .inr (.inr (.inl ⟨h4, rfl⟩))⟩
        · by_cases h8 : s.size = 8
          · rw [if_neg h1, if_neg h2, if_neg h4, if_pos h8]; exact .inl ⟨215, rfl, .inr (.inr (.inr (.inl ⟨h8, rfl⟩)))⟩
          · by_cases h16 : s.size = 16
            · rw [if_neg h1, if_neg h2, if_neg h4, if_neg h8, if_pos h16]; exact .inl ⟨216, rfl, .inr (.inr (.inr (.inr ⟨h16, rfl⟩)))⟩
            · rw [if_neg h1, if_neg h2, if_neg h4, if_neg h8, if_neg h16]; exact .inr ⟨rfl, h1, h2, h4, h8, h16⟩
  clear hP
  rcases hcase with ⟨d, hPd, hd⟩ | ⟨hPd, g1, g2, g4, g8, g16⟩
  · have hd256 : d < 256 := by omega
    have H1 := Lib.hid (HF.out l d _ HN.out hd256 hl0)
    have H2 : Hid (∀ W, Ip w B b (l ++ [UInt8.ofNat d]) cs W → Calls Try.prog 26 #[.pointer (some ⟨b, 0, none⟩), .int .u8 (nb : Int)] W fun e w' => e = .returned (.tuple #[]) ∧ Ip w B b (l ++ P ++ [UInt8.ofNat nb]) cs w') := Lib.hid fun W hW => by
      rw [← hPd] at hW
      exact HF.out _ nb W hW hnb256 hl1
    obtain ⟨L3, hL3⟩ : ∃ L3, l ++ P ++ [UInt8.ofNat nb] = L3 := ⟨_, rfl⟩
    rw [hL3] at H2 HHS hln ⊢
    clear hPd hd256 hl0 hl1 HF HH hL3 HN HW1
    subst hcs
    rcases hd with ⟨hs1, rfl⟩ | ⟨hs1, rfl⟩ | ⟨hs1, rfl⟩ | ⟨hs1, rfl⟩ | ⟨hs1, rfl⟩
    all_goals
      have q1 : (s.size : Int) = _ := congrArg Nat.cast hs1
      go_enter Try.func31, Try.ntmps31
      go_wp2_with fail
      refine H1.out.mono ?_
      rintro e w1 ⟨rfl, h1⟩
      have HH1 := Lib.hid h1
      obtain ⟨e2, e3⟩ := HC.out _ _ HH1.out
      clear h1
      go_wp2_with fail
      refine (H2.out _ HH1.out).mono ?_
      rintro e w2 ⟨rfl, h2⟩
      have HH2 := Lib.hid h2
      clear e2 e3 h2
      obtain ⟨e2, e3⟩ := HC.out _ _ HH2.out
      obtain ⟨v, hv, hb2, hk2, hz2⟩ := HHS.out _ HH2.out
      have c0 := hv.c0
      have HV := Lib.hid hv
      have HA : Hid (Pbk B b v v L3 w2.drew) := Lib.hid (hv.below (Below.drew (Below.refl _ _)))
      have HB2 : Hid (Below B w w2.drew ∧ Kq b w w2.drew) := Lib.hid ⟨hb2.trans (Below.drew (Below.refl _ _)), hk2.trans (Kq.drew (Kq.refl _ _))⟩
      have hsz : B ≤ w2.drew.heap.size := hz2
      clear hv hb2 hk2 hz2 HC HHS H1 H2 HH1 HH2
      go_wp2_with fail
      go_region_law (refine step_appPS rfl (.tmp 44) (.tmp 46) rfl B b v L3 s rfl HA.out rfl hln hsz ?_; intro v2 w3 h3 hb3 hk3; have d0 := h3.c0; have f0 := h3.f0; obtain ⟨A2, n2, c2, rfl⟩ := h3.form)
      all_goals
        have HZ := Lib.hid (And.intro h3.put (And.intro ((HB2.out.1.trans hb3).setCell (p := ⟨b, 0, none⟩) HV.out.1 (.slice A2 n2 c2)) ((HB2.out.2.trans hk3).set 0 (.slice A2 n2 c2))))
        clear h3 hb3 hk3 d0 f0 c0
        go_wp2_with fail
        go_end0
        exact ⟨rfl, HZ.out⟩
  · have H1 := Lib.hid (HH.out _ HN.out)
    have H2 : Hid (∀ W, Ip w B b (l ++ phP 199 1 s.size) cs W → Calls Try.prog 26 #[.pointer (some ⟨b, 0, none⟩), .int .u8 (nb : Int)] W fun e w' => e = .returned (.tuple #[]) ∧ Ip w B b (l ++ P ++ [UInt8.ofNat nb]) cs w') := Lib.hid fun W hW => by
      rw [← hPd] at hW
      exact HF.out _ nb W hW hnb256 hl1
    obtain ⟨L3, hL3⟩ : ∃ L3, l ++ P ++ [UInt8.ofNat nb] = L3 := ⟨_, rfl⟩
    rw [hL3] at H2 HHS hln ⊢
    obtain ⟨L1, hL1⟩ : ∃ L1, l ++ phP 199 1 s.size = L1 := ⟨_, rfl⟩
    rw [hL1] at H1 H2
    have r1 : ((s.size : Int) == 1) = false := by simp; omega
    have r2 : ((s.size : Int) == 2) = false := by simp; omega
    have r4 : ((s.size : Int) == 4) = false := by simp; omega
    have r8 : ((s.size : Int) == 8) = false := by simp; omega
    have r16 : ((s.size : Int) == 16) = false := by simp; omega
    clear hPd hl0 hl1 HF HH hL3 hL1 HN HW1 g1 g2 g4 g8 g16
    subst hcs
    go_enter Try.func31, Try.ntmps31
    go_wp2_with fail
    refine H1.out.mono ?_
    rintro e w1 ⟨rfl, h1⟩
    have HH1 := Lib.hid h1
    obtain ⟨e2, e3⟩ := HC.out _ _ HH1.out
    clear h1
    go_wp2_with fail
    refine (H2.out _ HH1.out).mono ?_
    rintro e w2 ⟨rfl, h2⟩
    have HH2 := Lib.hid h2
    clear e2 e3 h2
    obtain ⟨e2, e3⟩ := HC.out _ _ HH2.out
    obtain ⟨v, hv, hb2, hk2, hz2⟩ := HHS.out _ HH2.out
    have c0 := hv.c0
    have HV := Lib.hid hv
    have HA : Hid (Pbk B b v v L3 w2.drew) := Lib.hid (hv.below (Below.drew (Below.refl _ _)))
    have HB2 : Hid (Below B w w2.drew ∧ Kq b w w2.drew) := Lib.hid ⟨hb2.trans (Below.drew (Below.refl _ _)), hk2.trans (Kq.drew (Kq.refl _ _))⟩
    have hsz : B ≤ w2.drew.heap.size := hz2
    clear hv hb2 hk2 hz2 HC HHS H1 H2 HH1 HH2
    go_wp2_with fail
    go_region_law (refine step_appPS rfl (.tmp 44) (.tmp 46) rfl B b v L3 s rfl HA.out rfl hln hsz ?_; intro v2 w3 h3 hb3 hk3; have d0 := h3.c0; have f0 := h3.f0; obtain ⟨A2, n2, c2, rfl⟩ := h3.form)
    all_goals
      have HZ := Lib.hid (And.intro h3.put (And.intro ((HB2.out.1.trans hb3).setCell (p := ⟨b, 0, none⟩) HV.out.1 (.slice A2 n2 c2)) ((HB2.out.2.trans hk3).set 0 (.slice A2 n2 c2))))
      clear h3 hb3 hk3 d0 f0 c0
      go_wp2_with fail
      go_end0
      exact ⟨rfl, HZ.out⟩
end
end Go.Proofs.Ytfchondipjiicaa.nn
namespace Go.Proofs.Ytfchondipjiicaa.nn
open Go.RowKit

theorem say_leaf {t : VT} (hl : t.l = []) : say t = pkS t.k t.g t.n := by rw [say_mk, hl]; show (pkS t.k t.g t.n && true) = _; rw [Bool.and_true]
section
variable {B b : Nat} {l : List UInt8} {w : World}
set_option maxRecDepth 100000 in
set_option maxHeartbeats 4000000 in
theorem pitem_a (t : VT) (C : Value) (h : Pw B b l w) (hk : t.k = 0 ∨ t.k = 1) (hn : t.k = 1 → t.n ≤ 1) (hl : t.l = []) (hle : l.length + 40 ≤ 140737488355328) (hBw : B ≤ w.heap.size) :
    Calls Try.prog 15 #[.pointer (some ⟨b, 0, none⟩), vv t C] w (ItP B b (l ++ pkB t) (say t) w) := by
  have HN := Lib.hid (Ip.new h hBw #[.int .i64 t.k, .bool t.g, .int .u64 (t.n : Int), .string t.s, C])
  have hb := h.lt
  have hsay : say t = true := by
    rw [say_leaf hl]
    unfold pkS
    rw [if_neg (by omega), decide_eq_false (by omega)]
    rfl
  rw [hsay]
  have hi := pkB_mk t
  obtain ⟨R, hR⟩ : ∃ R, pkB t = R := ⟨_, rfl⟩
  rw [hR] at hi ⊢
  obtain ⟨n, hnn⟩ : ∃ n, t.n = n := ⟨_, rfl⟩
  obtain ⟨k, hkk⟩ : ∃ k, t.k = k := ⟨_, rfl⟩
  unfold vv
  rw [hkk, hnn] at HN hi ⊢
  rw [hkk] at hk hn
  rw [hnn] at hn
  have H1 : Hid (∀ (d : Nat) W, d < 256 → Ip w B b l #[.int .i64 k, .bool t.g, .int .u64 (n : Int), .string t.s, C] W → Calls Try.prog 26 #[.pointer (some ⟨b, 0, none⟩), .int .u8 (d : Int)] W fun e w' => e = .returned (.tuple #[]) ∧ Ip w B b (l ++ [UInt8.ofNat d]) #[.int .i64 k, .bool t.g, .int .u64 (n : Int), .string t.s, C] w') := Lib.hid fun d W hd hW => (pfirst_any B b l d W hW.wr hd (by omega) hW.sz).mono fun e w' hs => ⟨hs.1, hW.step hs hb⟩
  have HI := Lib.hid hi
  clear h hsay hi hR hb hl hle hBw
  rcases hk with rfl | rfl
  · have HR : Hid (R = [UInt8.ofNat 192]) := Lib.hid HI.out
    have H2 := Lib.hid (H1.out 192 _ (by decide) HN.out)
    clear HI H1 hkk hnn hn
    go_enter Try.func15, Try.ntmps15
    go_wp2_with fail
    refine H2.out.mono ?_
    rintro e w1 ⟨rfl, h1⟩
    have HH := Lib.hid h1
    clear h1 H2
    go_wp2_with fail
    exact bodyPost_ret (v := .int .i64 0) (by simp [results, Try.results15, go_sem]) rfl (HH.out.it (by rw [HR.out]))
  · have hn1 := hn rfl
    have HR : Hid (R = [UInt8.ofNat (194 + n)]) := Lib.hid HI.out
    have H2 := Lib.hid (H1.out (194 + n) _ (by omega) HN.out)
    have u1 : IntKind.u8.wrap (n : Int) = (n : Int) := by rw [IntKind.wrap_u8]; omega
    have u2 : IntKind.u8.wrap (194 + (n : Int)) = ((194 + n : Nat) : Int) := by rw [IntKind.wrap_u8]; omega
    obtain ⟨d, hd⟩ : ∃ d, 194 + n = d := ⟨_, rfl⟩
    rw [hd] at HR H2 u2
    clear HI H1 hkk hnn hn hn1 hd
    go_enter Try.func15, Try.ntmps15
    go_wp2_with fail
    refine H2.out.mono ?_
    rintro e w1 ⟨rfl, h1⟩
    have HH := Lib.hid h1
    clear h1 H2
    go_wp2_with fail
    exact bodyPost_ret (v := .int .i64 0) (by simp [results, Try.results15, go_sem]) rfl (HH.out.it (by rw [HR.out]))
set_option maxRecDepth 100000 in
set_option maxHeartbeats 4000000 in
theorem pitem_int (t : VT) (C : Value) (h : Pw B b l w) (hk : t.k = 4) (hn : t.n < 18446744073709551616) (hl : t.l = []) (hle : l.length + 40 ≤ 140737488355328) (hBw : B ≤ w.heap.size) :
    Calls Try.prog 15 #[.pointer (some ⟨b, 0, none⟩), vv t C] w (ItP B b (l ++ pkB t) (say t) w) := by
  have HN := Lib.hid (Ip.new h hBw #[.int .i64 t.k, .bool t.g, .int .u64 (t.n : Int), .string t.s, C])
  have hsay : say t = (!t.g || decide (t.n < 9223372036854775808)) := by
    rw [say_leaf hl]
    unfold pkS
    rw [if_pos hk]
  have hi : pkB t = pnP t.g t.n := by rw [pkB_mk, hk]; rfl
  rw [hsay, hi]
  have H1 : Hid (∀ W, Ip w B b l #[.int .i64 t.k, .bool t.g, .int .u64 (t.n : Int), .string t.s, C] W → Calls Try.prog 27 #[.pointer (some ⟨b, 0, none⟩), vv t C] W (ItP B b (l ++ pnP t.g t.n) (!t.g || decide (t.n < 9223372036854775808)) w)) := Lib.hid fun W hW => (pwhole_any t C hW.wr hn (by omega) hW.sz).mono fun e w' ha => ItP.behind hW ha
  obtain ⟨R, hR⟩ : ∃ R, l ++ pnP t.g t.n = R := ⟨_, rfl⟩
  obtain ⟨D, hD⟩ : ∃ D, (!t.g || decide (t.n < 9223372036854775808)) = D := ⟨_, rfl⟩
  rw [hR, hD] at H1 ⊢
  unfold vv at H1 ⊢
  rw [hk] at H1 HN ⊢
  have H2 := Lib.hid (H1.out _ HN.out)
  clear h hsay hi hR hD hl hle hBw hk hn H1
  go_enter Try.func15, Try.ntmps15
  go_wp2_with fail
  refine H2.out.mono ?_
  rintro e w2 ⟨h2a, ⟨hx, rfl, h2c⟩ | ⟨hx, rfl⟩⟩
  · have HZ := Lib.hid (And.intro h2a (And.intro hx h2c))
    clear h2a h2c hx H2
    go_wp2_with fail
    exact bodyPost_ret (v := .int .i64 0) (by simp [results, Try.results15, go_sem]) rfl ⟨HZ.out.1, .inl ⟨HZ.out.2.1, rfl, HZ.out.2.2⟩⟩
  · have HZ := Lib.hid (And.intro h2a hx)
    clear h2a hx H2
    go_wp2_with fail
    exact bodyPost_ret (v := .int .i64 10) (by simp [results, Try.results15, go_sem]) rfl ⟨HZ.out.1, .inr ⟨HZ.out.2, rfl⟩⟩
end
end Go.Proofs.Ytfchondipjiicaa.nn
namespace Go.Proofs.Ytfchondipjiicaa.nn
open Go.RowKit

section
variable {B b : Nat} {l : List UInt8} {w : World}
set_option maxRecDepth 100000 in
set_option maxHeartbeats 4000000 in
theorem pitem_fl (t : VT) (C : Value) (h : Pw B b l w) (hk : t.k = 7 ∨ t.k = 8) (hn : t.n < 18446744073709551616) (hl : t.l = []) (hle : l.length + 40 ≤ 140737488355328) (hBw : B ≤ w.heap.size) :
    Calls Try.prog 15 #[.pointer (some ⟨b, 0, none⟩), vv t C] w (ItP B b (l ++ pkB t) (say t) w) := by
  have HN := Lib.hid (Ip.new h hBw #[.int .i64 t.k, .bool t.g, .int .u64 (t.n : Int), .string t.s, C])
  have hb := h.lt
  have hsay : say t = true := by
    rw [say_leaf hl]
    unfold pkS
    rw [if_neg (by omega), decide_eq_false (by omega)]
    rfl
  rw [hsay]
  have hi := pkB_mk t
  obtain ⟨R, hR⟩ : ∃ R, pkB t = R := ⟨_, rfl⟩
  rw [hR] at hi ⊢
  obtain ⟨n, hnn⟩ : ∃ n, t.n = n := ⟨_, rfl⟩
  obtain ⟨k, hkk⟩ : ∃ k, t.k = k := ⟨_, rfl⟩
  unfold vv
  rw [hkk, hnn] at HN hi ⊢
  rw [hkk] at hk
  rw [hnn] at hn
  obtain ⟨cs, hcs⟩ : ∃ cs : Array Value, #[.int .i64 k, .bool t.g, .int .u64 (n : Int), .string t.s, C] = cs := ⟨_, rfl⟩
  rw [hcs] at HN
  have HC : Hid (∀ l' W, Ip w B b l' cs W → W.cell? ⟨w.heap.size, 2, none⟩ = some (.int .u64 (n : Int))) := Lib.hid fun l' W hW => by
    have h2 := hW.cell 2
    rw [← hcs] at h2
    exact h2
  have H1 : Hid (∀ (d : Nat) W, d < 256 → Ip w B b l cs W → Calls Try.prog 26 #[.pointer (some ⟨b, 0, none⟩), .int .u8 (d : Int)] W fun e w' => e = .returned (.tuple #[]) ∧ Ip w B b (l ++ [UInt8.ofNat d]) cs w') := Lib.hid fun d W hd hW => (pfirst_any B b l d W hW.wr hd (by omega) hW.sz).mono fun e w' hs => ⟨hs.1, hW.step hs hb⟩
  have H3 : Hid (∀ (d q : Nat) W, 0 < q → q ≤ 8 → Ip w B b (l ++ [UInt8.ofNat d]) cs W → Calls Try.prog 21 #[.pointer (some ⟨b, 0, none⟩), .int .u64 (n : Int), .int .i64 (q : Int)] W fun e w' => e = .returned (.tuple #[]) ∧ Ip w B b (l ++ [UInt8.ofNat d] ++ lwP n q) cs w') := Lib.hid fun d q W hq hq8 hW => (plow_any B b _ n q W hW.wr hn hq hq8 (by rw [List.length_append]; show l.length + 1 + 8 ≤ _; omega) hW.sz).mono fun e w' hs => ⟨hs.1, hW.step hs hb⟩
  have HI := Lib.hid hi
  clear h hsay hi hR hb hl hle hBw hn
  rcases hk with rfl | rfl
  · have HR : Hid (l ++ [UInt8.ofNat 202] ++ lwP n 4 = l ++ R) := Lib.hid (by rw [HI.out, List.append_assoc]; rfl)
    have H2 := Lib.hid (H1.out 202 _ (by decide) HN.out)
    have H4 := Lib.hid (fun W => H3.out 202 4 W (by decide) (by decide))
    clear HI H1 H3 hkk hnn
    subst hcs
    go_enter Try.func15, Try.ntmps15
    go_wp2_with fail
    refine H2.out.mono ?_
    rintro e w1 ⟨rfl, h1⟩
    have HH := Lib.hid h1
    have e2 := HC.out _ _ h1
    clear h1 H2
    go_wp2_with fail
    refine (H4.out _ HH.out).mono ?_
    rintro e w2 ⟨rfl, h2⟩
    have HH2 := Lib.hid h2
    clear h2 H4 e2
    go_wp2_with fail
    exact bodyPost_ret (v := .int .i64 0) (by simp [results, Try.results15, go_sem]) rfl (HH2.out.it HR.out)
  · have HR : Hid (l ++ [UInt8.ofNat 203] ++ lwP n 8 = l ++ R) := Lib.hid (by rw [HI.out, List.append_assoc]; rfl)
    have H2 := Lib.hid (H1.out 203 _ (by decide) HN.out)
    have H4 := Lib.hid (fun W => H3.out 203 8 W (by decide) (by decide))
    clear HI H1 H3 hkk hnn
    subst hcs
    go_enter Try.func15, Try.ntmps15
    go_wp2_with fail
    refine H2.out.mono ?_
    rintro e w1 ⟨rfl, h1⟩
    have HH := Lib.hid h1
    have e2 := HC.out _ _ h1
    clear h1 H2
    go_wp2_with fail
    refine (H4.out _ HH.out).mono ?_
    rintro e w2 ⟨rfl, h2⟩
    have HH2 := Lib.hid h2
    clear h2 H4 e2
    go_wp2_with fail
    exact bodyPost_ret (v := .int .i64 0) (by simp [results, Try.results15, go_sem]) rfl (HH2.out.it HR.out)
set_option maxRecDepth 100000 in
set_option maxHeartbeats 4000000 in
theorem pitem_te (t : VT) (C : Value) (h : Pw B b l w) (hk : t.k = 10 ∨ t.k = 14) (hn : t.n < 18446744073709551616) (hl : t.l = []) (hle : l.length + t.s.size + 60 ≤ 140737488355328) (hBw : B ≤ w.heap.size) :
    Calls Try.prog 15 #[.pointer (some ⟨b, 0, none⟩), vv t C] w (ItP B b (l ++ pkB t) (say t) w) := by
  have HN := Lib.hid (Ip.new h hBw #[.int .i64 t.k, .bool t.g, .int .u64 (t.n : Int), .string t.s, C])
  have hb := h.lt
  have hsay : say t = true := by
    rw [say_leaf hl]
    unfold pkS
    rw [if_neg (by omega), decide_eq_false (by omega)]
    rfl
  rw [hsay]
  have H1 : Hid (∀ W, Ip w B b l #[.int .i64 t.k, .bool t.g, .int .u64 (t.n : Int), .string t.s, C] W → Calls Try.prog 29 #[.pointer (some ⟨b, 0, none⟩), .string t.s] W fun e w' => e = .returned (.tuple #[]) ∧ Ip w B b (l ++ ptP t.s) #[.int .i64 t.k, .bool t.g, .int .u64 (t.n : Int), .string t.s, C] w') := Lib.hid fun W hW => (ptext_any t.s hW.wr (by omega) hW.sz).mono fun e w' hs => ⟨hs.1, hW.step hs hb⟩
  have H3 : Hid (∀ W, Ip w B b l #[.int .i64 t.k, .bool t.g, .int .u64 (t.n : Int), .string t.s, C] W → Calls Try.prog 31 #[.pointer (some ⟨b, 0, none⟩), vv t C] W fun e w' => e = .returned (.tuple #[]) ∧ Ip w B b (l ++ pxP t.n t.s) #[.int .i64 t.k, .bool t.g, .int .u64 (t.n : Int), .string t.s, C] w') := Lib.hid fun W hW => (pext_any t C hW.wr hn (by omega) hW.sz).mono fun e w' hs => ⟨hs.1, hW.step hs hb⟩
  have hi := pkB_mk t
  obtain ⟨R, hR⟩ : ∃ R, pkB t = R := ⟨_, rfl⟩
  rw [hR] at hi ⊢
  have HI := Lib.hid hi
  unfold vv at H3 ⊢
  clear h hsay hi hR hb hl hle hBw hn
  rcases hk with hk | hk
  · have HR : Hid (l ++ ptP t.s = l ++ R) := Lib.hid (by rw [HI.out, hk]; rfl)
    rw [hk] at H1 HN ⊢
    have H2 := Lib.hid (H1.out _ HN.out)
    clear HI H1 H3 hk
    go_enter Try.func15, Try.ntmps15
    go_wp2_with fail
    refine H2.out.mono ?_
    rintro e w1 ⟨rfl, h1⟩
    have HH := Lib.hid h1
    clear h1 H2
    go_wp2_with fail
    exact bodyPost_ret (v := .int .i64 0) (by simp [results, Try.results15, go_sem]) rfl (HH.out.it HR.out)
  · have HR : Hid (l ++ pxP t.n t.s = l ++ R) := Lib.hid (by rw [HI.out, hk]; rfl)
    rw [hk] at H3 HN ⊢
    have H2 := Lib.hid (H3.out _ HN.out)
    clear HI H1 H3 hk
    go_enter Try.func15, Try.ntmps15
    go_wp2_with fail
    refine H2.out.mono ?_
    rintro e w1 ⟨rfl, h1⟩
    have HH := Lib.hid h1
    clear h1 H2
    go_wp2_with fail
    exact bodyPost_ret (v := .int .i64 0) (by simp [results, Try.results15, go_sem]) rfl (HH.out.it HR.out)
set_option maxRecDepth 100000 in
set_option maxHeartbeats 4000000 in
theorem pitem_no (t : VT) (C : Value) (h : Pw B b l w) (hk : t.k = 2 ∨ t.k = 3 ∨ t.k = 5 ∨ t.k = 6 ∨ t.k = 13) (hBw : B ≤ w.heap.size) :
    Calls Try.prog 15 #[.pointer (some ⟨b, 0, none⟩), vv t C] w (ItP B b (l ++ pkB t) (say t) w) := by
  have HN := Lib.hid (Ip.new h hBw #[.int .i64 t.k, .bool t.g, .int .u64 (t.n : Int), .string t.s, C])
  have hsay : say t = false := by
    rw [say_mk]
    unfold pkS
    rw [if_neg (by omega), decide_eq_true hk]
    rfl
  rw [hsay]
  have HZ : Hid (Below B w (w.alloc (.cells #[.int .i64 t.k, .bool t.g, .int .u64 (t.n : Int), .string t.s, C] 25)) ∧ Kq b w (w.alloc (.cells #[.int .i64 t.k, .bool t.g, .int .u64 (t.n : Int), .string t.s, C] 25))) := Lib.hid ⟨HN.out.bl, HN.out.kw⟩
  obtain ⟨R, hR⟩ : ∃ R, l ++ pkB t = R := ⟨_, rfl⟩
  rw [hR]
  unfold vv
  clear h hsay hR hBw HN
  rcases hk with hk | hk | hk | hk | hk
  all_goals
    rw [hk] at HZ ⊢
    clear hk
    go_enter Try.func15, Try.ntmps15
    go_wp2_with fail
    exact bodyPost_ret (v := .int .i64 10) (by simp [results, Try.results15, go_sem]) rfl ⟨HZ.out, .inr ⟨rfl, rfl⟩⟩
end
end Go.Proofs.Ytfchondipjiicaa.nn
namespace Go.Proofs.Ytfchondipjiicaa.nn
open Go.RowKit

/-- items of less than a bound are written -/
def Itp (w0 : World) (b : Nat) (t : VT) : Prop := ∀ (C : Value) (l : List UInt8) (W : World), Lst w0 C t.l → Below w0.heap.size w0 W → Pw w0.heap.size b l W → l.length + (pkB t).length + 60 ≤ 140737488355328 →
  Calls Try.prog 15 #[.pointer (some ⟨b, 0, none⟩), vv t C] W (ItP w0.heap.size b (l ++ pkB t) (say t) W)
theorem pkL_take_le {L : List VT} {i : Nat} (h : i < L.length) : (pkL (L.take i)).length + (pkB L[i]).length ≤ (pkL L).length := by
  have h1 := congrArg List.length (pkL_take_succ h)
  have h2 := congrArg List.length (pkL_app (L.take (i + 1)) (L.drop (i + 1)))
  rw [List.take_append_drop] at h2
  simp only [List.length_append] at h1 h2
  omega
theorem lsK2_le {n : Nat} (hn : n < 18446744073709551616) : lsK n 2 ≤ 2 := by
  unfold lsK
  simp only [Nat.reducePow, Nat.reduceMul]
  by_cases h1 : n < 65536
  · rw [if_pos h1]; omega
  · by_cases h2 : n < 4294967296
    · rw [if_neg h1, if_pos h2]; omega
    · rw [if_neg h1, if_neg h2, if_pos hn]; omega
set_option maxRecDepth 100000 in
set_option maxHeartbeats 8000000 in
theorem pmany_any (w0 : World) (b few first c : Nat) (L : List VT) (V : Value) (l : List UInt8) (w : World) (hL : Lst w0 V L) (hw : Below w0.heap.size w0 w) (h : Pw w0.heap.size b l w) (hfew : few + 16 < 256) (hfirst : first + 3 < 256) (hc : c < 9223372036854775808)
    (hLn : L.length ≤ 1099511627776) (hle : l.length + (pmP few first c).length + (pkL L).length + 60 ≤ 140737488355328) (ih : ∀ t, t ∈ L → Itp w0 b t) :
    Calls Try.prog 30 #[.pointer (some ⟨b, 0, none⟩), .int .u8 (few : Int), .int .u8 (first : Int), .int .i64 (c : Int), V] w (ItP w0.heap.size b (l ++ (pmP few first c ++ pkL L)) (sayL L) w) := by
  have hBw := hw.size
  obtain ⟨A, cc, rfl, hlc, hA⟩ := hL.out
  obtain ⟨l1, hl1⟩ : ∃ l1, l ++ pmP few first c = l1 := ⟨_, rfl⟩
  have hll : l1.length = l.length + (pmP few first c).length := by rw [← hl1, List.length_append]
  have hk8 : 2 * 2 ^ lsK c 2 ≤ 8 := by
    have h2 := lsK2_le (n := c) (by omega)
    have : lsK c 2 = 0 ∨ lsK c 2 = 1 ∨ lsK c 2 = 2 := by omega
    rcases this with e | e | e <;> rw [e] <;> decide
  obtain ⟨Q, hQ⟩ : ∃ Q, decide (c < 16) = Q := ⟨_, rfl⟩
  have hQ1 : Q = true → c < 16 := fun h => of_decide_eq_true (hQ.trans h)
  have hQ0 : Q = false → ¬ c < 16 := fun h => of_decide_eq_false (hQ.trans h)
  have hQ2 : decide ((c : Int) < 16) = Q := by rw [← hQ]; exact decide_eq_decide.2 (by omega)
  have HF1 : Hid (c < 16 → Calls Try.prog 26 #[.pointer (some ⟨b, 0, none⟩), .int .u8 ((few + c : Nat) : Int)] w (PwAns w0.heap.size b l1 w)) := Lib.hid fun h16 => by
    have := pfirst_any w0.heap.size b l (few + c) w h (by omega) (by omega) hBw
    rw [← hl1]
    unfold pmP
    rw [if_pos h16]
    exact this
  have HF0 : Hid (¬ c < 16 → Calls Try.prog 28 #[.pointer (some ⟨b, 0, none⟩), .int .u8 (first : Int), .int .i64 2, .int .u64 (c : Int)] w (PwAns w0.heap.size b l1 w)) := Lib.hid fun h16 => by
    have := phead_any w0.heap.size b l first 2 c w h hfirst (.inr rfl) (by omega) hk8 (by omega) hBw
    rw [← hl1]
    unfold pmP
    rw [if_neg h16]
    exact this
  have HT : Hid (l ++ (pmP few first c ++ pkL L) = l1 ++ pkL L) := Lib.hid (by rw [← hl1]; simp only [List.append_assoc])
  rw [HT.out]
  obtain ⟨X, hX⟩ : ∃ X, sayL L = X := ⟨_, rfl⟩
  rw [hX]
  have HX := Lib.hid hX
  have hlen2 := len_cntL L
  have hIH := Lib.hid ih
  have HW0 := Lib.hid hw
  have HQ1 := Lib.hid hQ1
  have HQ0 := Lib.hid hQ0
  clear hL h hX hl1 HT ih hlen2 hw hk8 hQ1 hQ0
  go_enter Try.func30, Try.ntmps30
  go_upto_if 15 with fail
  go_cut [29] (fun s29 wx => Hid (Pw w0.heap.size b l1 wx ∧ Below w0.heap.size w wx ∧ Kq b w wx))
  case first =>
    cases Q with
    | true =>
      have h16 := HQ1.out rfl
      have HF := Lib.hid (HF1.out h16)
      have u1 : IntKind.u8.wrap (c : Int) = (c : Int) := by rw [IntKind.wrap_u8]; omega
      have u2 : IntKind.u8.wrap ((few : Int) + (c : Int)) = ((few + c : Nat) : Int) := by rw [IntKind.wrap_u8]; omega
      obtain ⟨d, hd⟩ : ∃ d, few + c = d := ⟨_, rfl⟩
      rw [hd] at HF u2
      clear HF0 HF1 HQ0 HQ1 h16 hd
      go_wp2_with fail
      refine HF.out.mono ?_
      rintro e w1 ⟨rfl, h1⟩
      have HH := Lib.hid h1
      clear h1
      go_wp2_with fail
      go_meet
      exact HH
    | false =>
      have h16 := HQ0.out rfl
      have HF := Lib.hid (HF0.out h16)
      have u1 : IntKind.u64.wrap (c : Int) = (c : Int) := by rw [IntKind.wrap_u64]; omega
      clear HF0 HF1 HQ0 HQ1 h16
      go_wp2_with fail
      refine HF.out.mono ?_
      rintro e w1 ⟨rfl, h1⟩
      have HH := Lib.hid h1
      clear h1
      go_wp2_with fail
      go_meet
      exact HH
  case rest =>
    clear HF0 HF1 HQ0 HQ1 hQ hQ2
    go_wp2_with fail
    go_loopw [29] (fun s29 wr => ∃ i : Nat, i ≤ L.length ∧ s29 = .int .i64 (i : Int) ∧ Hid (sayL (L.take i) = true) ∧ Hid (Pw w0.heap.size b (l1 ++ pkL (L.take i)) wr ∧ Below w0.heap.size w wr ∧ Kq b w wr)) (fun s29 _ => L.length - (intOf s29).toNat)
    case atStart => exact ⟨0, Nat.zero_le _, rfl, Lib.hid rfl, Lib.hid ⟨by rw [List.take_zero]; show Pw _ _ (l1 ++ []) _; rw [List.append_nil]; exact hcut.out.1, hcut.out.2⟩⟩
    case round =>
      obtain ⟨i, hi, rfl, he, hO⟩ := hrel
      by_cases hlt : i < L.length
      · rcases hA with ⟨_, h0, _⟩ | ⟨b1, off, D, rfl, hb1, hrow, hkid⟩
        · rw [h0] at hlt; exact absurd hlt (by simp)
        have hmem : L[i] ∈ L := List.getElem_mem hlt
        obtain ⟨t', ht'⟩ : ∃ t', L[i] = t' := ⟨_, rfl⟩
        obtain ⟨C', hC'⟩ : ∃ C', D i = C' := ⟨_, rfl⟩
        have hr := hrow i hlt
        have hkl := hkid i hlt
        have hxs := sayL_take_succ hlt
        have hxt := fun h => sayL_no (l := L) hlt h
        have hts := pkL_take_succ hlt
        have htl := pkL_take_le hlt
        rw [ht', hC'] at hr hkl
        rw [ht'] at hmem hxs hts htl
        rw [ht', HX.out] at hxt
        rw [he.out, Bool.true_and] at hxs
        obtain ⟨A', c', hC2, _⟩ := hkl.out
        obtain ⟨n', hn'⟩ : ∃ n', t'.l.length = n' := ⟨_, rfl⟩
        rw [hn'] at hC2
        subst hC2
        have hbw := HW0.out.trans hO.out.2.1
        have hr2 := hr.below hbw hb1
        have r0 := hr2.k
        have r1 := hr2.g
        have r2 := hr2.n
        have r3 := hr2.s
        have r4 := hr2.l
        have hszr := hbw.size
        have HI := Lib.hid (fun ob : Obj => hIH.out t' hmem (.slice A' n' c') (l1 ++ pkL (L.take i)) (wr.alloc ob) hkl (hbw.alloc hszr ob) (hO.out.1.below ((Below.refl _ _).alloc (Nat.le_refl _) ob)) (by rw [List.length_append]; omega))
        have HTS : Hid (l1 ++ pkL (L.take i) ++ pkB t' = l1 ++ pkL (L.take (i + 1))) := Lib.hid (by rw [hts, List.append_assoc])
        unfold ItP vv at HI
        rw [HTS.out] at HI
        have HXS := Lib.hid hxs
        have HXT := Lib.hid hxt
        have HAL : Hid (∀ ob : Obj, Below w0.heap.size w (wr.alloc ob) ∧ Kq b w (wr.alloc ob)) := Lib.hid fun ob => ⟨hO.out.2.1.alloc hszr ob, hO.out.2.2.alloc ob⟩
        clear hr hr2 hkl hrow hkid ht' hC' hn' hxs hxt hts htl hbw hszr hmem
        go_wp2_with fail
        refine (HI.out _).mono ?_
        rintro e w2 ⟨⟨h2a, h2b⟩, ⟨hx, rfl, h2c⟩ | ⟨hx, rfl⟩⟩
        · have H2 := Lib.hid (And.intro h2c (And.intro ((HAL.out _).1.trans h2a) ((HAL.out _).2.trans h2b)))
          have HX1 := Lib.hid hx
          clear h2a h2b h2c r0 r1 r2 r3 r4 HI HAL hx
          go_wp2_with fail
          go_roundw
          case rel => exact ⟨i + 1, hlt, by go_num, Lib.hid (by rw [HXS.out]; exact HX1.out), H2⟩
          case measure => simp [intOf]; omega
        · have H2 := Lib.hid (And.intro ((HAL.out _).1.trans h2a) ((HAL.out _).2.trans h2b))
          have HX1 := Lib.hid (HXT.out hx)
          clear h2a h2b r0 r1 r2 r3 r4 HI HAL hx
          go_wp2_with fail
          exact bodyPost_ret (v := .int .i64 10) (by simp [results, Try.results30, go_sem]) rfl ⟨H2.out, .inr ⟨HX1.out, rfl⟩⟩
      · obtain rfl : i = L.length := by omega
        have hO2 := hO
        have he2 := he
        rw [List.take_length] at hO2 he2
        have HE : Hid (X = true) := Lib.hid (by rw [← HX.out]; exact he2.out)
        clear hO he he2
        go_wp2_with fail
        exact bodyPost_ret (v := .int .i64 0) (by simp [results, Try.results30, go_sem]) rfl ⟨⟨hO2.out.2.1, hO2.out.2.2⟩, .inl ⟨HE.out, rfl, hO2.out.1⟩⟩
end Go.Proofs.Ytfchondipjiicaa.nn
namespace Go.Proofs.Ytfchondipjiicaa.nn
open Go.RowKit

section
variable {B b : Nat} {l : List UInt8} {w : World}
set_option maxRecDepth 100000 in
set_option maxHeartbeats 8000000 in
theorem pitem_by (t : VT) (C : Value) (h : Pw B b l w) (hk : t.k = 9) (hl : t.l = []) (hle : l.length + t.s.size + 60 ≤ 140737488355328) (hBw : B ≤ w.heap.size) :
    Calls Try.prog 15 #[.pointer (some ⟨b, 0, none⟩), vv t C] w (ItP B b (l ++ pkB t) (say t) w) := by
  have HN := Lib.hid (Ip.new h hBw #[.int .i64 t.k, .bool t.g, .int .u64 (t.n : Int), .string t.s, C])
  have hb := h.lt
  have hsay : say t = true := by
    rw [say_leaf hl]
    unfold pkS
    rw [if_neg (by omega), decide_eq_false (by omega)]
    rfl
  rw [hsay]
  obtain ⟨s, hss⟩ : ∃ n, t.s = n := ⟨_, rfl⟩
  have HT : Hid (l ++ pkB t = (l ++ phP 196 1 s.size) ++ s.data.toList) := Lib.hid (by rw [pkB_mk, hk, ← hss, List.append_assoc]; rfl)
  rw [HT.out]
  unfold vv
  rw [hk, hss] at HN ⊢
  rw [hss] at hle
  have hp := phP1_le 196 s.size
  have hk8 : 1 * 2 ^ lsK s.size 1 ≤ 8 := by have := two_lsK s.size 1; omega
  have u9 : IntKind.u64.wrap (s.size : Int) = (s.size : Int) := by rw [IntKind.wrap_u64]; omega
  have hln : (l ++ phP 196 1 s.size).length + s.size ≤ 140737488355328 := by rw [List.length_append]; omega
  obtain ⟨cs, hcs⟩ : ∃ cs : Array Value, #[.int .i64 9, .bool t.g, .int .u64 (t.n : Int), .string s, C] = cs := ⟨_, rfl⟩
  rw [hcs] at HN
  have HC : Hid (∀ l' W, Ip w B b l' cs W → W.cell? ⟨w.heap.size, 3, none⟩ = some (.string s)) := Lib.hid fun l' W hW => by
    have h3 := hW.cell 3
    rw [← hcs] at h3
    exact h3
  have H1 := Lib.hid ((phead_any B b l 196 1 s.size _ HN.out.wr (by decide) (.inl rfl) (by omega) hk8 (by omega) HN.out.sz).mono fun e w' hs => And.intro hs.1 (HN.out.step hs hb))
  have HHS : Hid (∀ l' W, Ip w B b l' cs W → ∃ v, Pbk B b v v l' W ∧ Below B w W ∧ Kq b w W ∧ B ≤ W.heap.size) := Lib.hid fun l' W hW => by
    obtain ⟨v, hv⟩ := hW.wr
    exact ⟨v, hv, hW.bl, hW.kw, hW.sz⟩
  obtain ⟨L1, hL1⟩ : ∃ L1, l ++ phP 196 1 s.size = L1 := ⟨_, rfl⟩
  rw [hL1] at H1 hln ⊢
  clear h hsay hk hss hl hle hBw hp hk8 hL1 HT hb HN
  subst hcs
  go_enter Try.func15, Try.ntmps15
  go_wp2_with fail
  refine H1.out.mono ?_
  rintro e w2 ⟨rfl, h2⟩
  have e3 := HC.out _ _ h2
  obtain ⟨v, hv, hb2, hk2, hz2⟩ := HHS.out _ _ h2
  have c0 := hv.c0
  have HV := Lib.hid hv
  have HA : Hid (Pbk B b v v L1 w2.drew) := Lib.hid (hv.below (Below.drew (Below.refl _ _)))
  have HB2 : Hid (Below B w w2.drew ∧ Kq b w w2.drew) := Lib.hid ⟨hb2.trans (Below.drew (Below.refl _ _)), hk2.trans (Kq.drew (Kq.refl _ _))⟩
  have hsz : B ≤ w2.drew.heap.size := hz2
  clear hv hb2 hk2 hz2 HC HHS H1 h2
  go_wp2_with fail
  go_region_law (refine step_appPS rfl (.tmp 52) (.tmp 54) rfl B b v L1 s rfl HA.out rfl hln hsz ?_; intro v2 w3 h3 hb3 hk3; have d0 := h3.c0; have f0 := h3.f0; obtain ⟨A2, n2, c2, rfl⟩ := h3.form)
  all_goals
    have HZ := Lib.hid (And.intro h3.put (And.intro ((HB2.out.1.trans hb3).setCell (p := ⟨b, 0, none⟩) HV.out.1 (.slice A2 n2 c2)) ((HB2.out.2.trans hk3).set 0 (.slice A2 n2 c2))))
    clear h3 hb3 hk3 d0 f0 c0
    go_wp2_with fail
    exact bodyPost_ret (v := .int .i64 0) (by simp [results, Try.results15, go_sem]) rfl ⟨HZ.out.2, .inl ⟨rfl, rfl, HZ.out.1⟩⟩
set_option maxRecDepth 100000 in
set_option maxHeartbeats 8000000 in
theorem pitem_many (w0 : World) (b : Nat) (l : List UInt8) (t : VT) (C : Value) (w : World) (K F G : Int) (hKM : (K = 11 ∧ F = 144 ∧ G = 220) ∨ (K = 12 ∧ F = 128 ∧ G = 222)) (h : Pw w0.heap.size b l w) (hk : t.k = K) (hBw : w0.heap.size ≤ w.heap.size) (hC : ∃ A c, C = .slice A t.l.length c) (hLn : t.l.length ≤ 1099511627776)
    (hm : ∀ W, Below w0.heap.size w W → Pw w0.heap.size b l W → Calls Try.prog 30 #[.pointer (some ⟨b, 0, none⟩), .int .u8 F, .int .u8 G, .int .i64 ((if K = 11 then t.l.length else t.l.length / 2 : Nat) : Int), C] W (ItP w0.heap.size b (l ++ pkB t) (sayL t.l) W)) :
    Calls Try.prog 15 #[.pointer (some ⟨b, 0, none⟩), vv t C] w (ItP w0.heap.size b (l ++ pkB t) (sayL t.l) w) := by
  obtain ⟨A, c, rfl⟩ := hC
  have HN := Lib.hid (Ip.new h hBw #[.int .i64 t.k, .bool t.g, .int .u64 (t.n : Int), .string t.s, .slice A t.l.length c])
  have H1 := Lib.hid ((hm _ HN.out.bl HN.out.wr).mono fun e w' ha => ItP.behind HN.out ha)
  obtain ⟨T, hT⟩ : ∃ T, l ++ pkB t = T := ⟨_, rfl⟩
  obtain ⟨X, hX⟩ : ∃ X, sayL t.l = X := ⟨_, rfl⟩
  rw [hT, hX] at H1 ⊢
  unfold vv
  obtain ⟨n, hn⟩ : ∃ n, t.l.length = n := ⟨_, rfl⟩
  rw [hk, hn] at HN H1
  rw [hn] at hLn
  rw [hk, hn]
  clear hm hT hX hk hn h
  rcases hKM with ⟨rfl, rfl, rfl⟩ | ⟨rfl, rfl, rfl⟩
  · rw [if_pos rfl] at H1
    go_enter Try.func15, Try.ntmps15
    go_wp2_with fail
    refine H1.out.mono ?_
    rintro e w2 ⟨h2a, ⟨hx, rfl, h2c⟩ | ⟨hx, rfl⟩⟩
    · have HZ := Lib.hid (And.intro h2a (And.intro hx h2c))
      clear h2a h2c hx
      go_wp2_with fail
      exact bodyPost_ret (v := .int .i64 0) (by simp [results, Try.results15, go_sem]) rfl ⟨HZ.out.1, .inl ⟨HZ.out.2.1, rfl, HZ.out.2.2⟩⟩
    · have HZ := Lib.hid (And.intro h2a hx)
      clear h2a hx
      go_wp2_with fail
      exact bodyPost_ret (v := .int .i64 10) (by simp [results, Try.results15, go_sem]) rfl ⟨HZ.out.1, .inr ⟨HZ.out.2, rfl⟩⟩
  · rw [if_neg (by decide)] at H1
    have q2 : (n : Int) / 2 = ((n / 2 : Nat) : Int) := by omega
    have q3 : (n : Int).tdiv 2 = ((n / 2 : Nat) : Int) := by rw [Int.tdiv_eq_ediv_of_nonneg (by omega)]; omega
    obtain ⟨m, hm⟩ : ∃ m, n / 2 = m := ⟨_, rfl⟩
    rw [hm] at H1 q2 q3
    clear hm
    go_enter Try.func15, Try.ntmps15
    go_wp2_with fail
    refine H1.out.mono ?_
    rintro e w2 ⟨h2a, ⟨hx, rfl, h2c⟩ | ⟨hx, rfl⟩⟩
    · have HZ := Lib.hid (And.intro h2a (And.intro hx h2c))
      clear h2a h2c hx
      go_wp2_with fail
      exact bodyPost_ret (v := .int .i64 0) (by simp [results, Try.results15, go_sem]) rfl ⟨HZ.out.1, .inl ⟨HZ.out.2.1, rfl, HZ.out.2.2⟩⟩
    · have HZ := Lib.hid (And.intro h2a hx)
      clear h2a hx
      go_wp2_with fail
      exact bodyPost_ret (v := .int .i64 10) (by simp [results, Try.results15, go_sem]) rfl ⟨HZ.out.1, .inr ⟨HZ.out.2, rfl⟩⟩
end
theorem prgtL_in {l : List VT} (h : rgtL l = true) : ∀ t, t ∈ l → rgt t = true := by
  induction l with
  | nil => intro t ht; cases ht
  | cons u r ih =>
    simp only [rgtL, Bool.and_eq_true] at h
    intro t ht
    rcases List.mem_cons.1 ht with rfl | ht
    · exact h.1
    · exact ih h.2 t ht
theorem pwfL_in {l : List VT} (h : wfL l) : ∀ t, t ∈ l → wfT t := by
  induction l with
  | nil => intro t ht; cases ht
  | cons u r ih =>
    intro t ht
    rcases List.mem_cons.1 ht with rfl | ht
    · exact h.1
    · exact ih h.2 t ht
theorem pcnt_in {l : List VT} : ∀ t, t ∈ l → cnt t ≤ cntL l := by
  induction l with
  | nil => intro t ht; cases ht
  | cons u r ih =>
    intro t ht
    rcases List.mem_cons.1 ht with rfl | ht
    · simp only [cntL]; omega
    · have := ih t ht; simp only [cntL]; omega
/-- of which kinds right values are -/
theorem poneB_kind {t : VT} (h : oneB t = true) : 0 ≤ t.k ∧ t.k ≤ 14 ∧ (t.k = 1 → t.n ≤ 1) := by
  unfold oneB at h
  by_cases h1 : t.k = 0 ∨ t.k = 2 ∨ t.k = 11
  · omega
  rw [if_neg h1] at h
  by_cases h2 : t.k = 1
  · rw [if_pos h2] at h
    simp only [Bool.and_eq_true, decide_eq_true_eq] at h
    omega
  rw [if_neg h2] at h
  by_cases h3 : t.k = 3
  · omega
  rw [if_neg h3] at h
  by_cases h4 : t.k = 4
  · omega
  rw [if_neg h4] at h
  by_cases h5 : t.k = 5
  · omega
  rw [if_neg h5] at h
  by_cases h6 : t.k = 6
  · omega
  rw [if_neg h6] at h
  by_cases h7 : t.k = 7
  · omega
  rw [if_neg h7] at h
  by_cases h8 : t.k = 8
  · omega
  rw [if_neg h8] at h
  by_cases h9 : t.k = 9
  · omega
  rw [if_neg h9] at h
  by_cases h10 : t.k = 10
  · omega
  rw [if_neg h10] at h
  by_cases h12 : t.k = 12
  · omega
  rw [if_neg h12] at h
  by_cases h13 : t.k = 13
  · omega
  rw [if_neg h13] at h
  by_cases h14 : t.k = 14
  · omega
  rw [if_neg h14] at h
  cases h
theorem plf_iff (k : Int) : lf k = true ↔ (k ≠ 11 ∧ k ≠ 12 ∧ k ≠ 13) := by unfold lf; exact decide_eq_true_iff
theorem itp_any (w0 : World) (b : Nat) (N : Nat) : ∀ t, cnt t ≤ N → cnt t ≤ 1099511627776 → rgt t = true → wfT t → Itp w0 b t := by
  induction N with
  | zero => intro t h; have := cnt_mk t; omega
  | succ N ih =>
    intro t hN hc hr hwf C l W hC hW h hle
    have hcm := cnt_mk t
    rw [rgt_mk] at hr
    simp only [Bool.and_eq_true] at hr
    obtain ⟨⟨h1, h2⟩, h3⟩ := hr
    obtain ⟨_, _, hn, hwl⟩ := (wfT_mk t).1 hwf
    have hkid : ∀ u, u ∈ t.l → Itp w0 b u := fun u hu => ih u (by have := pcnt_in u hu; omega) (by have := pcnt_in u hu; omega) (prgtL_in h3 u hu) (pwfL_in hwl u hu)
    have hB := hW.size
    obtain ⟨k1, k2, hn1⟩ := poneB_kind h1
    have hlen := len_cntL t.l
    by_cases hlf : lf t.k = true
    · rw [hlf] at h2
      have hl0 : t.l = [] := List.eq_nil_of_length_eq_zero (by simpa using h2)
      have hkk := (plf_iff _).1 hlf
      by_cases ka : t.k = 0 ∨ t.k = 1
      · exact pitem_a t C h ka hn1 hl0 (by omega) hB
      by_cases kb : t.k = 4
      · exact pitem_int t C h kb hn hl0 (by omega) hB
      by_cases kc : t.k = 7 ∨ t.k = 8
      · exact pitem_fl t C h kc hn hl0 (by omega) hB
      by_cases kd : t.k = 9
      · have h5 : pkB t = pbP t.s := by rw [pkB_mk, kd]; rfl
        have h6 := (pbP_le t.s).1
        rw [h5] at hle
        exact pitem_by t C h kd hl0 (by omega) hB
      by_cases ke : t.k = 10 ∨ t.k = 14
      · have h5 : pkB t = ptP t.s ∨ pkB t = pxP t.n t.s := by
          rcases ke with k | k
          · exact .inl (by rw [pkB_mk, k]; rfl)
          · exact .inr (by rw [pkB_mk, k]; rfl)
        have h6 := (ptP_le t.s).1
        have h7 := (pxP_le t.n t.s).1
        exact pitem_te t C h ke hn hl0 (by rcases h5 with e | e <;> rw [e] at hle <;> omega) hB
      · exact pitem_no t C h (by omega) hB
    · have hkk : t.k = 11 ∨ t.k = 12 ∨ t.k = 13 := by
        rcases Int.lt_or_le t.k 11 with h | h
        · exact absurd ((plf_iff _).2 ⟨by omega, by omega, by omega⟩) hlf
        · rcases Int.lt_or_le 13 t.k with h | h
          · exact absurd ((plf_iff _).2 ⟨by omega, by omega, by omega⟩) hlf
          · omega
      by_cases k13 : t.k = 13
      · exact pitem_no t C h (by omega) hB
      · have hsay : say t = sayL t.l := by
          rw [say_mk]
          unfold pkS
          rw [if_neg (by omega), decide_eq_false (by omega)]
          rfl
        rw [hsay]
        obtain ⟨A, c, hCe, _⟩ := hC.out
        rcases (show t.k = 11 ∨ t.k = 12 by omega) with k | k
        · have h5 : pkB t = pmP 144 220 t.l.length ++ pkL t.l := by rw [pkB_mk, k]; rfl
          refine pitem_many w0 b l t C W 11 144 220 (.inl ⟨rfl, rfl, rfl⟩) h k hB ⟨A, c, hCe⟩ (by omega) fun W' hW' hw' => ?_
          rw [if_pos rfl, h5]
          rw [h5, List.length_append] at hle
          exact pmany_any w0 b 144 220 t.l.length t.l C l W' hC (hW.trans hW') hw' (by decide) (by decide) (by omega) (by omega) (by omega) hkid
        · have h5 : pkB t = pmP 128 222 (t.l.length / 2) ++ pkL t.l := by rw [pkB_mk, k]; rfl
          refine pitem_many w0 b l t C W 12 128 222 (.inr ⟨rfl, rfl, rfl⟩) h k hB ⟨A, c, hCe⟩ (by omega) fun W' hW' hw' => ?_
          rw [if_neg (by decide), h5]
          rw [h5, List.length_append] at hle
          exact pmany_any w0 b 128 222 (t.l.length / 2) t.l C l W' hC (hW.trans hW') hw' (by decide) (by decide) (by omega) (by omega) (by omega) hkid
end Go.Proofs.Ytfchondipjiicaa.nn
namespace Go.Proofs.Ytfchondipjiicaa.nn
open Go.RowKit

/-- the bytes of a time -/
def ftL (x : Int) (n : Nat) : List UInt8 := if 0 ≤ x ∧ x < 4294967296 ∧ n = 0 then lwP x.toNat 4 else if 0 ≤ x ∧ x < 17179869184 then lwP (n * 17179869184 + x.toNat) 8 else lwP n 4 ++ lwP (x % 18446744073709551616).toNat 8
def ftS (s : ByteArray) : Value := .tuple #[.agg #[.int .i64 14, .bool false, .int .u64 255, .string s, .slice none 0 0], .int .i64 0]
def ftB (L : List UInt8) : Value := ftS ⟨L.toArray⟩
def ftNo : Value := .tuple #[.agg #[.int .i64 0, .bool false, .int .u64 0, .string ⟨#[]⟩, .slice none 0 0], .int .i64 1]
def ftA (x : Int) (n : Nat) : Value := if n < 1000000000 then ftB (ftL x n) else ftNo
theorem ft_or {x n : Nat} (hn : n < 1000000000) (hx : x < 17179869184) : bits BinOp.or IntKind.u64 (IntKind.u64.wrap ((n : Int) * 17179869184)) (x : Int) = ((n * 17179869184 + x : Nat) : Int) := by
  have e : IntKind.u64.wrap ((n : Int) * 17179869184) = ((n * 17179869184 : Nat) : Int) := by rw [IntKind.wrap_u64]; omega
  rw [e, u64_or_nat (n * 17179869184) x (by omega) (by omega), nat_join 34 (n * 17179869184) x (Nat.mul_mod_left n 17179869184) (by omega)]
theorem tbelow_set5 {B g : Nat} {w W : World} (h : Below B w W) (hg : B ≤ g) (a b c d e : Value) :
    Below B w (((((W.setCell ⟨g, 0, none⟩ a).setCell ⟨g, 1, none⟩ b).setCell ⟨g, 2, none⟩ c).setCell ⟨g, 3, none⟩ d).setCell ⟨g, 4, none⟩ e) :=
  ((((h.setCell hg _).setCell hg _).setCell hg _).setCell hg _).setCell hg _
/-- a result of type api.Value, not yet written, in block g: what its cells hold, and that they are free -/
def Tz (W : World) (g : Nat) : Prop :=
  (W.cell? ⟨g, 0, none⟩ = some (.int .i64 0) ∧ W.frozen? ⟨g, 0, none⟩ = false) ∧ (W.cell? ⟨g, 1, none⟩ = some (.bool false) ∧ W.frozen? ⟨g, 1, none⟩ = false) ∧ (W.cell? ⟨g, 2, none⟩ = some (.int .u64 0) ∧ W.frozen? ⟨g, 2, none⟩ = false) ∧
  (W.cell? ⟨g, 3, none⟩ = some (.string ⟨#[]⟩) ∧ W.frozen? ⟨g, 3, none⟩ = false) ∧ (W.cell? ⟨g, 4, none⟩ = some (.slice none 0 0) ∧ W.frozen? ⟨g, 4, none⟩ = false)
theorem Tz.of {W : World} {g : Nat} {T : TypeId} (h : W.heap[g]? = some (.cells #[.int .i64 0, .bool false, .int .u64 0, .string ⟨#[]⟩, .slice none 0 0] T (0, 0))) : Tz W g := by
  have hf : ∀ i, W.frozen? ⟨g, i, none⟩ = false := fun i => by simp [World.frozen?, h]
  exact ⟨⟨cell_of_row _ _ 0 _ _ _ h, hf 0⟩, ⟨cell_of_row _ _ 1 _ _ _ h, hf 1⟩, ⟨cell_of_row _ _ 2 _ _ _ h, hf 2⟩, ⟨cell_of_row _ _ 3 _ _ _ h, hf 3⟩, ⟨cell_of_row _ _ 4 _ _ _ h, hf 4⟩⟩
section
variable {w : World}
/-- behind the last call of low: what the writer holds, as a text -/
theorem pw_text {B b : Nat} {L : List UInt8} {w : World} (h : Pw B b L w) : ∃ A m c S, ftB L = ftS S ∧ w.cell? ⟨b, 0, none⟩ = some (.slice A m c) ∧ ∀ W, Below w.heap.size w W → (convert 26 9 (.slice A m c)).run Try.prog W = .ok (.string S) W := by
  obtain ⟨v, hv⟩ := h
  have d0 := hv.c0
  obtain ⟨A, c, rfl, _, _, h10⟩ := rd_list rfl hv.2.2
  refine ⟨A, _, c, _, rfl, d0, fun W hW => ?_⟩
  have := conv_row A L.length c (gL L) W (h10.below hW)
  rw [pc_list] at this
  exact this
set_option maxRecDepth 100000 in
set_option maxHeartbeats 8000000 in
theorem pfrom_any (x : Int) (n : Nat) (h1 : -9223372036854775808 ≤ x) (h2 : x ≤ 9223372036854775807) (hn : n < 4294967296) : Calls Try.prog 11 #[.int .i64 x, .int .u32 (n : Int)] w fun e w' => e = .returned (ftA x n) ∧ Below w.heap.size w w' := by
  by_cases h9 : n < 1000000000
  case neg =>
    have HV : Hid (ftA x n = ftNo) := Lib.hid (if_neg h9)
    rw [HV.out]
    have g1 : decide ((1000000000 : Int) ≤ (n : Int)) = true := decide_eq_true (by omega)
    clear h9 HV h1 h2 hn
    go_enter Try.func11, Try.ntmps11
    go_wp2_with fail
    exact bodyPost_ret (v := ftNo) (by simp [results, Try.results11, go_sem, ftNo]) rfl ⟨rfl, by first | exact Below.refl _ _ | exact (Below.refl _ _).alloc (Nat.le_refl _) _⟩
  have HV : Hid (ftA x n = ftB (ftL x n)) := Lib.hid (if_pos h9)
  rw [HV.out]
  have g1 : decide ((1000000000 : Int) ≤ (n : Int)) = false := decide_eq_false (by omega)
  have u1 : IntKind.u64.wrap (n : Int) = (n : Int) := by rw [IntKind.wrap_u64]; omega
  obtain ⟨W0, hW0⟩ : ∃ W0, w.alloc (.cells #[.int .i64 0, .bool false, .int .u64 0, .string ⟨#[]⟩, .slice none 0 0] 25) = W0 := ⟨_, rfl⟩
  have z0 : W0.heap.size = w.heap.size + 1 := by rw [← hW0]; simp
  have k0 : W0.heap[w.heap.size]? = some (.cells #[.int .i64 0, .bool false, .int .u64 0, .string ⟨#[]⟩, .slice none 0 0] 25 (0, 0)) := by rw [← hW0]; exact heap_alloc_last _ _
  have hb0 : Below w.heap.size w W0 := by rw [← hW0]; exact (Below.refl _ _).alloc (Nat.le_refl _) _
  obtain ⟨W1, hW1⟩ : ∃ W1, W0.alloc (.cells #[.slice none 0 0] 45) = W1 := ⟨_, rfl⟩
  obtain ⟨b, hb⟩ : ∃ b, w.heap.size + 1 = b := ⟨_, rfl⟩
  rw [hb] at z0
  have hb1 : Below b W0 W1 := by rw [← hW1]; exact (Below.refl _ _).alloc (by omega) _
  have hp1 : Pw b b [] W1 := by rw [← hW1, ← z0]; exact ⟨.slice none 0 0, Nat.le_refl _, heap_alloc_last _ _, World.ownsRow_nil _ _ _ _⟩
  have HZB : Hid (∀ W, Below b W0 W → Tz W w.heap.size ∧ Below w.heap.size w W) := Lib.hid fun W h => ⟨Tz.of ((h.block w.heap.size (by omega)).trans k0), hb0.trans (h.mono (by omega))⟩
  have HLOW : Hid (∀ (l : List UInt8) (m q : Nat) W, Pw b b l W → Below b W0 W → m < 18446744073709551616 → 0 < q → q ≤ 8 → l.length ≤ 100 → Calls Try.prog 21 #[.pointer (some ⟨b, 0, none⟩), .int .u64 (m : Int), .int .i64 (q : Int)] W (PwAns b b (l ++ lwP m q) W)) := Lib.hid fun l m q W hp hb hm h0 h8 hl => plow_any b b l m q W hp hm h0 h8 (by omega) (by have := hb.size; omega)
  have HW1 := Lib.hid (And.intro hW0 (And.intro hb hW1))
  have HB1 := Lib.hid hb1
  have HP1 := Lib.hid hp1
  clear hW1 hb1 hp1 HV hW0 k0 hb0 z0 hb
  by_cases h3 : 0 ≤ x ∧ x < 17179869184
  case neg =>
    have HL : Hid (ftL x n = lwP n 4 ++ lwP (x % 18446744073709551616).toNat 8) := Lib.hid (by unfold ftL; rw [if_neg (fun h => h3 ⟨h.1, by omega⟩), if_neg h3])
    rw [HL.out]
    obtain ⟨U, hU⟩ : ∃ U : Nat, (x % 18446744073709551616).toNat = U := ⟨_, rfl⟩
    have u2 : IntKind.u64.wrap x = (U : Int) := by rw [IntKind.wrap_u64]; omega
    have hU2 : U < 18446744073709551616 := by omega
    obtain ⟨q, hq⟩ : ∃ q, x / 17179869184 = q := ⟨_, rfl⟩
    have hq0 : q ≠ 0 := by omega
    obtain ⟨b1, b2⟩ := neIt hq0
    rw [hU]
    have H1 := Lib.hid (HLOW.out [] n 4 W1 HP1.out HB1.out (by omega) (by decide) (by decide) (by simp))
    have H2 : Hid (∀ W, Pw b b ([] ++ lwP n 4) W → Below b W0 W → Calls Try.prog 21 #[.pointer (some ⟨b, 0, none⟩), .int .u64 (U : Int), .int .i64 8] W (PwAns b b ([] ++ lwP n 4 ++ lwP U 8) W)) := Lib.hid fun W hp hb => HLOW.out _ U 8 W hp hb hU2 (by decide) (by decide) (by simp [lwP_len])
    clear HLOW HP1 HL h1 h2 hn h9 h3 hU hU2 hq0
    go_enter Try.func11, Try.ntmps11
    go_wp2_with fail
    rw [HW1.out.1, HW1.out.2.1, HW1.out.2.2]
    refine H1.out.mono ?_
    rintro e w2 ⟨rfl, hp, hb, -⟩
    have HB2 := Lib.hid (HB1.out.trans hb)
    have HP2 := Lib.hid hp
    clear hp hb
    go_wp2_with fail
    refine (H2.out _ HP2.out HB2.out).mono ?_
    rintro e w3 ⟨rfl, hp, hb, -⟩
    have HB3 := Lib.hid (HB2.out.trans hb)
    obtain ⟨A, m, c, S, hS, d0, hc⟩ := pw_text hp
    have hc3 := hc w3 (Below.refl _ _)
    have HS := Lib.hid hS
    clear hS
    clear hp hb H1 H2 HP2 HB2 hc
    obtain ⟨⟨⟨bc0, bf0⟩, ⟨bc1, bf1⟩, ⟨bc2, bf2⟩, ⟨bc3, bf3⟩, ⟨bc4, bf4⟩⟩, hbw⟩ := HZB.out _ HB3.out
    have HBW := Lib.hid hbw
    clear hbw
    go_wp2_with fail
    exact bodyPost_ret (v := ftS S) (by simp [results, Try.results11, go_sem, ftS, bc0, bc1, bc2, bc3, bc4]) rfl ⟨congrArg Ending.returned HS.out.symm, tbelow_set5 HBW.out (Nat.le_refl _) _ _ _ _ _⟩
  obtain ⟨y, rfl⟩ : ∃ y : Nat, x = (y : Int) := ⟨x.toNat, by omega⟩
  have hy : y < 17179869184 := by omega
  have u2 : IntKind.u64.wrap (y : Int) = (y : Int) := by rw [IntKind.wrap_u64]; omega
  have b0 : (y : Int) / 17179869184 = 0 := by omega
  by_cases h4 : y < 4294967296 ∧ n = 0
  · obtain ⟨h5, rfl⟩ := h4
    have HL : Hid (ftL (y : Int) 0 = [] ++ lwP y 4) := Lib.hid (by unfold ftL; rw [if_pos ⟨by omega, by omega, rfl⟩]; rfl)
    rw [HL.out]
    have b1 : (y : Int) / 4294967296 = 0 := by omega
    have H1 := Lib.hid (HLOW.out [] y 4 W1 HP1.out HB1.out (by omega) (by decide) (by decide) (by simp))
    have ez : ((0 : Nat) : Int) = 0 := rfl
    rw [ez] at g1 u1 ⊢
    clear HLOW HP1 HL h1 h2 hn h9 h3 hy h5 ez g1 u1
    go_enter Try.func11, Try.ntmps11
    go_wp2_with fail
    rw [HW1.out.1, HW1.out.2.1, HW1.out.2.2]
    refine H1.out.mono ?_
    rintro e w2 ⟨rfl, hp, hb, -⟩
    have HB2 := Lib.hid (HB1.out.trans hb)
    obtain ⟨A, m, c, S, hS, d0, hc⟩ := pw_text hp
    have hc3 := hc w2 (Below.refl _ _)
    have HS := Lib.hid hS
    clear hS
    clear hp hb H1 hc
    obtain ⟨⟨⟨bc0, bf0⟩, ⟨bc1, bf1⟩, ⟨bc2, bf2⟩, ⟨bc3, bf3⟩, ⟨bc4, bf4⟩⟩, hbw⟩ := HZB.out _ HB2.out
    have HBW := Lib.hid hbw
    clear hbw
    go_wp2_with fail
    exact bodyPost_ret (v := ftS S) (by simp [results, Try.results11, go_sem, ftS, bc0, bc1, bc2, bc3, bc4]) rfl ⟨congrArg Ending.returned HS.out.symm, tbelow_set5 HBW.out (Nat.le_refl _) _ _ _ _ _⟩
  · have HL : Hid (ftL (y : Int) n = [] ++ lwP (n * 17179869184 + y) 8) := Lib.hid (by unfold ftL; rw [if_neg (fun h => h4 ⟨by omega, h.2.2⟩), if_pos ⟨by omega, by omega⟩]; rfl)
    rw [HL.out]
    have o1 := ft_or h9 hy
    obtain ⟨T, hT⟩ : ∃ T, n * 17179869184 + y = T := ⟨_, rfl⟩
    have hT2 : T < 18446744073709551616 := by omega
    rw [hT] at o1 ⊢
    obtain ⟨q, hq⟩ : ∃ q, (y : Int) / 4294967296 = q := ⟨_, rfl⟩
    have H1 := Lib.hid (HLOW.out [] T 8 W1 HP1.out HB1.out hT2 (by decide) (by decide) (by simp))
    have hq2 : q = 0 → 0 < n := fun h => by omega
    clear HLOW HP1 HL h1 h2 hn h9 h3 hy hT hT2 h4
    by_cases h6 : q = 0
    case' pos => (have p1 := hq2 h6; have p3 : (0 : Int) < (n : Int) := Int.ofNat_lt.2 p1; have p2 : decide ((0 : Int) < (n : Int)) = true := decide_eq_true p3; subst h6)
    case' neg => obtain ⟨p1, p2⟩ := neIt h6
    all_goals
      clear hq2
      go_enter Try.func11, Try.ntmps11
      go_wp2_with fail
      rw [HW1.out.1, HW1.out.2.1, HW1.out.2.2]
      refine H1.out.mono ?_
      rintro e w2 ⟨rfl, hp, hb, -⟩
      have HB2 := Lib.hid (HB1.out.trans hb)
      obtain ⟨A, m, c, S, hS, d0, hc⟩ := pw_text hp
      have hc3 := hc w2 (Below.refl _ _)
      have HS := Lib.hid hS
      clear hS
      clear hp hb H1 hc
      obtain ⟨⟨⟨bc0, bf0⟩, ⟨bc1, bf1⟩, ⟨bc2, bf2⟩, ⟨bc3, bf3⟩, ⟨bc4, bf4⟩⟩, hbw⟩ := HZB.out _ HB2.out
      have HBW := Lib.hid hbw
      clear hbw
      go_wp2_with fail
      exact bodyPost_ret (v := ftS S) (by simp [results, Try.results11, go_sem, ftS, bc0, bc1, bc2, bc3, bc4]) rfl ⟨congrArg Ending.returned HS.out.symm, tbelow_set5 HBW.out (Nat.le_refl _) _ _ _ _ _⟩
end
end Go.Proofs.Ytfchondipjiicaa.nn
namespace Go.Proofs.Ytfchondipjiicaa.nn
open Go.RowKit

theorem gL_drop (L : List UInt8) (j i : Nat) : gL (L.drop j) i = gL L (j + i) := by
  unfold gL
  simp [List.getD_eq_getElem?_getD, List.getElem?_drop]
theorem lwP_drop (n : Nat) : (lwP n 8).drop 4 = lwP n 4 := by
  apply List.ext_getElem
  · rw [List.length_drop, lwP_len, lwP_len]
  · intro i h1 h2
    rw [lwP_len] at h2
    rw [List.getElem_drop]
    simp only [lwP, lsF, List.getElem_map, List.getElem_range]
    rw [show 8 - 1 - (4 + i) = 4 - 1 - i by omega]
theorem ba_app (A B : List UInt8) : (⟨A.toArray⟩ : ByteArray) ++ ⟨B.toArray⟩ = ⟨(A ++ B).toArray⟩ := by
  apply ByteArray.ext
  simp
/-- the document's bytes of a number, and what the texts of their ends are -/
theorem rbig_txt (n q : Nat) (W : World) (hn : n < 18446744073709551616) (h0 : 0 < q) (h8 : q ≤ 8) :
    Calls Try.prog 22 #[.int .i64 0, .int .u64 (n : Int), .int .i64 (q : Int)] W fun e w' => ∃ bl off c, e = .returned (.slice (some ⟨bl, off, none⟩) (q + 1) c) ∧ q + 1 ≤ c ∧
      (∀ k, k < q → ∀ X, Below w'.heap.size w' X → ∀ c', (convert 26 9 (.slice (some ⟨bl, off + (k + 1), none⟩) (q - k) c')).run Try.prog X = .ok (.string ⟨((lwP n q).drop k).toArray⟩) X) ∧ Below W.heap.size W w' := by
  refine (rbig13_any 0 n q W (by decide) hn h0 h8).mono fun e w' ⟨v, he, ho, hb⟩ => ?_
  have hl : (UInt8.ofNat 0 :: lwP n q).length = q + 1 := by rw [List.length_cons, lwP_len]
  rw [hl] at ho
  obtain ⟨A, c, rfl, hc, _, hr⟩ := rd_list hl.symm ho
  obtain ⟨bl, off, rfl, hbl, hcell⟩ := hr (by omega)
  refine ⟨bl, off, c, he, hc, fun k hk X hX c' => ?_, hb⟩
  have hd : (UInt8.ofNat 0 :: lwP n q).drop (k + 1) = (lwP n q).drop k := rfl
  have hdl : ((lwP n q).drop k).length = q - k := by rw [List.length_drop, lwP_len]
  have hR : Rd w' .u8 (some ⟨bl, off + (k + 1), none⟩) (q - k) (gL ((lwP n q).drop k)) := fun _ =>
    ⟨bl, off + (k + 1), rfl, hbl, fun i hi => by
      rw [← hd, gL_drop, Nat.add_assoc off (k + 1) i]
      exact hcell (k + 1 + i) (by omega)⟩
  have := conv_row _ (q - k) c' _ X (hR.below hX)
  rw [← hdl, pc_list] at this
  rw [← hdl]
  exact this
/-- a time, its bytes not yet written, in block g -/
def Tv (W : World) (g : Nat) : Prop :=
  (W.cell? ⟨g, 0, none⟩ = some (.int .i64 14) ∧ W.frozen? ⟨g, 0, none⟩ = false) ∧ (W.cell? ⟨g, 1, none⟩ = some (.bool false) ∧ W.frozen? ⟨g, 1, none⟩ = false) ∧ (W.cell? ⟨g, 2, none⟩ = some (.int .u64 255) ∧ W.frozen? ⟨g, 2, none⟩ = false) ∧
  (W.cell? ⟨g, 3, none⟩ = some (.string ⟨#[]⟩) ∧ W.frozen? ⟨g, 3, none⟩ = false) ∧ (W.cell? ⟨g, 4, none⟩ = some (.slice none 0 0) ∧ W.frozen? ⟨g, 4, none⟩ = false)
theorem Tv.of {W : World} {g : Nat} {T : TypeId} (h : W.heap[g]? = some (.cells #[.int .i64 14, .bool false, .int .u64 255, .string ⟨#[]⟩, .slice none 0 0] T (0, 0))) : Tv W g := by
  have hf : ∀ i, W.frozen? ⟨g, i, none⟩ = false := fun i => by simp [World.frozen?, h]
  exact ⟨⟨cell_of_row _ _ 0 _ _ _ h, hf 0⟩, ⟨cell_of_row _ _ 1 _ _ _ h, hf 1⟩, ⟨cell_of_row _ _ 2 _ _ _ h, hf 2⟩, ⟨cell_of_row _ _ 3 _ _ _ h, hf 3⟩, ⟨cell_of_row _ _ 4 _ _ _ h, hf 4⟩⟩
section
variable {w : World}
set_option maxRecDepth 100000 in
set_option maxHeartbeats 8000000 in
theorem rfrom_any (x : Int) (n : Nat) (h1 : -9223372036854775808 ≤ x) (h2 : x ≤ 9223372036854775807) (hn : n < 4294967296) : Calls Try.prog 12 #[.int .i64 x, .int .u32 (n : Int)] w fun e w' => e = .returned (ftA x n) ∧ Below w.heap.size w w' := by
  by_cases h9 : n < 1000000000
  case neg =>
    have HV : Hid (ftA x n = ftNo) := Lib.hid (if_neg h9)
    rw [HV.out]
    have g1 : decide ((1000000000 : Int) ≤ (n : Int)) = true := decide_eq_true (by omega)
    clear h9 HV h1 h2 hn
    go_enter Try.func12, Try.ntmps12
    go_wp2_with fail
    exact bodyPost_ret (v := ftNo) (by simp [results, Try.results12, go_sem, ftNo]) rfl ⟨rfl, by first | exact Below.refl _ _ | exact (Below.refl _ _).alloc (Nat.le_refl _) _ | exact ((Below.refl _ _).alloc (Nat.le_refl _) _).alloc (by simp) _⟩
  have HV : Hid (ftA x n = ftB (ftL x n)) := Lib.hid (if_pos h9)
  rw [HV.out]
  have g1 : decide ((1000000000 : Int) ≤ (n : Int)) = false := decide_eq_false (by omega)
  have u1 : IntKind.u64.wrap (n : Int) = (n : Int) := by rw [IntKind.wrap_u64]; omega
  obtain ⟨U, hU⟩ : ∃ U : Nat, (x % 18446744073709551616).toNat = U := ⟨_, rfl⟩
  have u2 : IntKind.u64.wrap x = (U : Int) := by rw [IntKind.wrap_u64]; omega
  have hU2 : U < 18446744073709551616 := by omega
  obtain ⟨W0, hW0⟩ : ∃ W0, w.alloc (.cells #[.int .i64 0, .bool false, .int .u64 0, .string ⟨#[]⟩, .slice none 0 0] 25) = W0 := ⟨_, rfl⟩
  have z0 : W0.heap.size = w.heap.size + 1 := by rw [← hW0]; simp
  have k0 : W0.heap[w.heap.size]? = some (.cells #[.int .i64 0, .bool false, .int .u64 0, .string ⟨#[]⟩, .slice none 0 0] 25 (0, 0)) := by rw [← hW0]; exact heap_alloc_last _ _
  have hb0 : Below w.heap.size w W0 := by rw [← hW0]; exact (Below.refl _ _).alloc (Nat.le_refl _) _
  obtain ⟨W1, hW1⟩ : ∃ W1, W0.alloc (.cells #[.int .i64 14, .bool false, .int .u64 255, .string ⟨#[]⟩, .slice none 0 0] 25) = W1 := ⟨_, rfl⟩
  have z1 : W1.heap.size = w.heap.size + 2 := by rw [← hW1]; simp [z0]
  have hb1 : Below W0.heap.size W0 W1 := by rw [← hW1]; exact (Below.refl _ _).alloc (Nat.le_refl _) _
  have k1 : W1.heap[w.heap.size + 1]? = some (.cells #[.int .i64 14, .bool false, .int .u64 255, .string ⟨#[]⟩, .slice none 0 0] 25 (0, 0)) := by rw [← hW1, ← z0]; exact heap_alloc_last _ _
  have k2 : W1.heap[w.heap.size]? = some (.cells #[.int .i64 0, .bool false, .int .u64 0, .string ⟨#[]⟩, .slice none 0 0] 25 (0, 0)) := (hb1.block w.heap.size (by omega)).trans k0
  have HZB : Hid (∀ W, Below W1.heap.size W1 W → Tz W w.heap.size ∧ Tv W (w.heap.size + 1) ∧ Below w.heap.size w W) := Lib.hid fun W h => ⟨Tz.of ((h.block w.heap.size (by omega)).trans k2), Tv.of ((h.block (w.heap.size + 1) (by omega)).trans k1), (hb0.trans (hb1.mono (by omega))).trans (h.mono (by omega))⟩
  have HW1 := Lib.hid (And.intro hW0 hW1)
  have HBU := Lib.hid (rbig_txt U 8 W1 hU2 (by decide) (by decide))
  have HBT : Hid (∀ (m q : Nat) W, m < 18446744073709551616 → 0 < q → q ≤ 8 → Below W1.heap.size W1 W → Calls Try.prog 22 #[.int .i64 0, .int .u64 (m : Int), .int .i64 (q : Int)] W fun e w' => ∃ bl off c, e = .returned (.slice (some ⟨bl, off, none⟩) (q + 1) c) ∧ q + 1 ≤ c ∧
      (∀ k, k < q → ∀ X, Below w'.heap.size w' X → ∀ c', (convert 26 9 (.slice (some ⟨bl, off + (k + 1), none⟩) (q - k) c')).run Try.prog X = .ok (.string ⟨((lwP m q).drop k).toArray⟩) X) ∧ Below W.heap.size W w' ∧ Below W1.heap.size W1 w') := Lib.hid fun m q W h h0 h8 hb => (rbig_txt m q W h h0 h8).mono fun e w' ⟨bl, off, c, a1, a2, a3, a4⟩ => ⟨bl, off, c, a1, a2, a3, a4, hb.trans (a4.mono hb.size)⟩
  clear hW0 hW1 z0 z1 k0 k1 k2 hb0 hb1 HV
  by_cases h3 : 0 ≤ x ∧ x < 17179869184
  case neg =>
    have HL : Hid (ftL x n = lwP n 4 ++ lwP U 8) := Lib.hid (by unfold ftL; rw [if_neg (fun h => h3 ⟨h.1, by omega⟩), if_neg h3, hU])
    rw [HL.out]
    have hs : (x < 0 ∧ decide ((0 : Int) ≤ x) = false) ∨ (decide ((0 : Int) ≤ x) = true ∧ decide (x < 4294967296) = false ∧ decide (x < 17179869184) = false) := by
      by_cases hx : x < 0
      · exact .inl ⟨hx, decide_eq_false (by omega)⟩
      · exact .inr ⟨decide_eq_true (by omega), decide_eq_false (by omega), decide_eq_false (by omega)⟩
    have H2 : Hid (∀ W, Below W1.heap.size W1 W → _) := Lib.hid fun W hb => HBT.out n 4 W (by omega) (by decide) (by decide) hb
    have HS : Hid (ftB (lwP n 4 ++ lwP U 8) = ftS (⟨(lwP n 4).toArray⟩ ++ ⟨(lwP U 8).toArray⟩)) := Lib.hid (by rw [ba_app]; rfl)
    clear HBT HL h1 h2 hn h9 h3 hU hU2
    rcases hs with ⟨-, q1⟩ | ⟨q1, q2, q3⟩
    all_goals
      go_enter Try.func12, Try.ntmps12
      go_wp2_with fail
      rw [HW1.out.1, HW1.out.2]
      refine HBU.out.mono ?_
      rintro e w2 ⟨b1, o1, c1, rfl, l1, t1, hb⟩
      have HB2 := Lib.hid hb
      have HT1 := Lib.hid t1
      clear hb t1 HBU
      go_wp2_with fail
      refine (H2.out _ HB2.out).mono ?_
      rintro e w3 ⟨b2, o2, c2, rfl, l2, t2, hb, hbb⟩
      obtain ⟨P, hP⟩ : ∃ P : ByteArray, (⟨(lwP U 8).toArray⟩ : ByteArray) = P := ⟨_, rfl⟩
      obtain ⟨S, hS⟩ : ∃ S : ByteArray, (⟨(lwP n 4).toArray⟩ : ByteArray) = S := ⟨_, rfl⟩
      have v1 : ∀ c', (convert 26 9 (.slice (some ⟨b1, o1 + 1, none⟩) 8 c')).run Try.prog w3 = .ok (.string P) w3 := by rw [← hP]; exact HT1.out 0 (by decide) w3 hb
      have v2 : ∀ c', (convert 26 9 (.slice (some ⟨b2, o2 + 1, none⟩) 4 c')).run Try.prog w3 = .ok (.string S) w3 := by rw [← hS]; exact t2 0 (by decide) w3 (Below.refl _ _)
      have v3 : ∀ c', (convert 26 9 (.slice (some ⟨b1, o1 + 1, none⟩) 8 c')).run Try.prog w3.drew = .ok (.string P) w3.drew := by rw [← hP]; exact HT1.out 0 (by decide) w3.drew (Below.drew hb)
      have v4 : ∀ c', (convert 26 9 (.slice (some ⟨b2, o2 + 1, none⟩) 4 c')).run Try.prog w3.drew = .ok (.string S) w3.drew := by rw [← hS]; exact t2 0 (by decide) w3.drew (Below.drew (Below.refl _ _))
      have HS2 : Hid (ftB (lwP n 4 ++ lwP U 8) = ftS (S ++ P)) := Lib.hid (by rw [← hP, ← hS]; exact HS.out)
      have m1 : (9 : Int) ≤ (c1 : Int) := by omega
      have m2 : (5 : Int) ≤ (c2 : Int) := by omega
      have p1 : P.size = 8 := by rw [← hP]; show (lwP U 8).toArray.size = 8; rw [List.size_toArray, lwP_len]
      have p2 : S.size = 4 := by rw [← hS]; show (lwP n 4).toArray.size = 4; rw [List.size_toArray, lwP_len]
      have p4 : ¬ (9223372036854775807 < S.size + P.size) := by omega
      have n1 : ¬ c1 = 1 := by omega
      have n2 : ¬ c2 = 1 := by omega
      clear hP hS HS p1 p2
      obtain ⟨⟨⟨bc0, bf0⟩, ⟨bc1, bf1⟩, ⟨bc2, bf2⟩, ⟨bc3, bf3⟩, ⟨bc4, bf4⟩⟩, ⟨⟨dc0, df0⟩, ⟨dc1, df1⟩, ⟨dc2, df2⟩, ⟨dc3, df3⟩, ⟨dc4, df4⟩⟩, hbw⟩ := HZB.out _ hbb
      have HBW := Lib.hid hbw
      clear hbw hb hbb t2 HT1 HB2 H2
      go_upto_region 6 with fail
      go_still_tail 8, (by kernel_rfl)
      change wpList _ _ _ _ _ w3.drew
      go_wp2_with fail
      refine bodyPost_ret (v := ftS (S ++ P)) ?_ rfl ⟨congrArg Ending.returned HS2.out.symm, ?_⟩
      · simp [results, Try.results12, go_sem, ftS, bc0, bc1, bc2, bc3, bc4]
      · with_reducible exact Below.drew (tbelow_set5 (HBW.out.setCell (p := ⟨w.heap.size + 1, 3, none⟩) (Nat.le_succ _) _) (Nat.le_refl _) _ _ _ _ _)
  obtain ⟨h30, h31⟩ := h3
  have hxu : x.toNat = U := by omega
  have q1 : decide ((0 : Int) ≤ x) = true := decide_eq_true h30
  by_cases h4 : x < 4294967296 ∧ n = 0
  · obtain ⟨h5, rfl⟩ := h4
    have HS : Hid (ftB (ftL x 0) = ftS ⟨((lwP U 8).drop 4).toArray⟩) := Lib.hid (by unfold ftL; rw [if_pos ⟨h30, h5, rfl⟩, hxu, lwP_drop]; rfl)
    have q2 : decide (x < 4294967296) = true := decide_eq_true h5
    have ez : ((0 : Nat) : Int) = 0 := rfl
    rw [ez] at g1 u1 ⊢
    clear HBT h1 h2 hn h9 hU hU2 hxu h30 h31 h5 ez g1 u1
    go_enter Try.func12, Try.ntmps12
    go_wp2_with fail
    rw [HW1.out.1, HW1.out.2]
    refine HBU.out.mono ?_
    rintro e w3 ⟨b1, o1, c1, rfl, l1, t1, hb⟩
    obtain ⟨P, hP⟩ : ∃ P : ByteArray, (⟨((lwP U 8).drop 4).toArray⟩ : ByteArray) = P := ⟨_, rfl⟩
    have v1 : ∀ c', (convert 26 9 (.slice (some ⟨b1, o1 + 5, none⟩) 4 c')).run Try.prog w3 = .ok (.string P) w3 := by rw [← hP]; exact t1 4 (by decide) w3 (Below.refl _ _)
    have v3 : ∀ c', (convert 26 9 (.slice (some ⟨b1, o1 + 5, none⟩) 4 c')).run Try.prog w3.drew = .ok (.string P) w3.drew := by rw [← hP]; exact t1 4 (by decide) w3.drew (Below.drew (Below.refl _ _))
    have HS2 : Hid (ftB (ftL x 0) = ftS P) := Lib.hid (by rw [← hP]; exact HS.out)
    have m1 : (9 : Int) ≤ (c1 : Int) := by omega
    have n1 : ¬ c1 = 5 := by omega
    obtain ⟨⟨⟨bc0, bf0⟩, ⟨bc1, bf1⟩, ⟨bc2, bf2⟩, ⟨bc3, bf3⟩, ⟨bc4, bf4⟩⟩, ⟨⟨dc0, df0⟩, ⟨dc1, df1⟩, ⟨dc2, df2⟩, ⟨dc3, df3⟩, ⟨dc4, df4⟩⟩, hbw⟩ := HZB.out _ hb
    have HBW := Lib.hid hbw
    clear hP HS hb t1 hbw HBU
    go_wp2_with fail
    refine bodyPost_ret (v := ftS P) ?_ rfl ⟨congrArg Ending.returned HS2.out.symm, ?_⟩
    · simp [results, Try.results12, go_sem, ftS, bc0, bc1, bc2, bc3, bc4]
    · first | with_reducible exact Below.drew (tbelow_set5 (HBW.out.setCell (p := ⟨w.heap.size + 1, 3, none⟩) (Nat.le_succ _) _) (Nat.le_refl _) _ _ _ _ _) | with_reducible exact tbelow_set5 (HBW.out.setCell (p := ⟨w.heap.size + 1, 3, none⟩) (Nat.le_succ _) _) (Nat.le_refl _) _ _ _ _ _
  · have hL : ftL x n = lwP (n * 17179869184 + U) 8 := by unfold ftL; rw [if_neg (fun h => h4 h.2), if_pos ⟨h30, h31⟩, hxu]
    have o2 := ft_or (x := U) h9 (by omega)
    obtain ⟨T, hT⟩ : ∃ T, n * 17179869184 + U = T := ⟨_, rfl⟩
    have hT2 : T < 18446744073709551616 := by omega
    rw [hT] at o2 hL
    have HS : Hid (ftB (ftL x n) = ftS ⟨(lwP T 8).toArray⟩) := Lib.hid (by rw [hL]; rfl)
    have hs : (decide (x < 4294967296) = false) ∨ (decide (x < 4294967296) = true ∧ ((n : Int) == 0) = false) := by
      by_cases hx : x < 4294967296
      · exact .inr ⟨decide_eq_true hx, neI (by omega)⟩
      · exact .inl (decide_eq_false hx)
    have q3 : decide (x < 17179869184) = true := decide_eq_true h31
    have H2 : Hid (∀ W, Below W1.heap.size W1 W → _) := Lib.hid fun W hb => HBT.out T 8 W hT2 (by decide) (by decide) hb
    clear HBT h1 h2 hn h9 hU hU2 hxu h30 h31 hL hT hT2 h4
    rcases hs with q2 | ⟨q2, q4⟩
    all_goals
      go_enter Try.func12, Try.ntmps12
      go_wp2_with fail
      rw [HW1.out.1, HW1.out.2]
      refine HBU.out.mono ?_
      rintro e w2 ⟨b1, o1, c1, rfl, l1, t1, hb⟩
      have HB2 := Lib.hid hb
      clear hb t1 HBU
      go_wp2_with fail
      refine (H2.out _ HB2.out).mono ?_
      rintro e w3 ⟨b2, o3, c2, rfl, l2, t2, hb, hbb⟩
      obtain ⟨P, hP⟩ : ∃ P : ByteArray, (⟨(lwP T 8).toArray⟩ : ByteArray) = P := ⟨_, rfl⟩
      have v1 : ∀ c', (convert 26 9 (.slice (some ⟨b2, o3 + 1, none⟩) 8 c')).run Try.prog w3 = .ok (.string P) w3 := by rw [← hP]; exact t2 0 (by decide) w3 (Below.refl _ _)
      have v3 : ∀ c', (convert 26 9 (.slice (some ⟨b2, o3 + 1, none⟩) 8 c')).run Try.prog w3.drew = .ok (.string P) w3.drew := by rw [← hP]; exact t2 0 (by decide) w3.drew (Below.drew (Below.refl _ _))
      have HS2 : Hid (ftB (ftL x n) = ftS P) := Lib.hid (by rw [← hP]; exact HS.out)
      have m2 : (9 : Int) ≤ (c2 : Int) := by omega
      have n2 : ¬ c2 = 1 := by omega
      obtain ⟨⟨⟨bc0, bf0⟩, ⟨bc1, bf1⟩, ⟨bc2, bf2⟩, ⟨bc3, bf3⟩, ⟨bc4, bf4⟩⟩, ⟨⟨dc0, df0⟩, ⟨dc1, df1⟩, ⟨dc2, df2⟩, ⟨dc3, df3⟩, ⟨dc4, df4⟩⟩, hbw⟩ := HZB.out _ hbb
      have HBW := Lib.hid hbw
      clear hP HS hbw hb hbb t2 HB2 H2
      go_wp2_with fail
      refine bodyPost_ret (v := ftS P) ?_ rfl ⟨congrArg Ending.returned HS2.out.symm, ?_⟩
      · simp [results, Try.results12, go_sem, ftS, bc0, bc1, bc2, bc3, bc4]
      · first | with_reducible exact Below.drew (tbelow_set5 (HBW.out.setCell (p := ⟨w.heap.size + 1, 3, none⟩) (Nat.le_succ _) _) (Nat.le_refl _) _ _ _ _ _) | with_reducible exact tbelow_set5 (HBW.out.setCell (p := ⟨w.heap.size + 1, 3, none⟩) (Nat.le_succ _) _) (Nat.le_refl _) _ _ _ _ _
end
end Go.Proofs.Ytfchondipjiicaa.nn
namespace Go.Proofs.Ytfchondipjiicaa.nn
open Go.RowKit

theorem toList_inj {s t : ByteArray} (h : s.toList = t.toList) : s = t := by
  rw [ByteArray.toList_eq, ByteArray.toList_eq] at h
  exact ByteArray.ext (Array.toList_inj.1 h)
end Go.Proofs.Ytfchondipjiicaa.nn
namespace Go.Proofs.Ytfchondipjiicaa.nn
open Go.RowKit

set_option maxRecDepth 100000 in
set_option maxHeartbeats 2000000 in
theorem same13_any (N : Nat) : ∀ (t u : VT) (C D : Value) (w : World), cnt t ≤ N → N ≤ 4611686018427387904 → cnt u ≤ 4611686018427387904 → Lst w C t.l → Lst w D u.l →
    Calls Try.prog 13 #[vv t C, vv u D] w fun e w' => e = .returned (.bool (eqv t u)) ∧ Below w.heap.size w w' := by
  induction N with
  | zero => intro t u C D w h _ _ _ _; have := cnt_mk t; omega
  | succ N ih =>
    intro t u C D w hN hM hM2 hC hD
    have hcm := cnt_mk t
    have hll := len_cntL t.l
    have hcm2 := cnt_mk u
    have hll2 := len_cntL u.l
    have HB0 := Lib.hid (Box2.new w t C u D 25)
    have HE := Lib.hid (eqv_parts t u)
    obtain ⟨E, hE⟩ : ∃ E, eqv t u = E := ⟨_, rfl⟩
    rw [hE] at HE ⊢
    obtain ⟨A, c, rfl, hlc, hA⟩ := hC.out
    obtain ⟨A2, c2, rfl, hlc2, hA2⟩ := hD.out
    obtain ⟨l, hl⟩ : ∃ l, t.l = l := ⟨_, rfl⟩
    obtain ⟨l2, hl2⟩ : ∃ l, u.l = l := ⟨_, rfl⟩
    rw [hl] at hlc hA hcm hll HE HB0 ⊢
    rw [hl2] at hlc2 hA2 hcm2 hll2 HE HB0 ⊢
    obtain ⟨k, hk⟩ : ∃ k, t.k = k := ⟨_, rfl⟩
    obtain ⟨g, hg⟩ : ∃ k, t.g = k := ⟨_, rfl⟩
    obtain ⟨n, hn⟩ : ∃ k, t.n = k := ⟨_, rfl⟩
    obtain ⟨s, hs⟩ : ∃ k, t.s = k := ⟨_, rfl⟩
    obtain ⟨k2, hk2⟩ : ∃ k, u.k = k := ⟨_, rfl⟩
    obtain ⟨g2, hg2⟩ : ∃ k, u.g = k := ⟨_, rfl⟩
    obtain ⟨n2, hn2⟩ : ∃ k, u.n = k := ⟨_, rfl⟩
    obtain ⟨s2, hs2⟩ : ∃ k, u.s = k := ⟨_, rfl⟩
    unfold vv
    rw [hk, hg, hn, hs, hk2, hg2, hn2, hs2] at HE HB0 ⊢
    clear hE hC hD hl hl2 hk hg hn hs hk2 hg2 hn2 hs2
    have HF : Hid (k ≠ k2 ∨ g ≠ g2 ∨ n ≠ n2 ∨ s ≠ s2 ∨ l ≠ l2 → E = false) := Lib.hid fun h => by
      cases E with
      | false => rfl
      | true =>
        obtain ⟨e1, e2, e3, e4, e5⟩ := HE.out.1 rfl
        rcases h with h | h | h | h | h
        · exact absurd e1 h
        · exact absurd e2 h
        · exact absurd e3 h
        · exact absurd e4 h
        · exact absurd e5 h
    by_cases h1 : k = k2
    · subst h1
      by_cases h2 : g = g2
      · subst h2
        by_cases h3 : n = n2
        · subst h3
          by_cases h4 : s = s2
          · subst h4
            by_cases h5 : l.length = l2.length
            · have HT : Hid (E = true ↔ l = l2) := Lib.hid ⟨fun h => (HE.out.1 h).2.2.2.2, fun h => HE.out.2 ⟨rfl, rfl, rfl, rfl, h⟩⟩
              have H5 := Lib.hid h5
              rw [h5] at hlc hll HB0 ⊢
              clear h5 HE HF
              go_enter Try.func13, Try.ntmps13
              go_wp2_with fail
              go_loopw [5] (fun s5 wr => ∃ i : Nat, i ≤ l2.length ∧ s5 = .int .i64 (i : Int) ∧ Hid (l.take i = l2.take i) ∧ Hid (Box2 w t (.slice A l2.length c) u (.slice A2 l2.length c2) wr)) (fun s5 _ => l2.length - (intOf s5).toNat)
              case atStart => exact ⟨0, Nat.zero_le _, rfl, Lib.hid rfl, HB0⟩
              case round =>
                obtain ⟨i, hi, rfl, hm, hk⟩ := hrel
                have h4 : wr.cell? ⟨w.heap.size, 4, none⟩ = some (.slice A l2.length c) := hk.out.r.l
                have h4' : wr.cell? ⟨w.heap.size + 1, 4, none⟩ = some (.slice A2 l2.length c2) := hk.out.r2.l
                by_cases hlt : i < l2.length
                · have hlt1 : i < l.length := by rw [H5.out]; exact hlt
                  rcases hA with ⟨_, h0, _⟩ | ⟨b, off, DD, rfl, hb, hrow, hkid⟩
                  · rw [h0] at hlt1; exact absurd hlt1 (by simp)
                  rcases hA2 with ⟨_, h0, _⟩ | ⟨b2, off2, DD2, rfl, hb2, hrow2, hkid2⟩
                  · rw [h0] at hlt; exact absurd hlt (by simp)
                  obtain ⟨t', ht'⟩ : ∃ t', l[i] = t' := ⟨_, rfl⟩
                  obtain ⟨C', hC'⟩ : ∃ C', DD i = C' := ⟨_, rfl⟩
                  obtain ⟨u', hu'⟩ : ∃ t', l2[i] = t' := ⟨_, rfl⟩
                  obtain ⟨D', hD'⟩ : ∃ C', DD2 i = C' := ⟨_, rfl⟩
                  have hr := hrow i hlt1
                  have hkl := hkid i hlt1
                  have hr2 := hrow2 i hlt
                  have hkl2 := hkid2 i hlt
                  rw [ht', hC'] at hr hkl
                  rw [hu', hD'] at hr2 hkl2
                  have hcn := cnt_at hlt1
                  have hcn2 := cnt_at hlt
                  have ht1 := List.take_succ_eq_append_getElem hlt1
                  have ht2 := List.take_succ_eq_append_getElem hlt
                  rw [ht'] at hcn ht1
                  rw [hu'] at hcn2 ht2
                  have HX : Hid (∀ W, Box2 w t (.slice (some ⟨b, off, none⟩) l2.length c) u (.slice (some ⟨b2, off2, none⟩) l2.length c2) W → W.cell? ⟨w.heap.size, 4, none⟩ = some (.slice (some ⟨b, off, none⟩) l2.length c) ∧ W.cell? ⟨w.heap.size + 1, 4, none⟩ = some (.slice (some ⟨b2, off2, none⟩) l2.length c2) ∧
                      W.cell? ⟨b, off + i * 5, none⟩ = some (.int .i64 t'.k) ∧ W.cell? ⟨b, off + i * 5 + 1, none⟩ = some (.bool t'.g) ∧ W.cell? ⟨b, off + i * 5 + 2, none⟩ = some (.int .u64 (t'.n : Int)) ∧ W.cell? ⟨b, off + i * 5 + 3, none⟩ = some (.string t'.s) ∧ W.cell? ⟨b, off + i * 5 + 4, none⟩ = some C' ∧
                      W.cell? ⟨b2, off2 + i * 5, none⟩ = some (.int .i64 u'.k) ∧ W.cell? ⟨b2, off2 + i * 5 + 1, none⟩ = some (.bool u'.g) ∧ W.cell? ⟨b2, off2 + i * 5 + 2, none⟩ = some (.int .u64 (u'.n : Int)) ∧ W.cell? ⟨b2, off2 + i * 5 + 3, none⟩ = some (.string u'.s) ∧ W.cell? ⟨b2, off2 + i * 5 + 4, none⟩ = some D' ∧ Box2 w t (.slice (some ⟨b, off, none⟩) l2.length c) u (.slice (some ⟨b2, off2, none⟩) l2.length c2) W) := Lib.hid fun W hW =>
                    have r1 := hr.below hW.b hb
                    have r2 := hr2.below hW.b hb2
                    ⟨hW.r.l, hW.r2.l, r1.k, r1.g, r1.n, r1.s, r1.l, r2.k, r2.g, r2.n, r2.s, r2.l, hW⟩
                  have HI : Hid (∀ W, Box2 w t (.slice (some ⟨b, off, none⟩) l2.length c) u (.slice (some ⟨b2, off2, none⟩) l2.length c2) W → Calls Try.prog 13 #[vv t' C', vv u' D'] W fun e w' => e = .returned (.bool (eqv t' u')) ∧ Box2 w t (.slice (some ⟨b, off, none⟩) l2.length c) u (.slice (some ⟨b2, off2, none⟩) l2.length c2) w') := Lib.hid fun W hW =>
                    (ih t' u' C' D' W (by omega) (by omega) (by omega) (hkl.keep hW.b (Nat.le_refl _)) (hkl2.keep hW.b (Nat.le_refl _))).mono fun e w' ⟨he, hb⟩ => ⟨he, hW.on hb⟩
                  have HQ := Lib.hid (eqv_iff t' u')
                  obtain ⟨Q, hQ⟩ : ∃ Q, eqv t' u' = Q := ⟨_, rfl⟩
                  rw [hQ] at HI HQ
                  have HT1 := Lib.hid ht1
                  have HT2 := Lib.hid ht2
                  unfold vv at HI
                  clear hr hr2 hkl hkl2 hrow hrow2 hkid hkid2 ht' hC' hu' hD' hcn hcn2 ht1 ht2 ih hQ
                  cases Q with
                  | false =>
                    have HN : Hid (E = false) := Lib.hid (by
                      cases E with
                      | false => rfl
                      | true =>
                        have hll := HT.out.1 rfl
                        have h1 := HT1.out
                        rw [hll, HT2.out] at h1
                        have h2 : [u'] = [t'] := List.append_cancel_left h1
                        injection h2 with h3 _
                        exact absurd (HQ.out.2 h3.symm) (by decide))
                    have hk0 := hk.out.drew
                    have hx0 := HX.out _ hk0
                    go_wp2_with fail
                    go_region_held3 (fun W => W.cell? ⟨w.heap.size, 4, none⟩ = some (.slice (some ⟨b, off, none⟩) l2.length c) ∧ W.cell? ⟨w.heap.size + 1, 4, none⟩ = some (.slice (some ⟨b2, off2, none⟩) l2.length c2) ∧
                        W.cell? ⟨b, off + i * 5, none⟩ = some (.int .i64 t'.k) ∧ W.cell? ⟨b, off + i * 5 + 1, none⟩ = some (.bool t'.g) ∧ W.cell? ⟨b, off + i * 5 + 2, none⟩ = some (.int .u64 (t'.n : Int)) ∧ W.cell? ⟨b, off + i * 5 + 3, none⟩ = some (.string t'.s) ∧ W.cell? ⟨b, off + i * 5 + 4, none⟩ = some C' ∧
                        W.cell? ⟨b2, off2 + i * 5, none⟩ = some (.int .i64 u'.k) ∧ W.cell? ⟨b2, off2 + i * 5 + 1, none⟩ = some (.bool u'.g) ∧ W.cell? ⟨b2, off2 + i * 5 + 2, none⟩ = some (.int .u64 (u'.n : Int)) ∧ W.cell? ⟨b2, off2 + i * 5 + 3, none⟩ = some (.string u'.s) ∧ W.cell? ⟨b2, off2 + i * 5 + 4, none⟩ = some D' ∧ Box2 w t (.slice (some ⟨b, off, none⟩) l2.length c) u (.slice (some ⟨b2, off2, none⟩) l2.length c2) W) (first | exact HX.out _ ‹_› | exact HX.out _ (And.right ‹_›))
                      (first | (go_at_call 13; refine (HI.out _ ?_).mono ?_; (first | assumption | exact And.right ‹_›); rintro e w' ⟨rfl, hk5⟩))
                    clear h4 h4' hx0
                    go_wp2_with fail
                    go_ret
                    exact ⟨by rw [HN.out]; rfl, hk5.b⟩
                  | true =>
                    have hm2 : Hid (l.take (i + 1) = l2.take (i + 1)) := Lib.hid (by rw [HT1.out, HT2.out, hm.out, HQ.out.1 rfl])
                    have hk0 := hk.out.drew
                    have hx0 := HX.out _ hk0
                    go_wp2_with fail
                    go_region_held3 (fun W => W.cell? ⟨w.heap.size, 4, none⟩ = some (.slice (some ⟨b, off, none⟩) l2.length c) ∧ W.cell? ⟨w.heap.size + 1, 4, none⟩ = some (.slice (some ⟨b2, off2, none⟩) l2.length c2) ∧
                        W.cell? ⟨b, off + i * 5, none⟩ = some (.int .i64 t'.k) ∧ W.cell? ⟨b, off + i * 5 + 1, none⟩ = some (.bool t'.g) ∧ W.cell? ⟨b, off + i * 5 + 2, none⟩ = some (.int .u64 (t'.n : Int)) ∧ W.cell? ⟨b, off + i * 5 + 3, none⟩ = some (.string t'.s) ∧ W.cell? ⟨b, off + i * 5 + 4, none⟩ = some C' ∧
                        W.cell? ⟨b2, off2 + i * 5, none⟩ = some (.int .i64 u'.k) ∧ W.cell? ⟨b2, off2 + i * 5 + 1, none⟩ = some (.bool u'.g) ∧ W.cell? ⟨b2, off2 + i * 5 + 2, none⟩ = some (.int .u64 (u'.n : Int)) ∧ W.cell? ⟨b2, off2 + i * 5 + 3, none⟩ = some (.string u'.s) ∧ W.cell? ⟨b2, off2 + i * 5 + 4, none⟩ = some D' ∧ Box2 w t (.slice (some ⟨b, off, none⟩) l2.length c) u (.slice (some ⟨b2, off2, none⟩) l2.length c2) W) (first | exact HX.out _ ‹_› | exact HX.out _ (And.right ‹_›))
                      (first | (go_at_call 13; refine (HI.out _ ?_).mono ?_; (first | assumption | exact And.right ‹_›); rintro e w' ⟨rfl, hk5⟩))
                    clear h4 h4' hx0
                    go_wp2_with fail
                    go_roundw
                    case rel => exact ⟨i + 1, hlt, by go_num, hm2, Lib.hid hk5⟩
                    case measure => simp [intOf]; omega
                · obtain rfl : i = l2.length := by omega
                  have HN : Hid (E = true) := Lib.hid (HT.out.2 (by have := hm.out; rwa [List.take_length, ← H5.out, List.take_length] at this))
                  go_wp2_with fail
                  go_ret
                  exact ⟨by rw [HN.out]; rfl, hk.out.b⟩
            · have HN : Hid (E = false) := Lib.hid (HF.out (.inr (.inr (.inr (.inr fun h => h5 (by rw [h]))))))
              have q5 : ((l.length : Int) != (l2.length : Int)) = true := by simp; omega
              clear h5
              go_enter Try.func13, Try.ntmps13
              go_wp2_with fail
              go_ret
              exact ⟨by rw [HN.out]; rfl, HB0.out.b⟩
          · have HN : Hid (E = false) := Lib.hid (HF.out (.inr (.inr (.inr (.inl h4)))))
            have q4 : ¬ s.toList = s2.toList := fun h => h4 (toList_inj h)
            have q4' : (s.toList == s2.toList) = false := by simpa using q4
            have q4'' : (s.toList != s2.toList) = true := by simpa using q4
            clear h4
            go_enter Try.func13, Try.ntmps13
            go_wp2_with fail
            go_ret
            exact ⟨by rw [HN.out]; rfl, HB0.out.b⟩
        · have HN : Hid (E = false) := Lib.hid (HF.out (.inr (.inr (.inl h3))))
          have q3 : ((n : Int) != (n2 : Int)) = true := by simp; omega
          clear h3
          go_enter Try.func13, Try.ntmps13
          go_wp2_with fail
          go_ret
          exact ⟨by rw [HN.out]; rfl, HB0.out.b⟩
      · have HN : Hid (E = false) := Lib.hid (HF.out (.inr (.inl h2)))
        have hgg : (g = true ∧ g2 = false) ∨ (g = false ∧ g2 = true) := by cases g <;> cases g2 <;> simp_all
        clear h2 HE HF
        rcases hgg with ⟨rfl, rfl⟩ | ⟨rfl, rfl⟩
        all_goals
          go_enter Try.func13, Try.ntmps13
          go_wp2_with fail
          go_ret
          exact ⟨by rw [HN.out]; rfl, HB0.out.b⟩
    · have HN : Hid (E = false) := Lib.hid (HF.out (.inl h1))
      have q1 : (k != k2) = true := by simp [h1]
      clear h1
      go_enter Try.func13, Try.ntmps13
      go_wp2_with fail
      go_ret
      exact ⟨by rw [HN.out]; rfl, HB0.out.b⟩
end Go.Proofs.Ytfchondipjiicaa.nn
namespace Go.Proofs.Ytfchondipjiicaa.nn
open Go.RowKit

/-- a path lies in a new block (from base on) that is not own -/
def RowAt (base : Nat) (w : World) (u : Value) (own : Option Nat) (p : List Nat) : Prop := ∃ B O c : Nat, u = .slice (some ⟨B, O, none⟩) p.length c ∧ p.length ≤ c ∧ B < w.heap.size ∧ base ≤ B ∧ some B ≠ own ∧ ∀ j (h : j < p.length), w.cell? ⟨B, O + j, none⟩ = some (.int .i64 (p[j] : Int))
/-- paths that are gathered in a slice -/
def Coll (base : Nat) (w : World) (v : Value) (P : List (List Nat)) : Prop := ∃ xs : List Value, w.ownsRow base 55 1 v P.length xs ∧ v ≠ .slice none 0 0 ∧ xs.length = P.length ∧ ∀ k (h : k < P.length), ∃ u, xs[k]? = some u ∧ RowAt base w u v.ownBlock P[k]
/-- paths that are read -/
def PR (base : Nat) (w : World) (own : Option Nat) (v : Value) (P : List (List Nat)) : Prop := ∃ b off c : Nat, v = .slice (some ⟨b, off, none⟩) P.length c ∧ P.length ≤ c ∧ b < w.heap.size ∧ base ≤ b ∧ some b ≠ own ∧ ∀ k (h : k < P.length), ∃ u, w.cell? ⟨b, off + k, none⟩ = some u ∧ RowAt base w u own P[k]
section
variable {w w' : World} {u v v' : Value} {own own' : Option Nat} {p : List Nat} {P : List (List Nat)} {base base' B : Nat}
theorem RowAt.keep (h : RowAt base w u own p) (hB : Below w.heap.size w w') : RowAt base w' u own p := by
  obtain ⟨b, o, c, h1, h2, h3, h0, h4, h5⟩ := h
  exact ⟨b, o, c, h1, h2, Nat.lt_of_lt_of_le h3 hB.size, h0, h4, fun j hj => (hB.cell (p := ⟨b, o + j, none⟩) h3).trans (h5 j hj)⟩
/-- block own was written, or a new one was made in its place -/
theorem RowAt.grown (h : RowAt base w u own p) (hg : w.grownBy w' own) (ho : own' = own ∨ own' = some w.heap.size) : RowAt base w' u own' p := by
  obtain ⟨b, o, c, h1, h2, h3, h0, h4, h5⟩ := h
  refine ⟨b, o, c, h1, h2, Nat.lt_of_lt_of_le h3 hg.size, h0, ?_, fun j hj => ?_⟩
  · rcases ho with rfl | rfl
    · exact h4
    · intro h; injection h with h; omega
  · have hb := hg.block b h3 h4
    rw [← h5 j hj]
    simp only [World.cell?, hb]
/-- new blocks aren't an elder one -/
theorem RowAt.other (h : RowAt base w u own p) {g : Nat} (hg : g < base) : RowAt base w u (some g) p := by
  obtain ⟨b, o, c, h1, h2, h3, h0, _, h5⟩ := h
  exact ⟨b, o, c, h1, h2, h3, h0, by intro h; injection h with h; omega, h5⟩
theorem PR.keep (h : PR base w own v P) (hB : Below w.heap.size w w') : PR base w' own v P := by
  obtain ⟨b, o, c, h1, h2, h3, h0, hn, h4⟩ := h
  refine ⟨b, o, c, h1, h2, Nat.lt_of_lt_of_le h3 hB.size, h0, hn, fun k hk => ?_⟩
  obtain ⟨u, hu, hr⟩ := h4 k hk
  exact ⟨u, (hB.cell (p := ⟨b, o + k, none⟩) h3).trans hu, hr.keep hB⟩
theorem PR.grown (h : PR base w own v P) (hg : w.grownBy w' own) (ho : own' = own ∨ own' = some w.heap.size) : PR base w' own' v P := by
  obtain ⟨b, o, c, h1, h2, h3, h0, hn, h4⟩ := h
  refine ⟨b, o, c, h1, h2, Nat.lt_of_lt_of_le h3 hg.size, h0, ?_, fun k hk => ?_⟩
  · rcases ho with rfl | rfl
    · exact hn
    · intro h; injection h with h; omega
  · obtain ⟨u, hu, hr⟩ := h4 k hk
    refine ⟨u, ?_, hr.grown hg ho⟩
    have hb := hg.block b h3 hn
    rw [← hu]
    simp only [World.cell?, hb]
theorem PR.other (h : PR base w own v P) {g : Nat} (hg : g < base) : PR base w (some g) v P := by
  obtain ⟨b, o, c, h1, h2, h3, h0, _, h4⟩ := h
  refine ⟨b, o, c, h1, h2, h3, h0, by intro h; injection h with h; omega, fun k hk => ?_⟩
  obtain ⟨u, hu, hr⟩ := h4 k hk
  exact ⟨u, hu, hr.other hg⟩
theorem Coll.keep (h : Coll base w v P) (hB : Below w.heap.size w w') : Coll base w' v P := by
  obtain ⟨xs, h1, h2, h3, h4⟩ := h
  refine ⟨xs, ⟨h1.1, ?_⟩, h2, h3, fun k hk => ?_⟩
  · rcases h1.2 with h5 | ⟨g, cap, cur, hv, hb, hg, h6⟩
    · exact .inl h5
    · exact .inr ⟨g, cap, cur, hv, hb, (hB.block g (Array.getElem?_eq_some_iff.1 hg).1).trans hg, h6⟩
  · obtain ⟨u, hu, hr⟩ := h4 k hk
    exact ⟨u, hu, hr.keep hB⟩
/-- the first ones alone -/
theorem PR.take {b off c m k : Nat} (h : PR base w own (.slice (some ⟨b, off, none⟩) m c) P) (hk : k = min P.length k) : PR base w own (.slice (some ⟨b, off, none⟩) k c) (P.take k) := by
  obtain ⟨b', o', c', e1, h2, h3, h0, hn, h4⟩ := h
  injection e1 with e1 e2 e3
  injection e1 with e1
  injection e1 with e1 e4 e5
  subst e1 e4 e3
  refine ⟨b, off, c, by rw [List.length_take]; congr 1; omega, by rw [List.length_take]; omega, h3, h0, hn, fun j hj => ?_⟩
  rw [List.length_take] at hj
  obtain ⟨u, hu, hr⟩ := h4 j (by omega)
  exact ⟨u, hu, by rw [List.getElem_take]; exact hr⟩
theorem PR.form (h : PR base w own v P) : ∃ b off c : Nat, v = .slice (some ⟨b, off, none⟩) P.length c ∧ P.length ≤ c := by
  obtain ⟨b, o, c, e1, e2, _⟩ := h
  exact ⟨b, o, c, e1, e2⟩
end
end Go.Proofs.Ytfchondipjiicaa.nn
namespace Go.Proofs.Ytfchondipjiicaa.nn
open Go.RowKit

/-- blocks of one's own lie from M on, and are there -/
def Wb (M : Nat) (O : Nat → Prop) (W : World) : Prop := ∀ b, O b → M ≤ b ∧ b < W.heap.size
/-- a step that turns one's own blocks alone (O, behind it O'), and blocks of which E holds -/
structure Mv (E : Nat → Prop) (O : Nat → Prop) (W : World) (O' : Nat → Prop) (W' : World) : Prop where
  os : W'.os = W.os
  tape : W'.tape = W.tape
  output : W'.output = W.output
  size : W.heap.size ≤ W'.heap.size
  more : ∀ b, O b → O' b
  new : ∀ b, O' b → O b ∨ (W.heap.size ≤ b ∧ b < W'.heap.size)
  kept : ∀ b, b < W.heap.size → ¬ O b → ¬ E b → W'.heap[b]? = W.heap[b]?
def No : Nat → Prop := fun _ => False
/-- what a round keeps -/
structure Kr (n₀ : Nat) (O : Nat → Prop) (W W' : World) : Prop where
  b : Below n₀ W W'
  o : ∀ b, O b → W'.heap[b]? = W.heap[b]?
theorem Kr.refl (n₀ : Nat) (O : Nat → Prop) (W : World) : Kr n₀ O W W := ⟨Below.refl _ _, fun _ _ => rfl⟩
theorem Kr.trans {n₀ : Nat} {O : Nat → Prop} {A B C : World} (h : Kr n₀ O A B) (k : Kr n₀ O B C) : Kr n₀ O A C := ⟨h.b.trans k.b, fun b hb => (k.o b hb).trans (h.o b hb)⟩
theorem Mv.trans {E O1 O2 O3 : Nat → Prop} {A B C : World} (h : Mv E O1 A O2 B) (k : Mv E O2 B O3 C) : Mv E O1 A O3 C where
  os := k.os.trans h.os
  tape := k.tape.trans h.tape
  output := k.output.trans h.output
  size := Nat.le_trans h.size k.size
  more := fun b hb => k.more b (h.more b hb)
  new := fun b hb => by
    rcases k.new b hb with h1 | h1
    · rcases h.new b h1 with h2 | h2
      · exact .inl h2
      · exact .inr ⟨h2.1, Nat.lt_of_lt_of_le h2.2 k.size⟩
    · exact .inr ⟨Nat.le_trans h.size h1.1, h1.2⟩
  kept := fun b hb hO hE => by
    have h2 : ¬ O2 b := fun h3 => by
      rcases h.new b h3 with h4 | h4
      · exact hO h4
      · omega
    exact (k.kept b (Nat.lt_of_lt_of_le hb h.size) h2 hE).trans (h.kept b hb hO hE)
theorem Mv.weak {E E' O O' : Nat → Prop} {W W' : World} (h : Mv E O W O' W') (hE : ∀ b, E b → E' b) : Mv E' O W O' W' :=
  ⟨h.os, h.tape, h.output, h.size, h.more, h.new, fun b hb hO hn => h.kept b hb hO fun he => hn (hE b he)⟩
theorem Mv.refl (E O : Nat → Prop) (W : World) : Mv E O W O W := ⟨rfl, rfl, rfl, Nat.le_refl _, fun _ h => h, fun _ h => .inl h, fun _ _ _ _ => rfl⟩
theorem Mv.drew (E O : Nat → Prop) (W : World) : Mv E O W O W.drew := ⟨rfl, rfl, rfl, Nat.le_refl _, fun _ h => h, fun _ h => .inl h, fun _ _ _ _ => rfl⟩
theorem Mv.alloc (E O : Nat → Prop) (W : World) (o : Obj) : Mv E O W (fun b => O b ∨ b = W.heap.size) (W.alloc o) :=
  ⟨rfl, rfl, rfl, by simp, fun _ h => .inl h, fun b h => h.elim .inl fun h => .inr (by subst h; simp), fun b hb _ _ => Below.heap_alloc _ _ _ hb⟩
theorem Mv.put {E O : Nat → Prop} (W : World) {l : Nat} (o : Obj) (hE : E l) : Mv E O W O (W.putObj l o) :=
  ⟨rfl, rfl, rfl, by simp, fun _ h => h, fun _ h => .inl h, fun b _ _ hb => World.putObj_heap_other (fun e => hb (e ▸ hE))⟩
/-- an append (or another step that turns one row) -/
theorem Mv.grown {E O : Nat → Prop} {W W' : World} {row : Option Nat} (hg : W.grownBy W' row) (hr : ∀ k, row = some k → O k) : Mv E O W (fun b => O b ∨ (W.heap.size ≤ b ∧ b < W'.heap.size)) W' :=
  ⟨hg.os, hg.tape, hg.output, hg.size, fun _ h => .inl h, fun _ h => h, fun b hb hO _ => hg.block b hb fun e => hO (hr b e.symm)⟩
theorem Mv.base {E O O' : Nat → Prop} {W W' : World} {M : Nat} (h : Mv E O W O' W') (hb : Wb M O W) (hM : M ≤ W.heap.size) : Wb M O' W' := fun b hO => by
  rcases h.new b hO with h1 | h1
  · have := hb b h1
    exact ⟨this.1, Nat.lt_of_lt_of_le this.2 h.size⟩
  · exact ⟨Nat.le_trans hM h1.1, h1.2⟩
theorem Wb.no (M : Nat) (W : World) : Wb M No W := fun _ h => h.elim
theorem Wb.keep {M : Nat} {O : Nat → Prop} {W W' : World} (h : Wb M O W) (hs : W.heap.size ≤ W'.heap.size) : Wb M O W' := fun b hb => ⟨(h b hb).1, Nat.lt_of_lt_of_le (h b hb).2 hs⟩

theorem RoundIn.any {m m' : Nat} {P : Program} {l : Nat} {f : FuncId} {tmps : Array Value} {assign body : Code} {w : World} {R : Ending → World → Prop}
    (h : RoundIn Fence.wide m P l f tmps assign body w R) : RoundIn Fence.wide m' P l f tmps assign body w R := ⟨h.1, fun c cs _ => h.2 c cs (room_wide _)⟩

/-- an iterator that tells xs, and writes blocks of its own alone -/
def Gives (P : Program) (g : Nat) (lb : Array Value) {α : Type} (Arg : α → (Nat → Prop) → World → Array Value → Prop) (xs : List α) (n₀ : Nat) (w : World) : Prop :=
  ∀ (l M : Nat) (J : List α → (Nat → Prop) → World → Prop) (Jx : List α → World → Prop) (W : World), Below w.heap.size w W → M = W.heap.size →
    (∀ pre O W1 O' W2, J pre O W1 → Wb M O W1 → Mv No O W1 O' W2 → J pre O' W2) →
    (∀ pre W1 O' W2, Jx pre W1 → Mv No No W1 O' W2 → Jx pre W2) →
    (∀ m pre x O W1 args, J pre O W1 → Wb M O W1 → Arg x O W1 args → (∃ q, xs = pre ++ x :: q) → YieldAt Fence.wide m P l args W1 fun e W2 =>
      (e = .returned (.bool true) ∧ J (pre ++ [x]) O W2 ∧ Kr n₀ O W1 W2) ∨ (e = .returned (.bool false) ∧ Jx (pre ++ [x]) W2)) →
    J [] No W →
    Calls P g (#[.func (.yield l) #[] #[]] ++ lb) W fun e W' => (∃ v, e = .returned v) ∧ ((∃ O', J xs O' W' ∧ Wb M O' W') ∨ (∃ pre, (∃ q, xs = pre ++ q) ∧ Jx pre W'))

/-- how a round's body may be left -/
def rfPost {α : Type} (n₀ D : Nat) (O : Nat → Prop) (I : List α → (Nat → Prop) → World → Prop) (Ix : Code → List α → World → Prop) (xs : List α) (W : World) : Exit → Act → World → Prop
  | .normal, _, W' => (Kr n₀ O W W' ∧ W'.heap[D]? = W.heap[D]? ∧ W'.heap[D + 1]? = W.heap[D + 1]?) ∧ I xs O W'
  | .ret, _, W' => (W'.heap[D]? = W.heap[D]? ∧ W'.heap[D + 1]? = W.heap[D + 1]?) ∧ Ix .ret xs W'
  | .exit id, _, W' => (W'.heap[D]? = W.heap[D]? ∧ W'.heap[D + 1]? = W.heap[D + 1]?) ∧ Ix (.exit id) xs W'
  | .goto _, _, _ => False
  | .panic _, _, _ => False
  | .outgrown, _, _ => False

def EE (D : Nat) : Nat → Prop := fun b => b = D ∨ b = D + 1

set_option maxHeartbeats 1000000 in
theorem rf_law {P : Program} {n : Nat} {g : Operand} {ps : Array Tmp} {assign body : Code} {Q : Exit → Act → World → Prop} {a : Act} {w : World} {gf : Nat} {lb : Array Value}
    (hg : a.eval g = .func (.func gf) #[] lb) (eg : ∀ args w, (callFunc gf args).run P w = .ok (.enter gf args) w)
    {α : Type} {Arg : α → (Nat → Prop) → World → Array Value → Prop} {xs : List α} {n₀ : Nat} (hseq : Gives P gf lb Arg xs n₀ w) (hn₀ : n₀ ≤ w.heap.size)
    (hps : ∀ x O W args, Arg x O W args → args.size = ps.size)
    (I : List α → (Nat → Prop) → World → Prop) (Ix : Code → List α → World → Prop)
    (hI : ∀ pre O W O' W', I pre O W → Wb (w.heap.size + 2) O W → Mv (EE w.heap.size) O W O' W' → I pre O' W')
    (hIx : ∀ c pre W O' W', Ix c pre W → Mv (EE w.heap.size) No W O' W' → Ix c pre W')
    (h0 : I [] No w) (Ax : α → (Nat → Prop) → Act → World → Prop)
    (hAx : ∀ x O a' W o, Ax x O a' W → Wb (w.heap.size + 2) O W → Ax x O a' (W.putObj (w.heap.size + 1) o))
    (hassign : ∀ l pre x O W args (K : Act → World → Prop), I pre O W → Wb (w.heap.size + 2) O W → w.heap.size + 2 ≤ W.heap.size → Arg x O W args →
      (∀ a' W', Kr n₀ O W W' → W'.heap[w.heap.size]? = W.heap[w.heap.size]? → W'.heap[w.heap.size + 1]? = W.heap[w.heap.size + 1]? → I pre O W' → Ax x O a' W' → K a' W') →
      assign.wpIn (Fence.wide.inRound l) 3 P (Exit.then K (fun _ _ _ => False)) { tmps := (ps.zip args).foldl (fun t (p, v) => t.setIfInBounds p v) a.tmps, defers := [] } W)
    (hbody : ∀ l pre x O a' W, I pre O W → Wb (w.heap.size + 2) O W → w.heap.size + 2 ≤ W.heap.size → Ax x O a' W → (∃ q, xs = pre ++ x :: q) → body.wpIn (Fence.wide.inRound l) 3 P (rfPost n₀ w.heap.size O I Ix (pre ++ [x]) W) a' W)
    (hdone : ∀ O W, I xs O W → W.heap[w.heap.size]? = some (.deferred (some [])) → Q .normal { a with defers := { target := .collected w.heap.size, args := #[] } :: a.defers } W)
    (hstop : ∀ c pre W, (∃ q, xs = pre ++ q) → Ix c pre W → W.heap[w.heap.size]? = some (.deferred (some [])) → c.wpIn Fence.wide n P Q { a with defers := { target := .collected w.heap.size, args := #[] } :: a.defers } W) :
    (Code.rangeFunc g ps assign body).wpIn Fence.wide n P Q a w := by
  refine wpIn_rangeFunc fun fn _ => ?_
  obtain ⟨D, hD⟩ : ∃ D, w.heap.size = D := ⟨_, rfl⟩
  obtain ⟨rec, hrec⟩ : ∃ rec : LoopState → Option Code → Loop, rec = fun st pe => { state := st, pending := pe, fn := fn, tmps := a.tmps, params := ps, assign := assign, body := body, defers := D } := ⟨_, rfl⟩
  have hrp : ∀ st pe, (rec st pe).params = ps := fun _ _ => by rw [hrec]
  have hrs : ∀ st pe, (rec st pe).state = st := fun _ _ => by rw [hrec]
  have hrr : ∀ st pe st' pe', ({ rec st pe with state := st', pending := pe' } : Loop) = rec st' pe' := fun _ _ _ _ => by rw [hrec]
  have hrb : ∀ st pe st', ({ rec st pe with state := st' } : Loop) = rec st' pe := fun _ _ _ => by rw [hrec]
  obtain ⟨W1, hW1⟩ : ∃ W1, (w.alloc (.deferred (some []))).alloc (.loop (rec .ready none)) = W1 := ⟨_, rfl⟩
  have hb1 : Below w.heap.size w W1 := by rw [← hW1]; exact ((Below.refl _ w).alloc (Nat.le_refl _) _).alloc (by simp) _
  have hz1 : W1.heap.size = D + 2 := by rw [← hW1, ← hD]; simp
  have hL1 : W1.heap[D + 1]? = some (.loop (rec .ready none)) := by
    have := World.alloc_heap_new (w.alloc (.deferred (some []))) (.loop (rec .ready none))
    rwa [World.size_alloc, hD, hW1] at this
  have hK1 : W1.heap[D]? = some (.deferred (some [])) := by
    rw [← hW1, ← hD]
    exact (Below.heap_alloc _ _ _ (by simp)).trans (World.alloc_heap_new w _)
  have hent : (Instr.enterLoop fn a.tmps ps assign body Fence.wide.round).run P w = .ok (D + 1, [{ target := .collected D, args := #[] }]) W1 := by
    rw [← hW1, hrec, ← hD]
    exact run_enterLoop_outer fn a.tmps ps assign body
  rw [hD] at hI hIx hAx hassign hbody hdone hstop
  refine ⟨D + 1, _, W1, { target := .fn (.func gf) lb, args := #[.func (.yield (D + 1)) #[] #[]] }, W1, gf, #[.func (.yield (D + 1)) #[] #[]] ++ lb, W1, hent, ?_, fun _ _ => trivial, ?_, (fun h => by cases h), callsIn_wide.2 ?_⟩
  · simp only [resolve, hg]
    simp [go_sem]
  · simp [invoke, go_sem, eg]
  -- the iterator, at the caller's word and the two blocks of the loop
  refine (hseq (D + 1) (D + 2) (fun pre O W => I pre O W ∧ W.heap[D + 1]? = some (.loop (rec .ready none)) ∧ W.heap[D]? = some (.deferred (some [])))
    (fun pre W => ∃ c, Ix c pre W ∧ W.heap[D + 1]? = some (.loop (rec .done (some c))) ∧ W.heap[D]? = some (.deferred (some []))) W1 hb1 hz1.symm ?_ ?_ ?_ ?_).mono ?_
  · rintro pre O A O' B ⟨hi, hl, hk⟩ hbs hm
    have e1 := hm.kept (D + 1) (Array.getElem?_eq_some_iff.1 hl).1 (fun h => by have := (hbs _ h).1; omega) (fun h => h)
    have e2 := hm.kept D (Array.getElem?_eq_some_iff.1 hk).1 (fun h => by have := (hbs _ h).1; omega) (fun h => h)
    exact ⟨hI _ _ _ _ _ hi hbs (hm.weak fun _ h => h.elim), e1.trans hl, e2.trans hk⟩
  · rintro pre A O' B ⟨c, hc, hl, hk⟩ hm
    have e1 := hm.kept (D + 1) (Array.getElem?_eq_some_iff.1 hl).1 (fun h => h) (fun h => h)
    have e2 := hm.kept D (Array.getElem?_eq_some_iff.1 hk).1 (fun h => h) (fun h => h)
    exact ⟨c, hIx _ _ _ _ _ hc (hm.weak fun _ h => h.elim), e1.trans hl, e2.trans hk⟩
  · rintro m pre x O W args ⟨hi, hl, hk⟩ hbs harg hx
    have hlt := (Array.getElem?_eq_some_iff.1 hl).1
    have hy := run_yield (P := P) (args := args) hl (by rw [hrp]; exact hps _ _ _ _ harg)
    refine ⟨_, _, _, _, hy, RoundIn.any (m := 3) (roundIn_of_wpIn trivial ?_)⟩
    rw [show (rec .ready none).tmps = a.tmps by rw [hrec], show (rec .ready none).params = ps by rw [hrec], show (rec .ready none).assign = assign by rw [hrec], show (rec .ready none).body = body by rw [hrec]]
    refine hassign (D + 1) pre x O W args _ hi hbs (by omega) harg fun a' W' hk' hd' hl' hi' hax => ?_
    rw [hl] at hl'
    rw [hk] at hd'
    refine ⟨_, run_beginRound hl' (hrs _ _), ?_⟩
    rw [hrb]
    obtain ⟨V, hV⟩ : ∃ V, W'.putObj (D + 1) (.loop (rec .busy none)) = V := ⟨_, rfl⟩
    have hlt' := (Array.getElem?_eq_some_iff.1 hl').1
    have hVl : V.heap[D + 1]? = some (.loop (rec .busy none)) := by rw [← hV]; exact World.putObj_heap_same hlt'
    have hVk : V.heap[D]? = some (.deferred (some [])) := by rw [← hV]; exact (World.putObj_heap_other (by omega)).trans hd'
    have hbs' : Wb (D + 2) O W' := hbs.keep hk'.b.size
    have hmv : ∀ (X : World) (o : Obj), Mv (EE D) O X O (X.putObj (D + 1) o) := fun X o => Mv.put X o (.inr rfl)
    have hkr : ∀ (X : World) (o : Obj), Wb (D + 2) O X → n₀ ≤ X.heap.size → Kr n₀ O X (X.putObj (D + 1) o) := fun X o hX hn =>
      ⟨(Below.refl n₀ X).grown (grownBy_putObj' X (D + 1) o) hn (fun k e => by cases e; omega), fun b hb => World.putObj_heap_other (by have := (hX b hb).1; omega)⟩
    have hVi : I pre O V := by rw [← hV]; exact hI _ _ _ _ _ hi' hbs' (hmv _ _)
    have hVa : Ax x O a' V := by rw [← hV]; exact hAx _ _ _ _ _ hax hbs'
    have hVb : Wb (D + 2) O V := by rw [← hV]; exact hbs'.keep (by simp)
    have hWV : Kr n₀ O W V := by rw [← hV]; exact hk'.trans (hkr _ _ hbs' (by omega))
    rw [hV]
    refine wpIn_mono (hbody (D + 1) pre x O a' V hVi hVb (by rw [← hV]; simp; omega) hVa hx) ?_
    have fin : ∀ (jump : Option Code) (X : World), X.heap[D]? = V.heap[D]? → X.heap[D + 1]? = V.heap[D + 1]? →
        (Instr.endRound (D + 1) jump).run P X = .ok (.bool jump.isNone) (X.putObj (D + 1) (.loop (rec (if jump.isNone then .ready else .done) jump))) ∧
        (X.putObj (D + 1) (.loop (rec (if jump.isNone then .ready else .done) jump))).heap[D + 1]? = some (.loop (rec (if jump.isNone then .ready else .done) jump)) ∧
        (X.putObj (D + 1) (.loop (rec (if jump.isNone then .ready else .done) jump))).heap[D]? = some (.deferred (some [])) := fun jump X e1 e2 => by
      have hl3 := e2.trans hVl
      have h := run_endRound (P := P) jump hl3
      rw [hrr] at h
      exact ⟨h, World.putObj_heap_same (Array.getElem?_eq_some_iff.1 hl3).1, (World.putObj_heap_other (by omega)).trans (e1.trans hVk)⟩
    rintro e a3 X hp
    cases e with
    | normal =>
      obtain ⟨⟨k3, d3, l3⟩, i3⟩ := hp
      obtain ⟨r, hl4, hk4⟩ := fin none X d3 l3
      have hXb : Wb (D + 2) O X := hVb.keep k3.b.size
      exact ⟨_, _, r, .inl ⟨rfl, ⟨hI _ _ _ _ _ i3 hXb (hmv _ _), hl4, hk4⟩, (hWV.trans k3).trans (hkr _ _ hXb (by have := (Array.getElem?_eq_some_iff.1 (l3.trans hVl)).1; omega))⟩⟩
    | ret =>
      obtain ⟨⟨d3, l3⟩, i3⟩ := hp
      obtain ⟨r, hl4, hk4⟩ := fin (some .ret) X d3 l3
      exact ⟨_, _, r, .inr ⟨rfl, .ret, hIx _ _ _ _ _ i3 (Mv.put _ _ (.inr rfl)), hl4, hk4⟩⟩
    | exit id =>
      obtain ⟨⟨d3, l3⟩, i3⟩ := hp
      obtain ⟨r, hl4, hk4⟩ := fin (some (.exit id)) X d3 l3
      exact ⟨_, _, r, .inr ⟨rfl, .exit id, hIx _ _ _ _ _ i3 (Mv.put _ _ (.inr rfl)), hl4, hk4⟩⟩
    | goto t => exact hp.elim
    | panic ch => exact hp.elim
    | outgrown => exact hp.elim
  · exact ⟨hI _ _ _ _ _ h0 (Wb.no _ _) ⟨hb1.os, hb1.tape, hb1.output, hb1.size, fun _ h => h, fun _ h => .inl h, fun b hb _ _ => hb1.block b hb⟩, hL1, hK1⟩
  · rintro e W2 ⟨⟨v, rfl⟩, (⟨O, ⟨hi, hl, hk⟩, hbO⟩ | ⟨pre, hq, c, hi, hl, hk⟩)⟩
    · have h := run_endLoop (P := P) hl (by rw [hrs]; simp)
      rw [show (rec .ready none).pending = none by rw [hrec]] at h
      refine ⟨none, _, h, hdone O _ (hI _ _ _ _ _ hi hbO (Mv.put _ _ (.inr rfl))) ((World.putObj_heap_other (by omega)).trans hk)⟩
    · have h := run_endLoop (P := P) hl (by rw [hrs]; simp)
      rw [show (rec .done (some c)).pending = some c by rw [hrec]] at h
      exact ⟨some c, _, h, hstop c pre _ hq (hIx _ _ _ _ _ hi (Mv.put _ _ (.inr rfl))) ((World.putObj_heap_other (by omega)).trans hk)⟩
end Go.Proofs.Ytfchondipjiicaa.nn
