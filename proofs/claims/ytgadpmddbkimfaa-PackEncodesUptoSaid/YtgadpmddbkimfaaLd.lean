/- Joined texts, what is wanted of them: PkP, PackListsW, RkA, RkB, RkC, RkD, RkE, RkF, RkG, PackEncodesW, OpenS, OpenT. -/
import Derived.Below
import Derived.Laws.OwnMore
import Derived.Deep.AppendLies
import Derived.Deep.Draws
import Derived.Maps.AppendAt
import Derived.RegionTactic
import Derived.OwnWalk
import Derived.Deep.RegionLaw
import Derived.WalkKit
import Derived.Test.YtgadpmddbkimfaaProg
import Derived.Laws.BytesArg
import Derived.Lib.UnsafeStr
import Derived.Lib.AppendStr
import Derived.Lib.Hide
import Derived.Lib.MinMax
import Derived.Deep.QuietTactic
import Derived.BigQuiet
import Derived.IntWalk
import Derived.Laws.Rows
import Derived.WalkSpells
import Derived.Deep.RegionHeld3
import Derived.Laws.BitsAllLaws
import Derived.Test.YtgadpmddbkimfaaShelf
import Derived.Deep.RegionWith
import Derived.Lib.BitFns
import Derived.Deep.CutBlock
import Derived.Deep.DeepCutAuto
import Derived.KernelRfl
import Derived.Deep.WholeRow
import Derived.Great.Walk
import Derived.StillTailTactics
import Derived.Lib.Builder
import Derived.Shelf.RegionOpen
import Derived.Laws.AppendOwn
import Derived.RangeFuncNested
import Derived.RangeFuncBound
import Derived.RangeFuncCalls
import Derived.RangeFuncLeaves
import Derived.Shelf.Abstract
import Derived.OwnWalkIn
import Derived.TacticsInMore
import Derived.RowKit
import Derived.Test.YtgadpmddbkimfaaRows
import Derived.ProofKit
import Derived.SizedLaws
import Derived.ChangeMaps5
import Derived.Deep.Slices
import Derived.Deep.Fields
import Derived.Test.YtgadpmddbkimfaaLc
namespace Go.Proofs.Ytgadpmddbkimfaa.nn
open Go.RowKit

theorem pchk_parts {t : VT} (h : chk t = 0) : dep t ≤ 64 ∧ cnt t ≤ 65536 ∧ rgt t = true := by
  unfold chk at h
  by_cases h1 : 64 < dep t ∨ 65536 < cnt t
  · rw [if_pos h1] at h; cases h
  · rw [if_neg h1] at h
    cases hr : rgt t with
    | true => exact ⟨by omega, by omega, rfl⟩
    | false => rw [hr] at h; cases h
/-- what Encode answers -/
def EpAns (t : VT) (w : World) (e : Ending) (w' : World) : Prop :=
  ∃ A c, e = .returned (.tuple #[.slice A (epL t).length c, .int .i64 (epE t : Int)]) ∧ (epL t).length ≤ c ∧ c ≤ maxLen ∧ Rd w' .u8 A (epL t).length (gL (epL t)) ∧ Below w.heap.size w w'
set_option maxRecDepth 100000 in
set_option maxHeartbeats 4000000 in
theorem pencode_any (t : VT) (C : Value) (w : World) (hN : cnt t ≤ 1099511627776) (hS : smx t ≤ maxLen) (hC : Lst w C t.l) (hwf : wfT t) (hle : (pkB t).length + 60 ≤ 140737488355328) :
    Calls Try.prog 6 #[vv t C] w (EpAns t w) := by
  obtain ⟨Ac, mc, cc, rfl⟩ : ∃ A m c, C = .slice A m c := by obtain ⟨a, b, e, _⟩ := hC.out; exact ⟨a, _, b, e⟩
  have HX := Box.new w t (.slice Ac mc cc) 25
  have HX0 := Lib.hid HX
  have HCK : Hid (∀ W, Box w t (.slice Ac mc cc) W → Calls Try.prog 14 #[vv t (.slice Ac mc cc)] W fun e w' => e = .returned (.int .i64 (chk t : Int)) ∧ Box w t (.slice Ac mc cc) w') := Lib.hid fun W hW => (vcheck_any t _ W hN hS (hC.keep hW.b (Nat.le_refl _)) hwf).mono fun e w' ⟨h1, h2⟩ => ⟨h1, hW.on h2⟩
  have HIT : Hid (chk t = 0 → ∀ W, Box w t (.slice Ac mc cc) W → Calls Try.prog 15 #[.pointer (some ⟨W.heap.size, 0, none⟩), vv t (.slice Ac mc cc)] (W.alloc (.cells #[.slice none 0 0] 45)) (ItP w.heap.size W.heap.size (pkB t) (say t) (W.alloc (.cells #[.slice none 0 0] 45)))) := Lib.hid fun hc W hW => by
    obtain ⟨_, _, hr⟩ := pchk_parts hc
    have hsz : w.heap.size ≤ W.heap.size := Nat.le_of_lt hW.z
    have := itp_any w W.heap.size (cnt t) t (Nat.le_refl _) hN hr hwf (.slice Ac mc cc) [] (W.alloc (.cells #[.slice none 0 0] 45)) hC (hW.b.alloc hsz _) ⟨.slice none 0 0, hsz, heap_alloc_last _ _, World.ownsRow_nil _ _ _ _⟩ (by simp; omega)
    rw [List.nil_append] at this
    exact this
  have HBC : Hid (∀ W, Box w t (.slice Ac mc cc) W → W.cell? ⟨w.heap.size, 0, none⟩ = some (.int .i64 t.k) ∧ W.cell? ⟨w.heap.size, 1, none⟩ = some (.bool t.g) ∧ W.cell? ⟨w.heap.size, 2, none⟩ = some (.int .u64 (t.n : Int)) ∧ W.cell? ⟨w.heap.size, 3, none⟩ = some (.string t.s) ∧ W.cell? ⟨w.heap.size, 4, none⟩ = some (.slice Ac mc cc)) := Lib.hid fun W hW => ⟨hW.r.k, hW.r.g, hW.r.n, hW.r.s, hW.r.l⟩
  have HEN : Hid (epL t = (if chk t = 0 ∧ say t = true then pkB t else []) ∧ epE t = (if chk t = 0 then (if say t then 0 else 10) else chk t)) := Lib.hid ⟨rfl, rfl⟩
  unfold EpAns
  obtain ⟨L, hL⟩ : ∃ L, epL t = L := ⟨_, rfl⟩
  obtain ⟨E, hE⟩ : ∃ E, epE t = E := ⟨_, rfl⟩
  obtain ⟨X, hX⟩ : ∃ X, say t = X := ⟨_, rfl⟩
  obtain ⟨I, hI⟩ : ∃ I, pkB t = I := ⟨_, rfl⟩
  obtain ⟨ck, hck⟩ : ∃ ck, chk t = ck := ⟨_, rfl⟩
  rw [hL, hE, hX, hI, hck] at HEN
  rw [hX, hI, hck] at HIT
  rw [hck] at HCK
  rw [hL, hE]
  have HBB : Hid (∀ W, Box w t (.slice Ac mc cc) W → Below w.heap.size w W ∧ w.heap.size ≤ W.heap.size) := Lib.hid fun W hW => ⟨hW.b, Nat.le_of_lt hW.z⟩
  unfold vv at HCK HIT ⊢
  clear hL hE hX hI hck hN hS hC hwf hle HX
  obtain ⟨c0, c1, c2, c3, c4⟩ := HBC.out _ HX0.out
  go_enter Try.func6, Try.ntmps6
  go_wp2_with fail
  refine (HCK.out _ HX0.out).mono ?_
  rintro e w3 ⟨rfl, hb3⟩
  have HB3 := Lib.hid hb3
  clear hb3 c0 c1 c2 c3 c4 HX0
  obtain ⟨c0, c1, c2, c3, c4⟩ := HBC.out _ HB3.out
  by_cases hc : ck = 0
  · subst hc
    obtain ⟨c0', c1', c2', c3', c4'⟩ := HBC.out _ (HB3.out.on ((Below.refl _ _).alloc (Nat.le_refl _) (.cells #[.slice none 0 0] 45)))
    have HI2 := Lib.hid (HIT.out rfl _ HB3.out)
    have HB4 := Lib.hid (HBB.out _ HB3.out)
    clear HCK HIT HBC HBB
    go_wp2_with fail
    refine HI2.out.mono ?_
    rintro e w5 ⟨⟨h2a, h2b⟩, ⟨hx, rfl, h2c⟩ | ⟨hx, rfl⟩⟩
    · obtain ⟨v, hv⟩ := h2c
      have d0 := hv.c0
      obtain ⟨A, c, rfl, h8, h9, h10⟩ := rd_list rfl hv.2.2
      have HG := Lib.hid (And.intro h8 (And.intro h9 h10))
      have HB5 : Hid (Below w.heap.size w w5) := Lib.hid ((HB4.out.1.alloc HB4.out.2 _).trans h2a)
      have HL : Hid (L = I ∧ E = 0) := Lib.hid (by have h7 := HEN.out; simp [hx] at h7; exact h7)
      clear h2a h2b hv h8 h9 h10 hx HI2 HEN c0 c1 c2 c3 c4 c0' c1' c2' c3' c4'
      go_wp2_with fail
      refine bodyPost_ret (v := .tuple #[.slice A I.length c, .int .i64 0]) (by simp [results, Try.results6, go_sem]) rfl ⟨A, c, ?_, ?_, HG.out.2.1, ?_, HB5.out⟩
      · rw [HL.out.1, HL.out.2]; rfl
      · rw [HL.out.1]; exact HG.out.1
      · rw [HL.out.1]; exact HG.out.2.2
    · have HB5 : Hid (Below w.heap.size w w5) := Lib.hid ((HB4.out.1.alloc HB4.out.2 _).trans h2a)
      have HL : Hid (L = [] ∧ E = 10) := Lib.hid (by have h7 := HEN.out; simp [hx] at h7; exact h7)
      clear h2a h2b hx HI2 HEN c0 c1 c2 c3 c4 c0' c1' c2' c3' c4'
      go_wp2_with fail
      refine bodyPost_ret (v := .tuple #[.slice none 0 0, .int .i64 10]) (by simp [results, Try.results6, go_sem]) rfl ⟨none, 0, ?_, ?_, ?_, ?_, HB5.out⟩
      · rw [HL.out.1, HL.out.2]; rfl
      · rw [HL.out.1]; exact Nat.le_refl _
      · unfold maxLen; omega
      · rw [HL.out.1]; exact Rd.none_
  · have hne : ((ck : Int) != 0) = true := by simp; omega
    have HQ := Lib.hid (HBB.out _ HB3.out).1
    have HL : Hid (L = [] ∧ E = ck) := Lib.hid ⟨by rw [HEN.out.1, if_neg (by omega)], by rw [HEN.out.2, if_neg hc]⟩
    clear HCK HIT HBC HBB c0 c1 c2 c3 c4 hc HEN
    go_wp2_with fail
    refine bodyPost_ret (v := .tuple #[.slice none 0 0, .int .i64 (ck : Int)]) (by simp [results, Try.results6, go_sem]) rfl ⟨none, 0, ?_, ?_, ?_, ?_, HQ.out⟩
    · rw [HL.out.1, HL.out.2]; rfl
    · rw [HL.out.1]; exact Nat.le_refl _
    · unfold maxLen; omega
    · rw [HL.out.1]; exact Rd.none_
/-- Encode of no value -/
theorem epN : epL (.mk 0 false 0 ⟨#[]⟩ []) = [192] ∧ epE (.mk 0 false 0 ⟨#[]⟩ []) = 0 := by decide +kernel
set_option maxRecDepth 100000 in
set_option maxHeartbeats 1000000 in
theorem awake13 (w : World) : Calls Try.prog 8 #[] w fun e w' => e = .returned (.bool true) ∧ Below w.heap.size w w' := by
  have hC := pencode_any (.mk 0 false 0 ⟨#[]⟩ []) (.slice none 0 0) w (by decide) (by decide) .nil_ ⟨by decide, by decide, by decide, trivial⟩ (by decide +kernel)
  unfold EpAns at hC
  rw [epN.1, epN.2] at hC
  have HC : Hid (Calls Try.prog 6 #[.agg #[.int .i64 0, .bool false, .int .u64 0, .string ⟨#[]⟩, .slice none 0 0]] w fun e w' => ∃ (b off : Nat) (c : Nat), e = .returned (.tuple #[.slice (some ⟨b, off, none⟩) 1 c, .int .i64 0]) ∧ w'.cell? ⟨b, off, none⟩ = some (.int .u8 192) ∧ Below w.heap.size w w') := Lib.hid (hC.mono fun e w' ⟨A, c, he, _, _, hr, hb⟩ => by
    obtain ⟨b, off, rfl, _, hc⟩ := hr (by decide)
    exact ⟨b, off, c, he, hc 0 (by decide), hb⟩)
  clear hC
  go_enter Try.func8, Try.ntmps8
  go_wp2_with fail
  refine HC.out.mono ?_
  rintro e w' ⟨b, off, c, rfl, q0, hb⟩
  have HB := Lib.hid hb
  clear hb
  go_wp2_with fail
  go_ret
  exact ⟨rfl, HB.out⟩
end Go.Proofs.Ytgadpmddbkimfaa.nn
namespace Go.Proofs.Ytgadpmddbkimfaa.nn
open Go.RowKit

/-- what Encode answers, with its bytes as a text -/
theorem pencode_txt (t : VT) (C : Value) (w : World) (hb : blk t ≤ 4000000) (hC : Lst w C t.l) (hwf : wfT t) :
    Calls Try.prog 6 #[vv t C] w fun e w' => ∃ A c, e = .returned (.tuple #[.slice A (epL t).length c, .int .i64 (epE t : Int)]) ∧ (∀ W, Below w'.heap.size w' W → (convert 26 9 (.slice A (epL t).length c)).run Try.prog W = .ok (.string ⟨(epL t).toArray⟩) W) ∧ Below w.heap.size w w' := by
  have h1 := cnt_blk t
  have h2 := smx_blk t
  have h3 := pkB_le t
  refine (pencode_any t C w (by omega) (by unfold maxLen; omega) hC hwf (by omega)).mono fun e w' ⟨A, c, he, _, _, hr, hb⟩ => ⟨A, c, he, fun W hW => ?_, hb⟩
  have := conv_row A (epL t).length c (gL (epL t)) W (hr.below hW)
  rw [pc_list] at this
  exact this
end Go.Proofs.Ytgadpmddbkimfaa.nn
namespace Go.Proofs.Ytgadpmddbkimfaa.nn
open Go.RowKit

theorem pown_low {w : World} {B B' n size : Nat} {e : TypeId} {v : Value} {xs : List Value} (h : w.ownsRow B' e size v n xs) (hB : B ≤ B') : w.ownsRow B e size v n xs :=
  ⟨h.1, h.2.imp id fun ⟨g, cap, cur, hv, hb, hr⟩ => ⟨g, cap, cur, hv, Nat.le_trans hB hb, hr⟩⟩
/-- an answer that is the call's own bytes -/
def RpAns (L : List UInt8) (w : World) (e : Ending) (w' : World) : Prop := ∃ v, e = .returned v ∧ w'.ownsRow w.heap.size 5 1 v L.length (Lib.byteCells L) ∧ Below w.heap.size w w'
theorem RpAns.lit1 (w : World) {d : Nat} (h : d < 256) : RpAns [UInt8.ofNat d] w (.returned (.slice (some ⟨w.heap.size, 0, none⟩) 1 1)) (w.alloc (.cells #[.int .u8 (d : Int)] 5)) := by
  refine ⟨_, rfl, ?_, (Below.refl _ _).alloc (Nat.le_refl _) _⟩
  have h1 := World.ownsRow_lit (base := w.heap.size) (e := 5) (size := 1) w #[.int .u8 (d : Int)] 1 (Nat.le_refl _) (by simp [maxLen]) rfl
  have e : Lib.byteCells [UInt8.ofNat d] = [.int .u8 (d : Int)] := by
    unfold Lib.byteCells
    simp only [List.map_cons, List.map_nil]
    rw [pu8_of h]
  rw [e]
  exact h1
set_option maxRecDepth 100000 in
set_option maxHeartbeats 8000000 in
theorem rbig13_any (f n q : Nat) (w : World) (hf : f < 256) (_ : n < 18446744073709551616) (hq0 : 0 < q) (hq : q ≤ 8) :
    Calls Try.prog 22 #[.int .i64 (f : Int), .int .u64 (n : Int), .int .i64 (q : Int)] w (RpAns (UInt8.ofNat f :: lwP n q) w) := by
  obtain ⟨i0, hi, hz0, hz1, hz2⟩ := info_parts infoP8
  have hL1 := RpAns.lit1 w hf
  have uf : IntKind.u8.wrap (f : Int) = (f : Int) := by rw [IntKind.wrap_u8]; omega
  obtain ⟨b0, hb0⟩ : ∃ x : UInt8, UInt8.ofNat f = x := ⟨_, rfl⟩
  rw [hb0] at hL1 ⊢
  have HL : Hid ((w.alloc (.cells #[.int .u8 (f : Int)] 5)).ownsRow w.heap.size 5 1 (.slice (some ⟨w.heap.size, 0, none⟩) 1 1) 1 (Lib.byteCells [b0]) ∧ Below w.heap.size w (w.alloc (.cells #[.int .u8 (f : Int)] 5))) := Lib.hid (by
    obtain ⟨v, e, h1, h2⟩ := hL1
    injection e with e
    subst e
    exact ⟨h1, h2⟩)
  have HT : Hid (lwP n q = lsF (fun i => n / 256 ^ (q - 1 - i) % 256) q) := Lib.hid rfl
  clear hL1 hb0 hf
  go_enter Try.func22, Try.ntmps22
  go_wp2_with fail
  go_loopw [7, 8] (fun s7 s8 wr => ∃ (j : Nat) (A : Option Addr) (c : Nat), j ≤ q ∧ s7 = .slice A (j + 1) c ∧ s8 = .int .i64 ((q : Int) - 1 - (j : Int)) ∧ Hid (wr.ownsRow w.heap.size 5 1 (.slice A (j + 1) c) (j + 1) (Lib.byteCells (b0 :: lsF (fun i => n / 256 ^ (q - 1 - i) % 256) j)) ∧ Below w.heap.size w wr)) (fun _ s8 _ => ((intOf s8) + 1).toNat)
  case atStart => exact ⟨0, _, 1, Nat.zero_le _, rfl, congrArg (Value.int .i64) (by omega), Lib.hid ⟨HL.out.1, HL.out.2⟩⟩
  case round =>
    obtain ⟨j, A, c, hj, rfl, rfl, hO⟩ := hrel
    by_cases hlt : j < q
    · obtain ⟨i, hii⟩ : ∃ i : Nat, (q : Int) - 1 - (j : Int) = (i : Int) := ⟨q - 1 - j, by omega⟩
      rw [hii]
      have h8 : i = 0 ∨ i = 1 ∨ i = 2 ∨ i = 3 ∨ i = 4 ∨ i = 5 ∨ i = 6 ∨ i = 7 := by omega
      obtain ⟨d, hd⟩ : ∃ d, n / 256 ^ i % 256 = d := ⟨_, rfl⟩
      have hd256 : d < 256 := by rw [← hd]; exact Nat.mod_lt _ (by decide)
      have HDJ : Hid (b0 :: lsF (fun i => n / 256 ^ (q - 1 - i) % 256) (j + 1) = (b0 :: lsF (fun i => n / 256 ^ (q - 1 - i) % 256) j) ++ [UInt8.ofNat d]) := Lib.hid (by rw [lsF_succ6, show q - 1 - j = i by omega, hd]; rfl)
      have U1 : Hid (∀ N : Nat, N = 256 ^ i → IntKind.u8.wrap ((n : Int) / (N : Int)) = (d : Int)) := Lib.hid (fun N hN => by
        rw [IntKind.wrap_u8, ← hd, hN]
        simp)
      obtain ⟨P, hP⟩ : ∃ P, b0 :: lsF (fun i => n / 256 ^ (q - 1 - i) % 256) j = P := ⟨_, rfl⟩
      have hPl : j + 1 = P.length := by rw [← hP, List.length_cons, lsF_len]
      rw [hP] at hO HDJ
      have HR : Hid (∀ W : World, Rd (W.alloc (.cells #[.int .u8 (d : Int)] 5)) .u8 (some ⟨W.heap.size, 0, none⟩) 1 (gL [UInt8.ofNat d])) := Lib.hid fun W => prd_b1 W hd256 _
      have HA := Lib.hid (own_below hO.out.1 ((Below.refl _ _).alloc (Nat.le_refl _) (.cells #[.int .u8 (d : Int)] 5)))
      have HB2 := Lib.hid (hO.out.2.alloc hO.out.2.size (.cells #[.int .u8 (d : Int)] 5))
      have hsz : w.heap.size ≤ (wr.alloc (.cells #[.int .u8 (d : Int)] 5)).heap.size := HB2.out.size
      have hln : j + 1 + 1 ≤ 140737488355328 := by omega
      clear hd hP
      have k0 : IntKind.i64.wrap 0 = 0 := by decide
      have k1 : IntKind.i64.wrap 8 = 8 := by decide
      have k2 : IntKind.i64.wrap 16 = 16 := by decide
      have k3 : IntKind.i64.wrap 24 = 24 := by decide
      have k4 : IntKind.i64.wrap 32 = 32 := by decide
      have k5 : IntKind.i64.wrap 40 = 40 := by decide
      have k6 : IntKind.i64.wrap 48 = 48 := by decide
      have k7 : IntKind.i64.wrap 56 = 56 := by decide
      rcases h8 with rfl | rfl | rfl | rfl | rfl | rfl | rfl | rfl
      all_goals
        first
          | (have u2 : IntKind.u8.wrap (n : Int) = (d : Int) := by have := U1.out 1 (by decide); rw [show ((1 : Nat) : Int) = 1 from rfl, Int.ediv_one] at this; exact this)
          | (have u2 : IntKind.u8.wrap ((n : Int) / 256) = (d : Int) := U1.out 256 (by decide))
          | (have u2 : IntKind.u8.wrap ((n : Int) / 65536) = (d : Int) := U1.out 65536 (by decide))
          | (have u2 : IntKind.u8.wrap ((n : Int) / 16777216) = (d : Int) := U1.out 16777216 (by decide))
          | (have u2 : IntKind.u8.wrap ((n : Int) / 4294967296) = (d : Int) := U1.out 4294967296 (by decide))
          | (have u2 : IntKind.u8.wrap ((n : Int) / 1099511627776) = (d : Int) := U1.out 1099511627776 (by decide))
          | (have u2 : IntKind.u8.wrap ((n : Int) / 281474976710656) = (d : Int) := U1.out 281474976710656 (by decide))
          | (have u2 : IntKind.u8.wrap ((n : Int) / 72057594037927936) = (d : Int) := U1.out 72057594037927936 (by decide))
        clear U1
        go_wp2_with (at_builtin; refine wpList_appB rfl _ _ _ rfl w.heap.size 5 i0 _ Try.underlying26 hi hz0 hz1 hz2 rfl _ (j + 1) P hPl rfl HA.out _ 1 1 [UInt8.ofNat d] rfl rfl (HR.out _) hln hsz ?_; intro v1 w1 hown1 hb1)
        obtain ⟨A1, c1, rfl, -, -, -⟩ := rd_list (by rw [List.length_append, ← hPl]; rfl) hown1
        have HN := Lib.hid (And.intro hown1 (HB2.out.trans hb1))
        clear hown1 hb1
        go_wp2_with fail
        go_roundw
        case rel => exact ⟨j + 1, A1, c1, by omega, rfl, congrArg (Value.int .i64) (by omega), Lib.hid ⟨by rw [HDJ.out]; exact HN.out.1, HN.out.2⟩⟩
        case measure => simp [intOf]
    · obtain rfl : j = q := by omega
      have hneg : ((j : Int) - 1 - (j : Int)) = -1 := by omega
      rw [hneg]
      clear hneg
      go_wp2_with fail
      exact bodyPost_ret (v := .slice A (j + 1) c) (by simp [results, Try.results22, go_sem]) rfl ⟨_, rfl, by rw [HT.out, List.length_cons, lsF_len]; exact hO.out.1, hO.out.2⟩
end Go.Proofs.Ytgadpmddbkimfaa.nn
namespace Go.Proofs.Ytgadpmddbkimfaa.nn
open Go.RowKit

theorem lwP_one (m : Nat) : lwP m 1 = [UInt8.ofNat (m % 256)] := by
  unfold lwP lsF
  simp
theorem lsK1_cases (n : Nat) : (n < 256 ∧ lsK n 1 = 0) ∨ (256 ≤ n ∧ n < 65536 ∧ lsK n 1 = 1) ∨ (65536 ≤ n ∧ n < 4294967296 ∧ lsK n 1 = 2) ∨ (4294967296 ≤ n ∧ lsK n 1 = 3) := by
  unfold lsK
  simp only [Nat.reducePow, Nat.reduceMul]
  by_cases h1 : n < 256
  · exact .inl ⟨h1, if_pos h1⟩
  · by_cases h2 : n < 65536
    · exact .inr (.inl ⟨by omega, h2, by rw [if_neg h1, if_pos h2]⟩)
    · by_cases h3 : n < 4294967296
      · exact .inr (.inr (.inl ⟨by omega, h3, by rw [if_neg h1, if_neg h2, if_pos h3]⟩))
      · exact .inr (.inr (.inr ⟨by omega, by rw [if_neg h1, if_neg h2, if_neg h3]⟩))
theorem lsK2_cases {n : Nat} (hn : n < 4294967296) : (n < 65536 ∧ lsK n 2 = 0) ∨ (65536 ≤ n ∧ lsK n 2 = 1) := by
  unfold lsK
  simp only [Nat.reducePow, Nat.reduceMul]
  by_cases h1 : n < 65536
  · exact .inl ⟨h1, if_pos h1⟩
  · exact .inr ⟨by omega, by rw [if_neg h1, if_pos hn]⟩
theorem phP_at {first w n k : Nat} (h : lsK n w = k) : phP first w n = UInt8.ofNat (first + k) :: lwP n (w * 2 ^ k) := by unfold phP; rw [h]
set_option maxRecDepth 100000 in
set_option maxHeartbeats 8000000 in
theorem rwhole13_no (n : Nat) (w : World) (hn : n < 18446744073709551616) :
    Calls Try.prog 35 #[.bool false, .int .u64 (n : Int)] w (RpAns (pnP false n) w) := by
  by_cases h128 : n < 128
  · have HL : Hid (RpAns (pnP false n) w (.returned (.slice (some ⟨w.heap.size, 0, none⟩) 1 1)) (w.alloc (.cells #[.int .u8 (n : Int)] 5))) := Lib.hid (by
      have e : pnP false n = [UInt8.ofNat n] := by unfold pnP; rw [if_neg (by decide), if_pos h128]
      rw [e]
      exact RpAns.lit1 w (by omega))
    have i1 : decide (n < 128) = true := decide_eq_true h128
    have i2 : decide ((n : Int) < 128) = true := decide_eq_true (by omega)
    have u1 : IntKind.u8.wrap (n : Int) = (n : Int) := by rw [IntKind.wrap_u8]; omega
    clear hn h128
    go_enter Try.func35, Try.ntmps35
    go_wp2_with fail
    exact bodyPost_ret (v := .slice (some ⟨w.heap.size, 0, none⟩) 1 1) (by simp [results, Try.results35, go_sem]) rfl HL.out
  · have e : pnP false n = phP 204 1 n := by unfold pnP; rw [if_neg (by decide), if_neg h128]
    rw [e]
    have i1 : decide (n < 128) = false := decide_eq_false h128
    have i2 : decide ((n : Int) < 128) = false := decide_eq_false (by omega)
    rcases lsK1_cases n with ⟨h1, hk⟩ | ⟨h1, h2, hk⟩ | ⟨h1, h2, hk⟩ | ⟨h1, hk⟩
    · rw [phP_at hk]
      have H := Lib.hid (rbig13_any 204 n 1 w (by decide) hn (by decide) (by decide))
      have x0 : decide (n < 256) = true := decide_eq_true (by omega)
      have y0 : decide ((n : Int) < 256) = true := decide_eq_true (by omega)
      have x1 : decide (n < 65536) = true := decide_eq_true (by omega)
      have y1 : decide ((n : Int) < 65536) = true := decide_eq_true (by omega)
      have x2 : decide (n < 4294967296) = true := decide_eq_true (by omega)
      have y2 : decide ((n : Int) < 4294967296) = true := decide_eq_true (by omega)
      clear hn h128 h1 hk e
      go_enter Try.func35, Try.ntmps35
      go_wp2_with fail
      refine H.out.mono ?_
      rintro e w1 ⟨v, rfl, ho, hb⟩
      have HO := Lib.hid (And.intro ho hb)
      clear ho hb H
      go_wp2_with fail
      exact bodyPost_ret (v := v) (by simp [results, Try.results35, go_sem]) rfl ⟨v, rfl, HO.out⟩
    · rw [phP_at hk]
      have H := Lib.hid (rbig13_any 205 n 2 w (by decide) hn (by decide) (by decide))
      have x0 : decide (n < 256) = false := decide_eq_false (by omega)
      have y0 : decide ((n : Int) < 256) = false := decide_eq_false (by omega)
      have x1 : decide (n < 65536) = true := decide_eq_true (by omega)
      have y1 : decide ((n : Int) < 65536) = true := decide_eq_true (by omega)
      have x2 : decide (n < 4294967296) = true := decide_eq_true (by omega)
      have y2 : decide ((n : Int) < 4294967296) = true := decide_eq_true (by omega)
      clear hn h128 h1 h2 hk e
      go_enter Try.func35, Try.ntmps35
      go_wp2_with fail
      refine H.out.mono ?_
      rintro e w1 ⟨v, rfl, ho, hb⟩
      have HO := Lib.hid (And.intro ho hb)
      clear ho hb H
      go_wp2_with fail
      exact bodyPost_ret (v := v) (by simp [results, Try.results35, go_sem]) rfl ⟨v, rfl, HO.out⟩
    · rw [phP_at hk]
      have H := Lib.hid (rbig13_any 206 n 4 w (by decide) hn (by decide) (by decide))
      have x0 : decide (n < 256) = false := decide_eq_false (by omega)
      have y0 : decide ((n : Int) < 256) = false := decide_eq_false (by omega)
      have x1 : decide (n < 65536) = false := decide_eq_false (by omega)
      have y1 : decide ((n : Int) < 65536) = false := decide_eq_false (by omega)
      have x2 : decide (n < 4294967296) = true := decide_eq_true (by omega)
      have y2 : decide ((n : Int) < 4294967296) = true := decide_eq_true (by omega)
      clear hn h128 h1 h2 hk e
      go_enter Try.func35, Try.ntmps35
      go_wp2_with fail
      refine H.out.mono ?_
      rintro e w1 ⟨v, rfl, ho, hb⟩
      have HO := Lib.hid (And.intro ho hb)
      clear ho hb H
      go_wp2_with fail
      exact bodyPost_ret (v := v) (by simp [results, Try.results35, go_sem]) rfl ⟨v, rfl, HO.out⟩
    · rw [phP_at hk]
      have H := Lib.hid (rbig13_any 207 n 8 w (by decide) hn (by decide) (by decide))
      have x0 : decide (n < 256) = false := decide_eq_false (by omega)
      have y0 : decide ((n : Int) < 256) = false := decide_eq_false (by omega)
      have x1 : decide (n < 65536) = false := decide_eq_false (by omega)
      have y1 : decide ((n : Int) < 65536) = false := decide_eq_false (by omega)
      have x2 : decide (n < 4294967296) = false := decide_eq_false (by omega)
      have y2 : decide ((n : Int) < 4294967296) = false := decide_eq_false (by omega)
      clear hn h128 h1 hk e
      go_enter Try.func35, Try.ntmps35
      go_wp2_with fail
      refine H.out.mono ?_
      rintro e w1 ⟨v, rfl, ho, hb⟩
      have HO := Lib.hid (And.intro ho hb)
      clear ho hb H
      go_wp2_with fail
      exact bodyPost_ret (v := v) (by simp [results, Try.results35, go_sem]) rfl ⟨v, rfl, HO.out⟩
set_option maxRecDepth 100000 in
set_option maxHeartbeats 8000000 in
theorem rwhole13_yes (n : Nat) (w : World) (hn : n < 9223372036854775808) :
    Calls Try.prog 35 #[.bool true, .int .u64 (n : Int)] w (RpAns (pnP true n) w) := by
  obtain ⟨m, hm⟩ : ∃ m, 18446744073709551615 - n = m := ⟨_, rfl⟩
  obtain ⟨n2, hn2⟩ : ∃ m, 2 * n = m := ⟨_, rfl⟩
  have u1 : bits .xor .u64 IntKind.u64.max (n : Int) = (m : Int) := by rw [u64_not (by omega), hm]
  have u1' : bits .xor .u64 (if IntKind.u64.signed = true then -1 else IntKind.u64.max) (n : Int) = (m : Int) := by rw [if_neg (by decide)]; exact u1
  have u4 : IntKind.u64.wrap (2 * (n : Int)) = (n2 : Int) := by rw [IntKind.wrap_u64]; omega
  by_cases h31 : n ≤ 31
  · obtain ⟨d, hd⟩ : ∃ d, m % 256 = d := ⟨_, rfl⟩
    have HL : Hid (RpAns (pnP true n) w (.returned (.slice (some ⟨w.heap.size, 0, none⟩) 1 1)) (w.alloc (.cells #[.int .u8 (d : Int)] 5))) := Lib.hid (by
      have e : pnP true n = [UInt8.ofNat d] := by unfold pnP; rw [if_pos rfl, if_pos h31, hm, lwP_one, hd]
      rw [e]
      exact RpAns.lit1 w (by omega))
    have i1 : decide (n2 < 64) = true := decide_eq_true (by omega)
    have i2 : decide ((n2 : Int) < 64) = true := decide_eq_true (by omega)
    have u5 : IntKind.u8.wrap (m : Int) = (d : Int) := by rw [IntKind.wrap_u8]; omega
    have u6 : (m : Int) % 256 = (d : Int) := by omega
    clear hn h31 hm hn2 hd
    go_enter Try.func35, Try.ntmps35
    go_wp2_with fail
    exact bodyPost_ret (v := .slice (some ⟨w.heap.size, 0, none⟩) 1 1) (by simp [results, Try.results35, go_sem]) rfl HL.out
  · have e : pnP true n = UInt8.ofNat (208 + lsK n2 1) :: lwP m (2 ^ lsK n2 1) := by unfold pnP; rw [if_pos rfl, if_neg h31, hm, hn2]
    rw [e]
    have i1 : decide (n2 < 64) = false := decide_eq_false (by omega)
    have i2 : decide ((n2 : Int) < 64) = false := decide_eq_false (by omega)
    rcases lsK1_cases n2 with ⟨h1, hk⟩ | ⟨h1, h2, hk⟩ | ⟨h1, h2, hk⟩ | ⟨h1, hk⟩
    · rw [hk]
      have H := Lib.hid (rbig13_any 208 m 1 w (by decide) (by omega) (by decide) (by decide))
      have x0 : decide (n2 < 256) = true := decide_eq_true (by omega)
      have y0 : decide ((n2 : Int) < 256) = true := decide_eq_true (by omega)
      have x1 : decide (n2 < 65536) = true := decide_eq_true (by omega)
      have y1 : decide ((n2 : Int) < 65536) = true := decide_eq_true (by omega)
      have x2 : decide (n2 < 4294967296) = true := decide_eq_true (by omega)
      have y2 : decide ((n2 : Int) < 4294967296) = true := decide_eq_true (by omega)
      clear hn h31 h1 hk e hm hn2
      go_enter Try.func35, Try.ntmps35
      go_wp2_with fail
      refine H.out.mono ?_
      rintro e w1 ⟨v, rfl, ho, hb⟩
      have HO := Lib.hid (And.intro ho hb)
      clear ho hb H
      go_wp2_with fail
      exact bodyPost_ret (v := v) (by simp [results, Try.results35, go_sem]) rfl ⟨v, rfl, HO.out⟩
    · rw [hk]
      have H := Lib.hid (rbig13_any 209 m 2 w (by decide) (by omega) (by decide) (by decide))
      have x0 : decide (n2 < 256) = false := decide_eq_false (by omega)
      have y0 : decide ((n2 : Int) < 256) = false := decide_eq_false (by omega)
      have x1 : decide (n2 < 65536) = true := decide_eq_true (by omega)
      have y1 : decide ((n2 : Int) < 65536) = true := decide_eq_true (by omega)
      have x2 : decide (n2 < 4294967296) = true := decide_eq_true (by omega)
      have y2 : decide ((n2 : Int) < 4294967296) = true := decide_eq_true (by omega)
      clear hn h31 h1 h2 hk e hm hn2
      go_enter Try.func35, Try.ntmps35
      go_wp2_with fail
      refine H.out.mono ?_
      rintro e w1 ⟨v, rfl, ho, hb⟩
      have HO := Lib.hid (And.intro ho hb)
      clear ho hb H
      go_wp2_with fail
      exact bodyPost_ret (v := v) (by simp [results, Try.results35, go_sem]) rfl ⟨v, rfl, HO.out⟩
    · rw [hk]
      have H := Lib.hid (rbig13_any 210 m 4 w (by decide) (by omega) (by decide) (by decide))
      have x0 : decide (n2 < 256) = false := decide_eq_false (by omega)
      have y0 : decide ((n2 : Int) < 256) = false := decide_eq_false (by omega)
      have x1 : decide (n2 < 65536) = false := decide_eq_false (by omega)
      have y1 : decide ((n2 : Int) < 65536) = false := decide_eq_false (by omega)
      have x2 : decide (n2 < 4294967296) = true := decide_eq_true (by omega)
      have y2 : decide ((n2 : Int) < 4294967296) = true := decide_eq_true (by omega)
      clear hn h31 h1 h2 hk e hm hn2
      go_enter Try.func35, Try.ntmps35
      go_wp2_with fail
      refine H.out.mono ?_
      rintro e w1 ⟨v, rfl, ho, hb⟩
      have HO := Lib.hid (And.intro ho hb)
      clear ho hb H
      go_wp2_with fail
      exact bodyPost_ret (v := v) (by simp [results, Try.results35, go_sem]) rfl ⟨v, rfl, HO.out⟩
    · rw [hk]
      have H := Lib.hid (rbig13_any 211 m 8 w (by decide) (by omega) (by decide) (by decide))
      have x0 : decide (n2 < 256) = false := decide_eq_false (by omega)
      have y0 : decide ((n2 : Int) < 256) = false := decide_eq_false (by omega)
      have x1 : decide (n2 < 65536) = false := decide_eq_false (by omega)
      have y1 : decide ((n2 : Int) < 65536) = false := decide_eq_false (by omega)
      have x2 : decide (n2 < 4294967296) = false := decide_eq_false (by omega)
      have y2 : decide ((n2 : Int) < 4294967296) = false := decide_eq_false (by omega)
      clear hn h31 h1 hk e hm hn2
      go_enter Try.func35, Try.ntmps35
      go_wp2_with fail
      refine H.out.mono ?_
      rintro e w1 ⟨v, rfl, ho, hb⟩
      have HO := Lib.hid (And.intro ho hb)
      clear ho hb H
      go_wp2_with fail
      exact bodyPost_ret (v := v) (by simp [results, Try.results35, go_sem]) rfl ⟨v, rfl, HO.out⟩
set_option maxRecDepth 100000 in
set_option maxHeartbeats 8000000 in
theorem rlength13_t (n : Nat) (w : World) (hn : n < 4294967296) :
    Calls Try.prog 36 #[.int .i64 (n : Int), .int .i64 160, .int .i64 32, .int .i64 217] w (RpAns (if n < 32 then [UInt8.ofNat (160 + n)] else phP 217 1 n) w) := by
  have u9 : IntKind.u64.wrap (n : Int) = (n : Int) := by rw [IntKind.wrap_u64]; omega
  by_cases hs : n < 32
  · rw [if_pos hs]
    obtain ⟨d, hd⟩ : ∃ d, 160 + n = d := ⟨_, rfl⟩
    have HL : Hid (RpAns [UInt8.ofNat d] w (.returned (.slice (some ⟨w.heap.size, 0, none⟩) 1 1)) (w.alloc (.cells #[.int .u8 (d : Int)] 5))) := Lib.hid (RpAns.lit1 w (by omega))
    rw [hd]
    have i1 : decide (n < 32) = true := decide_eq_true hs
    have i2 : decide ((n : Int) < 32) = true := decide_eq_true (by omega)
    have u1 : IntKind.i64.wrap (160 + (n : Int)) = (d : Int) := by rw [IntWalk.i64_in _ ⟨by omega, by omega⟩]; omega
    have u1' : wrap64 (160 + (n : Int)) = (d : Int) := by unfold wrap64; omega
    have u2 : IntKind.u8.wrap (d : Int) = (d : Int) := by rw [IntKind.wrap_u8]; omega
    clear hn hs hd
    go_enter Try.func36, Try.ntmps36
    go_wp2_with fail
    exact bodyPost_ret (v := .slice (some ⟨w.heap.size, 0, none⟩) 1 1) (by simp [results, Try.results36, go_sem]) rfl HL.out
  · rw [if_neg hs]
    have i1 : decide (n < 32) = false := decide_eq_false hs
    have i2 : decide ((n : Int) < 32) = false := decide_eq_false (by omega)
    rcases lsK1_cases n with ⟨h1, hk⟩ | ⟨h1, h2, hk⟩ | ⟨h1, h2, hk⟩ | ⟨h1, hk⟩
    · rw [phP_at hk]
      have H := Lib.hid (rbig13_any 217 n 1 w (by decide) (by omega) (by decide) (by decide))
      have x0 : decide (n < 256) = true := decide_eq_true (by omega)
      have y0 : decide ((n : Int) < 256) = true := decide_eq_true (by omega)
      have x1 : decide (n < 65536) = true := decide_eq_true (by omega)
      have y1 : decide ((n : Int) < 65536) = true := decide_eq_true (by omega)
      have x2 : decide (n < 4294967296) = true := decide_eq_true (by omega)
      have y2 : decide ((n : Int) < 4294967296) = true := decide_eq_true (by omega)
      clear hn h1 hk
      go_enter Try.func36, Try.ntmps36
      go_wp2_with fail
      refine H.out.mono ?_
      rintro e w1 ⟨v, rfl, ho, hb⟩
      have HO := Lib.hid (And.intro ho hb)
      clear ho hb H
      go_wp2_with fail
      exact bodyPost_ret (v := v) (by simp [results, Try.results36, go_sem]) rfl ⟨v, rfl, HO.out⟩
    · rw [phP_at hk]
      have H := Lib.hid (rbig13_any 218 n 2 w (by decide) (by omega) (by decide) (by decide))
      have x0 : decide (n < 256) = false := decide_eq_false (by omega)
      have y0 : decide ((n : Int) < 256) = false := decide_eq_false (by omega)
      have x1 : decide (n < 65536) = true := decide_eq_true (by omega)
      have y1 : decide ((n : Int) < 65536) = true := decide_eq_true (by omega)
      have x2 : decide (n < 4294967296) = true := decide_eq_true (by omega)
      have y2 : decide ((n : Int) < 4294967296) = true := decide_eq_true (by omega)
      clear hn h1 h2 hk
      go_enter Try.func36, Try.ntmps36
      go_wp2_with fail
      refine H.out.mono ?_
      rintro e w1 ⟨v, rfl, ho, hb⟩
      have HO := Lib.hid (And.intro ho hb)
      clear ho hb H
      go_wp2_with fail
      exact bodyPost_ret (v := v) (by simp [results, Try.results36, go_sem]) rfl ⟨v, rfl, HO.out⟩
    · rw [phP_at hk]
      have H := Lib.hid (rbig13_any 219 n 4 w (by decide) (by omega) (by decide) (by decide))
      have x0 : decide (n < 256) = false := decide_eq_false (by omega)
      have y0 : decide ((n : Int) < 256) = false := decide_eq_false (by omega)
      have x1 : decide (n < 65536) = false := decide_eq_false (by omega)
      have y1 : decide ((n : Int) < 65536) = false := decide_eq_false (by omega)
      have x2 : decide (n < 4294967296) = true := decide_eq_true (by omega)
      have y2 : decide ((n : Int) < 4294967296) = true := decide_eq_true (by omega)
      clear hn h1 h2 hk
      go_enter Try.func36, Try.ntmps36
      go_wp2_with fail
      refine H.out.mono ?_
      rintro e w1 ⟨v, rfl, ho, hb⟩
      have HO := Lib.hid (And.intro ho hb)
      clear ho hb H
      go_wp2_with fail
      exact bodyPost_ret (v := v) (by simp [results, Try.results36, go_sem]) rfl ⟨v, rfl, HO.out⟩
    · omega
set_option maxRecDepth 100000 in
set_option maxHeartbeats 8000000 in
theorem rlength13_b (n : Nat) (w : World) (hn : n < 4294967296) :
    Calls Try.prog 36 #[.int .i64 (n : Int), .int .i64 0, .int .i64 0, .int .i64 196] w (RpAns (phP 196 1 n) w) := by
  have u9 : IntKind.u64.wrap (n : Int) = (n : Int) := by rw [IntKind.wrap_u64]; omega
  have i2 : decide ((n : Int) < 0) = false := decide_eq_false (by omega)
  have i3 : ¬ (n : Int) < 0 := by omega
  rcases lsK1_cases n with ⟨h1, hk⟩ | ⟨h1, h2, hk⟩ | ⟨h1, h2, hk⟩ | ⟨h1, hk⟩
  · rw [phP_at hk]
    have H := Lib.hid (rbig13_any 196 n 1 w (by decide) (by omega) (by decide) (by decide))
    have x0 : decide (n < 256) = true := decide_eq_true (by omega)
    have y0 : decide ((n : Int) < 256) = true := decide_eq_true (by omega)
    have x1 : decide (n < 65536) = true := decide_eq_true (by omega)
    have y1 : decide ((n : Int) < 65536) = true := decide_eq_true (by omega)
    have x2 : decide (n < 4294967296) = true := decide_eq_true (by omega)
    have y2 : decide ((n : Int) < 4294967296) = true := decide_eq_true (by omega)
    clear hn h1 hk
    go_enter Try.func36, Try.ntmps36
    go_wp2_with fail
    refine H.out.mono ?_
    rintro e w1 ⟨v, rfl, ho, hb⟩
    have HO := Lib.hid (And.intro ho hb)
    clear ho hb H
    go_wp2_with fail
    exact bodyPost_ret (v := v) (by simp [results, Try.results36, go_sem]) rfl ⟨v, rfl, HO.out⟩
  · rw [phP_at hk]
    have H := Lib.hid (rbig13_any 197 n 2 w (by decide) (by omega) (by decide) (by decide))
    have x0 : decide (n < 256) = false := decide_eq_false (by omega)
    have y0 : decide ((n : Int) < 256) = false := decide_eq_false (by omega)
    have x1 : decide (n < 65536) = true := decide_eq_true (by omega)
    have y1 : decide ((n : Int) < 65536) = true := decide_eq_true (by omega)
    have x2 : decide (n < 4294967296) = true := decide_eq_true (by omega)
    have y2 : decide ((n : Int) < 4294967296) = true := decide_eq_true (by omega)
    clear hn h1 h2 hk
    go_enter Try.func36, Try.ntmps36
    go_wp2_with fail
    refine H.out.mono ?_
    rintro e w1 ⟨v, rfl, ho, hb⟩
    have HO := Lib.hid (And.intro ho hb)
    clear ho hb H
    go_wp2_with fail
    exact bodyPost_ret (v := v) (by simp [results, Try.results36, go_sem]) rfl ⟨v, rfl, HO.out⟩
  · rw [phP_at hk]
    have H := Lib.hid (rbig13_any 198 n 4 w (by decide) (by omega) (by decide) (by decide))
    have x0 : decide (n < 256) = false := decide_eq_false (by omega)
    have y0 : decide ((n : Int) < 256) = false := decide_eq_false (by omega)
    have x1 : decide (n < 65536) = false := decide_eq_false (by omega)
    have y1 : decide ((n : Int) < 65536) = false := decide_eq_false (by omega)
    have x2 : decide (n < 4294967296) = true := decide_eq_true (by omega)
    have y2 : decide ((n : Int) < 4294967296) = true := decide_eq_true (by omega)
    clear hn h1 h2 hk
    go_enter Try.func36, Try.ntmps36
    go_wp2_with fail
    refine H.out.mono ?_
    rintro e w1 ⟨v, rfl, ho, hb⟩
    have HO := Lib.hid (And.intro ho hb)
    clear ho hb H
    go_wp2_with fail
    exact bodyPost_ret (v := v) (by simp [results, Try.results36, go_sem]) rfl ⟨v, rfl, HO.out⟩
  · omega
set_option maxRecDepth 100000 in
set_option maxHeartbeats 8000000 in
theorem rlength13_e (n : Nat) (w : World) (hn : n < 4294967296) :
    Calls Try.prog 36 #[.int .i64 (n : Int), .int .i64 0, .int .i64 0, .int .i64 199] w (RpAns (phP 199 1 n) w) := by
  have u9 : IntKind.u64.wrap (n : Int) = (n : Int) := by rw [IntKind.wrap_u64]; omega
  have i2 : decide ((n : Int) < 0) = false := decide_eq_false (by omega)
  have i3 : ¬ (n : Int) < 0 := by omega
  rcases lsK1_cases n with ⟨h1, hk⟩ | ⟨h1, h2, hk⟩ | ⟨h1, h2, hk⟩ | ⟨h1, hk⟩
  · rw [phP_at hk]
    have H := Lib.hid (rbig13_any 199 n 1 w (by decide) (by omega) (by decide) (by decide))
    have x0 : decide (n < 256) = true := decide_eq_true (by omega)
    have y0 : decide ((n : Int) < 256) = true := decide_eq_true (by omega)
    have x1 : decide (n < 65536) = true := decide_eq_true (by omega)
    have y1 : decide ((n : Int) < 65536) = true := decide_eq_true (by omega)
    have x2 : decide (n < 4294967296) = true := decide_eq_true (by omega)
    have y2 : decide ((n : Int) < 4294967296) = true := decide_eq_true (by omega)
    clear hn h1 hk
    go_enter Try.func36, Try.ntmps36
    go_wp2_with fail
    refine H.out.mono ?_
    rintro e w1 ⟨v, rfl, ho, hb⟩
    have HO := Lib.hid (And.intro ho hb)
    clear ho hb H
    go_wp2_with fail
    exact bodyPost_ret (v := v) (by simp [results, Try.results36, go_sem]) rfl ⟨v, rfl, HO.out⟩
  · rw [phP_at hk]
    have H := Lib.hid (rbig13_any 200 n 2 w (by decide) (by omega) (by decide) (by decide))
    have x0 : decide (n < 256) = false := decide_eq_false (by omega)
    have y0 : decide ((n : Int) < 256) = false := decide_eq_false (by omega)
    have x1 : decide (n < 65536) = true := decide_eq_true (by omega)
    have y1 : decide ((n : Int) < 65536) = true := decide_eq_true (by omega)
    have x2 : decide (n < 4294967296) = true := decide_eq_true (by omega)
    have y2 : decide ((n : Int) < 4294967296) = true := decide_eq_true (by omega)
    clear hn h1 h2 hk
    go_enter Try.func36, Try.ntmps36
    go_wp2_with fail
    refine H.out.mono ?_
    rintro e w1 ⟨v, rfl, ho, hb⟩
    have HO := Lib.hid (And.intro ho hb)
    clear ho hb H
    go_wp2_with fail
    exact bodyPost_ret (v := v) (by simp [results, Try.results36, go_sem]) rfl ⟨v, rfl, HO.out⟩
  · rw [phP_at hk]
    have H := Lib.hid (rbig13_any 201 n 4 w (by decide) (by omega) (by decide) (by decide))
    have x0 : decide (n < 256) = false := decide_eq_false (by omega)
    have y0 : decide ((n : Int) < 256) = false := decide_eq_false (by omega)
    have x1 : decide (n < 65536) = false := decide_eq_false (by omega)
    have y1 : decide ((n : Int) < 65536) = false := decide_eq_false (by omega)
    have x2 : decide (n < 4294967296) = true := decide_eq_true (by omega)
    have y2 : decide ((n : Int) < 4294967296) = true := decide_eq_true (by omega)
    clear hn h1 h2 hk
    go_enter Try.func36, Try.ntmps36
    go_wp2_with fail
    refine H.out.mono ?_
    rintro e w1 ⟨v, rfl, ho, hb⟩
    have HO := Lib.hid (And.intro ho hb)
    clear ho hb H
    go_wp2_with fail
    exact bodyPost_ret (v := v) (by simp [results, Try.results36, go_sem]) rfl ⟨v, rfl, HO.out⟩
  · omega
set_option maxRecDepth 100000 in
set_option maxHeartbeats 8000000 in
theorem rlength13_l (n : Nat) (w : World) (hn : n < 4294967296) :
    Calls Try.prog 36 #[.int .i64 (n : Int), .int .i64 144, .int .i64 16, .int .i64 (-219)] w (RpAns (pmP 144 220 n) w) := by
  have u9 : IntKind.u64.wrap (n : Int) = (n : Int) := by rw [IntKind.wrap_u64]; omega
  unfold pmP
  by_cases hs : n < 16
  · rw [if_pos hs]
    obtain ⟨d, hd⟩ : ∃ d, 144 + n = d := ⟨_, rfl⟩
    have HL : Hid (RpAns [UInt8.ofNat d] w (.returned (.slice (some ⟨w.heap.size, 0, none⟩) 1 1)) (w.alloc (.cells #[.int .u8 (d : Int)] 5))) := Lib.hid (RpAns.lit1 w (by omega))
    rw [hd]
    have i1 : decide (n < 16) = true := decide_eq_true hs
    have i2 : decide ((n : Int) < 16) = true := decide_eq_true (by omega)
    have u1 : IntKind.i64.wrap (144 + (n : Int)) = (d : Int) := by rw [IntWalk.i64_in _ ⟨by omega, by omega⟩]; omega
    have u1' : wrap64 (144 + (n : Int)) = (d : Int) := by unfold wrap64; omega
    have u2 : IntKind.u8.wrap (d : Int) = (d : Int) := by rw [IntKind.wrap_u8]; omega
    clear hn hs hd
    go_enter Try.func36, Try.ntmps36
    go_wp2_with fail
    exact bodyPost_ret (v := .slice (some ⟨w.heap.size, 0, none⟩) 1 1) (by simp [results, Try.results36, go_sem]) rfl HL.out
  · rw [if_neg hs]
    have i1 : decide (n < 16) = false := decide_eq_false hs
    have i2 : decide ((n : Int) < 16) = false := decide_eq_false (by omega)
    obtain ⟨Q, hQ⟩ : ∃ Q, decide (n < 256) = Q := ⟨_, rfl⟩
    have hQ2 : decide ((n : Int) < 256) = Q := by rw [← hQ]; exact decide_eq_decide.2 (by omega)
    rcases lsK2_cases hn with ⟨h1, hk⟩ | ⟨h1, hk⟩
    · rw [phP_at hk]
      have H := Lib.hid (rbig13_any 220 n 2 w (by decide) (by omega) (by decide) (by decide))
      have x1 : decide (n < 65536) = true := decide_eq_true (by omega)
      have y1 : decide ((n : Int) < 65536) = true := decide_eq_true (by omega)
      clear hn hs h1 hk
      cases Q
      all_goals
        go_enter Try.func36, Try.ntmps36
        go_wp2_with fail
        refine H.out.mono ?_
        rintro e w1 ⟨v, rfl, ho, hb⟩
        have HO := Lib.hid (And.intro ho hb)
        clear ho hb H
        go_wp2_with fail
        exact bodyPost_ret (v := v) (by simp [results, Try.results36, go_sem]) rfl ⟨v, rfl, HO.out⟩
    · rw [phP_at hk]
      have H := Lib.hid (rbig13_any 221 n 4 w (by decide) (by omega) (by decide) (by decide))
      have x1 : decide (n < 65536) = false := decide_eq_false (by omega)
      have y1 : decide ((n : Int) < 65536) = false := decide_eq_false (by omega)
      clear hn hs h1 hk
      cases Q
      all_goals
        go_enter Try.func36, Try.ntmps36
        go_wp2_with fail
        refine H.out.mono ?_
        rintro e w1 ⟨v, rfl, ho, hb⟩
        have HO := Lib.hid (And.intro ho hb)
        clear ho hb H
        go_wp2_with fail
        exact bodyPost_ret (v := v) (by simp [results, Try.results36, go_sem]) rfl ⟨v, rfl, HO.out⟩
set_option maxRecDepth 100000 in
set_option maxHeartbeats 8000000 in
theorem rlength13_m (n : Nat) (w : World) (hn : n < 4294967296) :
    Calls Try.prog 36 #[.int .i64 (n : Int), .int .i64 128, .int .i64 16, .int .i64 (-221)] w (RpAns (pmP 128 222 n) w) := by
  have u9 : IntKind.u64.wrap (n : Int) = (n : Int) := by rw [IntKind.wrap_u64]; omega
  unfold pmP
  by_cases hs : n < 16
  · rw [if_pos hs]
    obtain ⟨d, hd⟩ : ∃ d, 128 + n = d := ⟨_, rfl⟩
    have HL : Hid (RpAns [UInt8.ofNat d] w (.returned (.slice (some ⟨w.heap.size, 0, none⟩) 1 1)) (w.alloc (.cells #[.int .u8 (d : Int)] 5))) := Lib.hid (RpAns.lit1 w (by omega))
    rw [hd]
    have i1 : decide (n < 16) = true := decide_eq_true hs
    have i2 : decide ((n : Int) < 16) = true := decide_eq_true (by omega)
    have u1 : IntKind.i64.wrap (128 + (n : Int)) = (d : Int) := by rw [IntWalk.i64_in _ ⟨by omega, by omega⟩]; omega
    have u1' : wrap64 (128 + (n : Int)) = (d : Int) := by unfold wrap64; omega
    have u2 : IntKind.u8.wrap (d : Int) = (d : Int) := by rw [IntKind.wrap_u8]; omega
    clear hn hs hd
    go_enter Try.func36, Try.ntmps36
    go_wp2_with fail
    exact bodyPost_ret (v := .slice (some ⟨w.heap.size, 0, none⟩) 1 1) (by simp [results, Try.results36, go_sem]) rfl HL.out
  · rw [if_neg hs]
    have i1 : decide (n < 16) = false := decide_eq_false hs
    have i2 : decide ((n : Int) < 16) = false := decide_eq_false (by omega)
    obtain ⟨Q, hQ⟩ : ∃ Q, decide (n < 256) = Q := ⟨_, rfl⟩
    have hQ2 : decide ((n : Int) < 256) = Q := by rw [← hQ]; exact decide_eq_decide.2 (by omega)
    rcases lsK2_cases hn with ⟨h1, hk⟩ | ⟨h1, hk⟩
    · rw [phP_at hk]
      have H := Lib.hid (rbig13_any 222 n 2 w (by decide) (by omega) (by decide) (by decide))
      have x1 : decide (n < 65536) = true := decide_eq_true (by omega)
      have y1 : decide ((n : Int) < 65536) = true := decide_eq_true (by omega)
      clear hn hs h1 hk
      cases Q
      all_goals
        go_enter Try.func36, Try.ntmps36
        go_wp2_with fail
        refine H.out.mono ?_
        rintro e w1 ⟨v, rfl, ho, hb⟩
        have HO := Lib.hid (And.intro ho hb)
        clear ho hb H
        go_wp2_with fail
        exact bodyPost_ret (v := v) (by simp [results, Try.results36, go_sem]) rfl ⟨v, rfl, HO.out⟩
    · rw [phP_at hk]
      have H := Lib.hid (rbig13_any 223 n 4 w (by decide) (by omega) (by decide) (by decide))
      have x1 : decide (n < 65536) = false := decide_eq_false (by omega)
      have y1 : decide ((n : Int) < 65536) = false := decide_eq_false (by omega)
      clear hn hs h1 hk
      cases Q
      all_goals
        go_enter Try.func36, Try.ntmps36
        go_wp2_with fail
        refine H.out.mono ?_
        rintro e w1 ⟨v, rfl, ho, hb⟩
        have HO := Lib.hid (And.intro ho hb)
        clear ho hb H
        go_wp2_with fail
        exact bodyPost_ret (v := v) (by simp [results, Try.results36, go_sem]) rfl ⟨v, rfl, HO.out⟩
end Go.Proofs.Ytgadpmddbkimfaa.nn
namespace Go.Proofs.Ytgadpmddbkimfaa.nn
open Go.RowKit

/-- an append of a text to a row of one's own, as a step of a region -/
theorem step_appRS {w : World} {ops : Array Oper} {oo : Oper} {a : Act} {R : Act → World → Prop} {Q : Exit → Act → World → Prop} {E : Prop} (hgd : oo.guard = none) (s x : Operand)
    (ho : oo.op = .call { callee := .builtin .append, args := #[s, x], argTypes := #[26, 9] })
    (B : Nat) (v : Value) (n : Nat) (l : List UInt8) (T : ByteArray) (hs : a.eval s = v) (h : w.ownsRow B 5 1 v n (Lib.byteCells l)) (hx : a.eval x = .string T) (hle : n + T.size ≤ 140737488355328) (hbase : B ≤ w.heap.size)
    (k : ∀ v' w', w'.ownsRow B 5 1 v' (n + T.size) (Lib.byteCells (l ++ T.data.toList)) → Below B w w' → R (a.put oo.dst v') w') :
    if Region.wanted oo (yielded ops a.tmps) = true then Oper.wp Try.prog oo a w R Q else E := by
  have hw : Region.wanted oo (yielded ops a.tmps) = true := by simp [Region.wanted, hgd]
  rw [if_pos hw]
  obtain ⟨i0, hi, hz0, hz1, hz2⟩ := info_parts infoP8
  obtain ⟨v', w', hr, h1, h2, _⟩ := Lib.run_append_own_string (P := Try.prog) w B 26 9 oo.type 5 i0 Try.underlying26 Try.underlying9 hi hz0 hz1 hz2 v n _ h T (by unfold maxLen; omega) hle hbase
  unfold Oper.wp execOp
  simp only [ho, resolve, invoke, builtin, Sem.run_bind, Sem.run_pure, Result.andThen_ok, List.map_toArray, List.map_cons, List.map_nil, hs, hx, hr]
  refine k v' w' ?_ ((Below.refl B w).grown h2 hbase (fun k hk => (h.lt k hk).1))
  rw [Lib.byteCells_append, ← Lib.strCells_eq]
  exact h1
theorem Box.five {w W : World} {t : VT} {C : Value} (h : Box w t C W) : W.cell? ⟨w.heap.size, 0, none⟩ = some (.int .i64 t.k) ∧ W.cell? ⟨w.heap.size, 1, none⟩ = some (.bool t.g) ∧ W.cell? ⟨w.heap.size, 2, none⟩ = some (.int .u64 (t.n : Int)) ∧ W.cell? ⟨w.heap.size, 3, none⟩ = some (.string t.s) ∧ W.cell? ⟨w.heap.size, 4, none⟩ = some C := ⟨h.r.k, h.r.g, h.r.n, h.r.s, h.r.l⟩
set_option maxRecDepth 100000 in
set_option maxHeartbeats 8000000 in
theorem rext13_any (t : VT) (C : Value) (w : World) (_ : t.n < 18446744073709551616) (hs32 : t.s.size < 4294967296) :
    Calls Try.prog 37 #[vv t C] w (RpAns (pxP t.n t.s) w) := by
  obtain ⟨i0, hi, hz0, hz1, hz2⟩ := info_parts infoP8
  obtain ⟨W1, hW1⟩ : ∃ W1, w.alloc (.cells #[.int .i64 t.k, .bool t.g, .int .u64 (t.n : Int), .string t.s, C] 25) = W1 := ⟨_, rfl⟩
  have HX := Box.new w t C 25
  rw [hW1] at HX
  have HBX : Hid (∀ W, Below W1.heap.size W1 W → Below w.heap.size w W ∧ W.cell? ⟨w.heap.size, 2, none⟩ = some (.int .u64 (t.n : Int)) ∧ W.cell? ⟨w.heap.size, 3, none⟩ = some (.string t.s)) := Lib.hid fun W hb => ⟨(HX.on hb).b, (HX.on hb).five.2.2.1, (HX.on hb).five.2.2.2.1⟩
  have HLE := Lib.hid (rlength13_e t.s.size W1 hs32)
  have HLOW : Hid (∀ W v n l, Below W1.heap.size W1 W → W.ownsRow W1.heap.size 5 1 v n (Lib.byteCells l) → W.ownsRow w.heap.size 5 1 v n (Lib.byteCells l) ∧ Below w.heap.size w W) := Lib.hid fun W v n l hb ho => ⟨pown_low ho HX.b.size, (HX.on hb).b⟩
  obtain ⟨⟨c0, c1, c2, c3, c4⟩, hsz1⟩ := And.intro HX.five HX.b.size
  obtain ⟨n, hnn⟩ : ∃ n, t.n = n := ⟨_, rfl⟩
  obtain ⟨s, hss⟩ : ∃ n, t.s = n := ⟨_, rfl⟩
  rw [hnn] at HBX c2
  rw [hss] at HBX HLE hs32 c3
  obtain ⟨nb, hnb⟩ : ∃ x, n % 256 = x := ⟨_, rfl⟩
  have hnb256 : nb < 256 := by omega
  have u1 : IntKind.u8.wrap (n : Int) = (nb : Int) := by rw [IntKind.wrap_u8]; omega
  obtain ⟨P, hP⟩ : ∃ P, peP s.size = P := ⟨_, rfl⟩
  have hPl : P.length ≤ 9 := by rw [← hP]; exact peP_le _
  have HT : Hid (pxP n s = (P ++ [UInt8.ofNat nb]) ++ s.data.toList) := Lib.hid (by unfold pxP; rw [hP, hnb])
  rw [hnn, hss, HT.out]
  have hcase : (∃ (d : Nat) (z : Int), z = (d : Int) ∧ d < 256 ∧ P = [UInt8.ofNat d] ∧ ((s.size = 1 ∧ z = 212) ∨ (s.size = 2 ∧ z = 213) ∨ (s.size = 4 ∧ z = 214) ∨ (s.size = 8 ∧ z = 215) ∨ (s.size = 16 ∧ z = 216))) ∨ (P = phP 199 1 s.size ∧ ¬ s.size = 1 ∧ ¬ s.size = 2 ∧ ¬ s.size = 4 ∧ ¬ s.size = 8 ∧ ¬ s.size = 16) := by
    rw [← hP]
    unfold peP
    by_cases h1 : s.size = 1
    · rw [if_pos h1]; exact .inl ⟨212, 212, rfl, by decide, rfl, .inl ⟨h1, rfl⟩⟩
    · by_cases h2 : s.size = 2
      · rw [if_neg h1, if_pos h2]; exact .inl ⟨213, 213, rfl, by decide, rfl, .inr (.inl ⟨h2, rfl⟩)⟩
      · by_cases h4 : s.size = 4
        · rw [if_neg h1, if_neg h2, if_pos h4]; exact .inl ⟨214, 214, rfl, by decide, rfl, .inr (.inr (.inl ⟨h4, rfl⟩))⟩
        · by_cases h8 : s.size = 8
          · rw [if_neg h1, if_neg h2, if_neg h4, if_pos h8]; exact .inl ⟨215, 215, rfl, by decide, rfl, .inr (.inr (.inr (.inl ⟨h8, rfl⟩)))⟩
          · by_cases h16 : s.size = 16
            · rw [if_neg h1, if_neg h2, if_neg h4, if_neg h8, if_pos h16]; exact .inl ⟨216, 216, rfl, by decide, rfl, .inr (.inr (.inr (.inr ⟨h16, rfl⟩)))⟩
            · rw [if_neg h1, if_neg h2, if_neg h4, if_neg h8, if_neg h16]; exact .inr ⟨rfl, h1, h2, h4, h8, h16⟩
  have HW1 := Lib.hid hW1
  unfold vv
  rw [hnn, hss] at HW1 ⊢
  have hln1 : P.length + 1 ≤ 140737488355328 := by omega
  have hln2 : P.length + 1 + s.size ≤ 140737488355328 := by omega
  clear hP hPl hnb HX hW1 hnn hss hs32 HT
  go_enter Try.func37, Try.ntmps37
  go_upto_region 1 with fail
  rw [HW1.out]
  clear HW1
  go_wp2_with fail
  refine HLE.out.mono ?_
  rintro e w2 ⟨v0, rfl, ho, hb2⟩
  obtain ⟨hbb, q2, q3⟩ := HBX.out _ hb2
  clear c0 c1 c2 c3 c4
  rcases hcase with ⟨d, z, hz, hd256, hPd, hd⟩ | ⟨hPd, g1, g2, g4, g8, g16⟩
  · have hl1 := RpAns.lit1 w2 hd256
    rw [← hz] at hl1
    have HO : Hid ((w2.alloc (.cells #[.int .u8 z] 5)).ownsRow W1.heap.size 5 1 (.slice (some ⟨w2.heap.size, 0, none⟩) 1 1) P.length (Lib.byteCells P)) := Lib.hid (by
      obtain ⟨v, e, h1, h2⟩ := hl1
      injection e with e
      subst e
      rw [hPd]
      exact pown_low h1 hb2.size)
    have HB2' := Lib.hid (hb2.alloc hb2.size (.cells #[.int .u8 z] 5))
    obtain ⟨_, e2, e3⟩ := HBX.out _ HB2'.out
    have HA1 := Lib.hid (own_below HO.out ((Below.refl _ _).alloc (Nat.le_refl _) (.cells #[.int .u8 (nb : Int)] 5)))
    have HBA := Lib.hid (HB2'.out.alloc HB2'.out.size (.cells #[.int .u8 (nb : Int)] 5))
    have hs1 := HBA.out.size
    have HRN : Hid (Rd ((w2.alloc (.cells #[.int .u8 z] 5)).alloc (.cells #[.int .u8 (nb : Int)] 5)) .u8 (some ⟨w2.heap.size + 1, 0, none⟩) 1 (gL [UInt8.ofNat nb])) := Lib.hid (by
      have h := prd_b1 (w2.alloc (.cells #[.int .u8 z] 5)) hnb256 5
      have e : (w2.alloc (.cells #[.int .u8 z] 5)).heap.size = w2.heap.size + 1 := by simp
      rw [e] at h
      exact h)
    clear hl1 hPd hz hbb hb2 ho HLE hd256
    rcases hd with ⟨hs1', rfl⟩ | ⟨hs1', rfl⟩ | ⟨hs1', rfl⟩ | ⟨hs1', rfl⟩ | ⟨hs1', rfl⟩
    all_goals
      have q1 : (s.size : Int) = _ := congrArg Nat.cast hs1'
      go_upto_region 13 with fail
      go_wp2_with (first
        | (at_builtin; refine wpList_appB rfl _ _ _ rfl W1.heap.size 5 i0 _ Try.underlying26 hi hz0 hz1 hz2 rfl _ P.length P rfl rfl HA1.out _ 1 1 [UInt8.ofNat nb] rfl rfl HRN.out hln1 hs1 ?_; intro v3 w3 hown3 hb3; obtain ⟨_, e2, e3⟩ := HBX.out w3 (HBA.out.trans hb3))
        | (at_builtin; refine wpList_appS rfl _ _ _ _ rfl W1.heap.size 5 i0 Try.underlying26 Try.underlying9 hi hz0 hz1 hz2 _ (P.length + 1) (P ++ [UInt8.ofNat nb]) rfl hown3 s rfl hln2 (Nat.le_trans hs1 hb3.size) ?_; intro v4 w4 hown4 hb4))
      have HZ := Lib.hid (HLOW.out _ _ _ _ ((HBA.out.trans hb3).trans hb4) hown4)
      clear hown3 hown4 hb3 hb4
      go_wp2_with fail
      exact bodyPost_ret (v := v4) (by simp [results, Try.results37, go_sem]) rfl ⟨v4, rfl, by rw [List.length_append, List.length_append, Array.length_toList]; exact HZ.out.1, HZ.out.2⟩
  · have HA1 : Hid ((w2.alloc (.cells #[.int .u8 (nb : Int)] 5)).ownsRow W1.heap.size 5 1 v0 P.length (Lib.byteCells P)) := Lib.hid (by rw [hPd]; exact own_below ho ((Below.refl _ _).alloc (Nat.le_refl _) _))
    have HBA := Lib.hid (hb2.alloc hb2.size (.cells #[.int .u8 (nb : Int)] 5))
    have hs1 := HBA.out.size
    have r1 : ((s.size : Int) == 1) = false := by simp; omega
    have r2 : ((s.size : Int) == 2) = false := by simp; omega
    have r4 : ((s.size : Int) == 4) = false := by simp; omega
    have r8 : ((s.size : Int) == 8) = false := by simp; omega
    have r16 : ((s.size : Int) == 16) = false := by simp; omega
    clear hPd hbb hb2 ho HLE g1 g2 g4 g8 g16
    go_upto_region 13 with fail
    go_wp2_with (first
      | (at_builtin; refine wpList_appB rfl _ _ _ rfl W1.heap.size 5 i0 _ Try.underlying26 hi hz0 hz1 hz2 rfl _ P.length P rfl rfl HA1.out _ 1 1 [UInt8.ofNat nb] rfl rfl (prd_b1 _ hnb256 _) hln1 hs1 ?_; intro v3 w3 hown3 hb3; obtain ⟨_, e2, e3⟩ := HBX.out w3 (HBA.out.trans hb3))
      | (at_builtin; refine wpList_appS rfl _ _ _ _ rfl W1.heap.size 5 i0 Try.underlying26 Try.underlying9 hi hz0 hz1 hz2 _ (P.length + 1) (P ++ [UInt8.ofNat nb]) rfl hown3 s rfl hln2 (Nat.le_trans hs1 hb3.size) ?_; intro v4 w4 hown4 hb4))
    have HZ := Lib.hid (HLOW.out _ _ _ _ ((HBA.out.trans hb3).trans hb4) hown4)
    clear hown3 hown4 hb3 hb4
    go_wp2_with fail
    exact bodyPost_ret (v := v4) (by simp [results, Try.results37, go_sem]) rfl ⟨v4, rfl, by rw [List.length_append, List.length_append, Array.length_toList]; exact HZ.out.1, HZ.out.2⟩
end Go.Proofs.Ytgadpmddbkimfaa.nn
namespace Go.Proofs.Ytgadpmddbkimfaa.nn
open Go.RowKit

theorem say_kind {t : VT} (h : t.k = 2 ∨ t.k = 3 ∨ t.k = 5 ∨ t.k = 6 ∨ t.k = 13) : say t = false := by
  rw [say_mk]
  unfold pkS
  rw [if_neg (by omega), decide_eq_true h]
  rfl
set_option maxRecDepth 100000 in
set_option maxHeartbeats 8000000 in
theorem rsays_any (N : Nat) : ∀ (t : VT) (C : Value) (w : World), cnt t ≤ N → cnt t ≤ 1099511627776 → rgt t = true → Lst w C t.l →
    Calls Try.prog 17 #[vv t C] w fun e w' => e = .returned (.bool (say t)) ∧ Below w.heap.size w w' := by
  induction N with
  | zero => intro t C w h; have := cnt_mk t; omega
  | succ N ih =>
    intro t C w hN hc hr hC
    have hcm := cnt_mk t
    have hll := len_cntL t.l
    rw [rgt_mk] at hr
    simp only [Bool.and_eq_true] at hr
    obtain ⟨⟨h1, h2⟩, h3⟩ := hr
    have hkb := poneB_kind h1
    obtain ⟨A, c, rfl, hlc, hA⟩ := hC.out
    have HB0 := Lib.hid (Box.new w t (.slice A t.l.length c) 25)
    obtain ⟨c0, c1, c2, c3, c4⟩ := HB0.out.five
    by_cases ka : t.k = 2 ∨ t.k = 3 ∨ t.k = 5 ∨ t.k = 6 ∨ t.k = 13
    · rw [say_kind ka]
      have HZ := Lib.hid HB0.out.b
      unfold vv
      clear hC hA hlc ih h1 h2 h3 hkb hN hc hcm hll c0 c1 c2 c3 c4 HB0
      obtain ⟨L, hL⟩ : ∃ L : Value, Value.slice A t.l.length c = L := ⟨_, rfl⟩
      rw [hL] at HZ ⊢
      clear hL
      rcases ka with hk | hk | hk | hk | hk
      all_goals
        rw [hk] at HZ ⊢
        clear hk
        go_enter Try.func17, Try.ntmps17
        go_wp2_with fail
        go_ret
        exact ⟨rfl, HZ.out⟩
    by_cases kb : t.k = 4
    · have hl0 : t.l = [] := by
        have : lf t.k = true := by rw [kb]; rfl
        rw [this] at h2
        exact List.eq_nil_of_length_eq_zero (by simpa using h2)
      have hs : say t = (!t.g || decide (t.n < 9223372036854775808)) := by rw [say_leaf hl0]; unfold pkS; rw [if_pos kb]
      rw [hs]
      have HZ := Lib.hid HB0.out.b
      obtain ⟨g, hg⟩ : ∃ g, t.g = g := ⟨_, rfl⟩
      obtain ⟨n, hn⟩ : ∃ n, t.n = n := ⟨_, rfl⟩
      obtain ⟨D, hD⟩ : ∃ D, decide (n < 9223372036854775808) = D := ⟨_, rfl⟩
      have hD2 : decide ((n : Int) < 9223372036854775808) = D := by rw [← hD]; exact decide_eq_decide.2 (by omega)
      unfold vv
      rw [kb, hg, hn] at HZ ⊢
      rw [hD]
      rw [kb] at c0
      rw [hg] at c1
      rw [hn] at c2
      clear hC hA hlc ih h1 h2 h3 hkb hN hc hcm hll hs hl0 HB0 kb ka hg hn c0 c1 c2 c3 c4
      cases g
      all_goals
        cases D
        all_goals
          go_enter Try.func17, Try.ntmps17
          go_wp2_with fail
          go_ret
          exact ⟨rfl, HZ.out⟩
    · have hs : say t = sayL t.l := by
        rw [say_mk]
        unfold pkS
        rw [if_neg kb, decide_eq_false ka]
        rfl
      rw [hs]
      have hLn : t.l.length ≤ 1099511627776 := by omega
      have hIH := Lib.hid (fun u (hu : u ∈ t.l) C' W (hl : Lst W C' u.l) => ih u C' W (by have := pcnt_in u hu; omega) (by have := pcnt_in u hu; omega) (prgtL_in h3 u hu) hl)
      have q2 : (t.k == 2) = false := by simp; omega
      have q3 : (t.k == 3) = false := by simp; omega
      have q5 : (t.k == 5) = false := by simp; omega
      have q6 : (t.k == 6) = false := by simp; omega
      have q13 : (t.k == 13) = false := by simp; omega
      have q4 : (t.k == 4) = false := by simp; omega
      obtain ⟨L, hL⟩ : ∃ L, t.l = L := ⟨_, rfl⟩
      obtain ⟨k, hk⟩ : ∃ k, t.k = k := ⟨_, rfl⟩
      rw [hL] at hA hlc hIH HB0 hll hLn ⊢
      rw [hk] at q2 q3 q5 q6 q13 q4
      unfold vv
      rw [hk]
      have HBC : Hid (∀ W, Box w t (.slice A L.length c) W → W.cell? ⟨w.heap.size, 0, none⟩ = some (.int .i64 k) ∧ W.cell? ⟨w.heap.size, 4, none⟩ = some (.slice A L.length c)) := Lib.hid fun W hW => ⟨by rw [← hk]; exact hW.five.1, hW.five.2.2.2.2⟩
      have HBN : Hid (Box w t (.slice A L.length c) (w.alloc (.cells #[.int .i64 k, .bool t.g, .int .u64 (t.n : Int), .string t.s, .slice A L.length c] 25))) := Lib.hid (by rw [← hk]; exact HB0.out)
      obtain ⟨X, hX⟩ : ∃ X, sayL L = X := ⟨_, rfl⟩
      rw [hX]
      have HX := Lib.hid hX
      clear hC ih h1 h2 h3 hkb hN hc hcm hs HB0 kb ka hL hk c0 c1 c2 c3 c4 hX
      go_enter Try.func17, Try.ntmps17
      go_wp2_with fail
      go_loopw [3] (fun s3 wr => ∃ i : Nat, i ≤ L.length ∧ s3 = .int .i64 (i : Int) ∧ Hid (sayL (L.take i) = true) ∧ Hid (Box w t (.slice A L.length c) wr)) (fun s3 _ => L.length - (intOf s3).toNat)
      case atStart => exact ⟨0, Nat.zero_le _, rfl, Lib.hid rfl, HBN⟩
      case round =>
        obtain ⟨i, hi, rfl, he, hO⟩ := hrel
        obtain ⟨e0, e4⟩ := HBC.out _ hO.out
        by_cases hlt : i < L.length
        · rcases hA with ⟨_, h0, _⟩ | ⟨b1, off, D, rfl, hb1, hrow, hkid⟩
          · rw [h0] at hlt; exact absurd hlt (by simp)
          have hmem : L[i] ∈ L := List.getElem_mem hlt
          obtain ⟨t', ht'⟩ : ∃ t', L[i] = t' := ⟨_, rfl⟩
          obtain ⟨C', hC'⟩ : ∃ C', D i = C' := ⟨_, rfl⟩
          have hr := hrow i hlt
          have hkl := hkid i hlt
          have hxs := sayL_take_succ hlt
          have hxt := fun h => sayL_no (l := L) hlt h
          rw [ht', hC'] at hr hkl
          rw [ht'] at hmem hxs
          rw [ht', HX.out] at hxt
          rw [he.out, Bool.true_and] at hxs
          obtain ⟨A', c', hC2, _⟩ := hkl.out
          obtain ⟨n', hn'⟩ : ∃ n', t'.l.length = n' := ⟨_, rfl⟩
          rw [hn'] at hC2
          subst hC2
          have hr2 := hr.below hO.out.b hb1
          have r0 := hr2.k
          have r1 := hr2.g
          have r2 := hr2.n
          have r3 := hr2.s
          have r4 := hr2.l
          have HI := Lib.hid ((hIH.out t' hmem (.slice A' n' c') wr (hkl.keep hO.out.b (Nat.le_refl _))).mono fun e w' ⟨h1, h2⟩ => And.intro h1 (hO.out.on h2))
          obtain ⟨Q, hQ⟩ : ∃ Q, say t' = Q := ⟨_, rfl⟩
          rw [hQ] at HI hxs hxt
          have HXS := Lib.hid hxs
          have HXT := Lib.hid hxt
          unfold vv at HI
          clear hr hr2 hkl hrow hkid ht' hC' hn' hxs hxt hmem hQ
          cases Q with
          | true =>
            go_wp2_with fail
            refine HI.out.mono ?_
            rintro e w2 ⟨rfl, h2⟩
            have H2 := Lib.hid h2
            clear h2 r0 r1 r2 r3 r4 e0 e4 HI
            go_wp2_with fail
            go_roundw
            case rel => exact ⟨i + 1, hlt, by go_num, Lib.hid HXS.out, H2⟩
            case measure => simp [intOf]; omega
          | false =>
            have HX0 := Lib.hid (HXT.out rfl)
            go_wp2_with fail
            refine HI.out.mono ?_
            rintro e w2 ⟨rfl, h2⟩
            have H2 := Lib.hid h2.b
            clear h2 r0 r1 r2 r3 r4 e0 e4 HI
            go_wp2_with fail
            go_ret
            exact ⟨by rw [HX0.out]; rfl, H2.out⟩
        · obtain rfl : i = L.length := by omega
          have HE : Hid (X = true) := Lib.hid (by rw [← HX.out, ← he.out, List.take_length])
          have HZ := Lib.hid hO.out.b
          clear he hO
          go_wp2_with fail
          go_ret
          exact ⟨by rw [HE.out]; rfl, HZ.out⟩
end Go.Proofs.Ytgadpmddbkimfaa.nn
namespace Go.Proofs.Ytgadpmddbkimfaa.nn
open Go.RowKit

/-- the document's items of less than a bound -/
def Rtp (t : VT) : Prop := ∀ (C : Value) (w : World), Lst w C t.l → Calls Try.prog 18 #[vv t C] w (RpAns (pkB t) w)
section
variable {w : World}
set_option maxRecDepth 100000 in
set_option maxHeartbeats 8000000 in
theorem rit_a (t : VT) (C : Value) (hk : t.k = 0 ∨ t.k = 1) (hn : t.k = 1 → t.n ≤ 1) : Calls Try.prog 18 #[vv t C] w (RpAns (pkB t) w) := by
  obtain ⟨W1, hW1⟩ : ∃ W1, w.alloc (.cells #[.int .i64 t.k, .bool t.g, .int .u64 (t.n : Int), .string t.s, C] 25) = W1 := ⟨_, rfl⟩
  have HX := Box.new w t C 25
  rw [hW1] at HX
  obtain ⟨c0, c1, c2, c3, c4⟩ := HX.five
  have hb := HX.b
  have hi := pkB_mk t
  obtain ⟨n, hnn⟩ : ∃ n, t.n = n := ⟨_, rfl⟩
  obtain ⟨k, hkk⟩ : ∃ k, t.k = k := ⟨_, rfl⟩
  rw [hnn] at hi hn c2 hW1
  rw [hkk] at hi hk hn c0 hW1
  have HLIT : Hid (∀ d : Nat, d < 256 → RpAns [UInt8.ofNat d] w (.returned (.slice (some ⟨W1.heap.size, 0, none⟩) 1 1)) (W1.alloc (.cells #[.int .u8 (d : Int)] 5))) := Lib.hid fun d hd => by
    obtain ⟨v, e, h1, h2⟩ := RpAns.lit1 W1 hd
    exact ⟨v, e, pown_low h1 hb.size, hb.trans (h2.mono hb.size)⟩
  rw [hi]
  unfold vv
  rw [hkk, hnn]
  have HW1 := Lib.hid hW1
  clear hW1 hi hkk hnn HX hb
  rcases hk with rfl | rfl
  · have HZ : Hid (RpAns (pkH 0 t.g n t.s t.l.length (pkL t.l)) w (.returned (.slice (some ⟨W1.heap.size, 0, none⟩) 1 1)) (W1.alloc (.cells #[.int .u8 192] 5))) := Lib.hid (HLIT.out 192 (by decide))
    clear HLIT hn
    go_enter Try.func18, Try.ntmps18
    go_upto_region 1 with fail
    rw [HW1.out]
    clear HW1
    go_wp2_with fail
    exact bodyPost_ret (v := .slice (some ⟨W1.heap.size, 0, none⟩) 1 1) (by simp [results, Try.results18, go_sem]) rfl HZ.out
  · have hn1 := hn rfl
    have HZ : Hid (RpAns (pkH 1 t.g n t.s t.l.length (pkL t.l)) w (.returned (.slice (some ⟨W1.heap.size, 0, none⟩) 1 1)) (W1.alloc (.cells #[.int .u8 ((194 + n : Nat) : Int)] 5))) := Lib.hid (HLIT.out (194 + n) (by omega))
    have u1 : IntKind.u8.wrap (n : Int) = (n : Int) := by rw [IntKind.wrap_u8]; omega
    have u2 : IntKind.u8.wrap (194 + (n : Int)) = ((194 + n : Nat) : Int) := by rw [IntKind.wrap_u8]; omega
    obtain ⟨d, hd⟩ : ∃ d, 194 + n = d := ⟨_, rfl⟩
    rw [hd] at HZ u2
    clear HLIT hn hn1 hd
    go_enter Try.func18, Try.ntmps18
    go_upto_region 1 with fail
    rw [HW1.out]
    clear HW1
    go_wp2_with fail
    exact bodyPost_ret (v := .slice (some ⟨W1.heap.size, 0, none⟩) 1 1) (by simp [results, Try.results18, go_sem]) rfl HZ.out
set_option maxRecDepth 100000 in
set_option maxHeartbeats 8000000 in
/-- of the kinds that ask a call for all of it -/
theorem rit_b (t : VT) (C : Value) (hk : t.k = 4 ∨ t.k = 7 ∨ t.k = 8 ∨ t.k = 14) (hn : t.n < 18446744073709551616) (hsay : t.k = 4 → t.g = true → t.n < 9223372036854775808) (hs : t.s.size < 4294967296) : Calls Try.prog 18 #[vv t C] w (RpAns (pkB t) w) := by
  obtain ⟨W1, hW1⟩ : ∃ W1, w.alloc (.cells #[.int .i64 t.k, .bool t.g, .int .u64 (t.n : Int), .string t.s, C] 25) = W1 := ⟨_, rfl⟩
  have HX := Box.new w t C 25
  rw [hW1] at HX
  obtain ⟨c0, c1, c2, c3, c4⟩ := HX.five
  have hb := HX.b
  have HLOW : Hid (∀ L e w', RpAns L W1 e w' → RpAns L w e w') := Lib.hid fun L e w' ⟨v, e1, h1, h2⟩ => ⟨v, e1, pown_low h1 hb.size, hb.trans (h2.mono hb.size)⟩
  have hi := pkB_mk t
  have HEXT := Lib.hid ((rext13_any t C W1 hn hs).mono fun e w' h => HLOW.out _ _ _ h)
  have HBIG : Hid (∀ f q : Nat, f < 256 → 0 < q → q ≤ 8 → Calls Try.prog 22 #[.int .i64 (f : Int), .int .u64 (t.n : Int), .int .i64 (q : Int)] W1 (RpAns (UInt8.ofNat f :: lwP t.n q) w)) := Lib.hid fun f q hf h0 h8 => (rbig13_any f t.n q W1 hf hn h0 h8).mono fun e w' h => HLOW.out _ _ _ h
  have HWH : Hid (t.k = 4 → Calls Try.prog 35 #[.bool t.g, .int .u64 (t.n : Int)] W1 (RpAns (pnP t.g t.n) w)) := Lib.hid fun h4 => by
    have h5 := hsay h4
    cases hg : t.g with
    | true => exact (rwhole13_yes t.n W1 (h5 hg)).mono fun e w' h => HLOW.out _ _ _ h
    | false => exact (rwhole13_no t.n W1 hn).mono fun e w' h => HLOW.out _ _ _ h
  have HW1 := Lib.hid hW1
  rw [hi]
  unfold vv at HEXT ⊢
  clear hW1 hi HX hb HLOW hsay hn hs
  rcases hk with hk | hk | hk | hk
  · have H := Lib.hid (HWH.out hk)
    rw [hk] at HW1 c0 ⊢
    have HP : Hid (pkH 4 t.g t.n t.s t.l.length (pkL t.l) = pnP t.g t.n) := Lib.hid rfl
    rw [HP.out]
    clear HWH HBIG HEXT hk HP
    go_enter Try.func18, Try.ntmps18
    go_upto_region 1 with fail
    rw [HW1.out]
    clear HW1
    go_wp2_with fail
    refine H.out.mono ?_
    rintro e w2 ⟨v, rfl, h1, h2⟩
    have HZ := Lib.hid (And.intro h1 h2)
    clear h1 h2 H c0 c1 c2 c3 c4
    go_wp2_with fail
    exact bodyPost_ret (v := v) (by simp [results, Try.results18, go_sem]) rfl ⟨v, rfl, HZ.out⟩
  · have H := Lib.hid (HBIG.out 202 4 (by decide) (by decide) (by decide))
    rw [hk] at HW1 c0 ⊢
    have HP : Hid (pkH 7 t.g t.n t.s t.l.length (pkL t.l) = UInt8.ofNat 202 :: lwP t.n 4) := Lib.hid rfl
    rw [HP.out]
    clear HWH HBIG HEXT hk HP
    go_enter Try.func18, Try.ntmps18
    go_upto_region 1 with fail
    rw [HW1.out]
    clear HW1
    go_wp2_with fail
    refine H.out.mono ?_
    rintro e w2 ⟨v, rfl, h1, h2⟩
    have HZ := Lib.hid (And.intro h1 h2)
    clear h1 h2 H c0 c1 c2 c3 c4
    go_wp2_with fail
    exact bodyPost_ret (v := v) (by simp [results, Try.results18, go_sem]) rfl ⟨v, rfl, HZ.out⟩
  · have H := Lib.hid (HBIG.out 203 8 (by decide) (by decide) (by decide))
    rw [hk] at HW1 c0 ⊢
    have HP : Hid (pkH 8 t.g t.n t.s t.l.length (pkL t.l) = UInt8.ofNat 203 :: lwP t.n 8) := Lib.hid rfl
    rw [HP.out]
    clear HWH HBIG HEXT hk HP
    go_enter Try.func18, Try.ntmps18
    go_upto_region 1 with fail
    rw [HW1.out]
    clear HW1
    go_wp2_with fail
    refine H.out.mono ?_
    rintro e w2 ⟨v, rfl, h1, h2⟩
    have HZ := Lib.hid (And.intro h1 h2)
    clear h1 h2 H c0 c1 c2 c3 c4
    go_wp2_with fail
    exact bodyPost_ret (v := v) (by simp [results, Try.results18, go_sem]) rfl ⟨v, rfl, HZ.out⟩
  · rw [hk] at HW1 c0 HEXT ⊢
    have HP : Hid (pkH 14 t.g t.n t.s t.l.length (pkL t.l) = pxP t.n t.s) := Lib.hid rfl
    rw [HP.out]
    clear HWH HBIG hk HP
    go_enter Try.func18, Try.ntmps18
    go_upto_region 1 with fail
    rw [HW1.out]
    clear HW1
    go_wp2_with fail
    refine HEXT.out.mono ?_
    rintro e w2 ⟨v, rfl, h1, h2⟩
    have HZ := Lib.hid (And.intro h1 h2)
    clear h1 h2 HEXT c0 c1 c2 c3 c4
    go_wp2_with fail
    exact bodyPost_ret (v := v) (by simp [results, Try.results18, go_sem]) rfl ⟨v, rfl, HZ.out⟩
end
end Go.Proofs.Ytgadpmddbkimfaa.nn
namespace Go.Proofs.Ytgadpmddbkimfaa.nn
open Go.RowKit

section
variable {w : World}
set_option maxRecDepth 100000 in
set_option maxHeartbeats 8000000 in
theorem rit_te (t : VT) (C : Value) (hk : t.k = 10 ∨ t.k = 9) (hs : t.s.size < 4294967296) : Calls Try.prog 18 #[vv t C] w (RpAns (pkB t) w) := by
  obtain ⟨W1, hW1⟩ : ∃ W1, w.alloc (.cells #[.int .i64 t.k, .bool t.g, .int .u64 (t.n : Int), .string t.s, C] 25) = W1 := ⟨_, rfl⟩
  have HX := Box.new w t C 25
  rw [hW1] at HX
  obtain ⟨c0, c1, c2, c3, c4⟩ := HX.five
  have hb := HX.b
  have HLOW : Hid (∀ W v n l, Below W1.heap.size W1 W → W.ownsRow W1.heap.size 5 1 v n (Lib.byteCells l) → W.ownsRow w.heap.size 5 1 v n (Lib.byteCells l) ∧ Below w.heap.size w W) := Lib.hid fun W v n l hb' ho => ⟨pown_low ho hb.size, (HX.on hb').b⟩
  have HBX : Hid (∀ W, Below W1.heap.size W1 W → W.cell? ⟨w.heap.size, 3, none⟩ = some (.string t.s)) := Lib.hid fun W hb' => (HX.on hb').five.2.2.2.1
  have hi := pkB_mk t
  have d3 : W1.drew.cell? ⟨w.heap.size, 3, none⟩ = some (.string t.s) := c3
  have HT1 : Hid (t.k = 10 → pkB t = (if t.s.size < 32 then [UInt8.ofNat (160 + t.s.size)] else phP 217 1 t.s.size) ++ t.s.data.toList) := Lib.hid fun h => by rw [hi, h]; rfl
  have HT2 : Hid (t.k = 9 → pkB t = phP 196 1 t.s.size ++ t.s.data.toList) := Lib.hid fun h => by rw [hi, h]; rfl
  have HDR : Hid (∀ W, Below W1.drew.heap.size W1.drew W → Below W1.heap.size W1 W) := Lib.hid fun W h => (Below.drew (Below.refl W1.heap.size W1)).trans h
  have HL1 := Lib.hid (rlength13_t t.s.size W1.drew hs)
  have HL2 := Lib.hid (rlength13_b t.s.size W1.drew hs)
  have hp1 := phP1_le 217 t.s.size
  have hp2 := phP1_le 196 t.s.size
  have hq1 : (if t.s.size < 32 then [UInt8.ofNat (160 + t.s.size)] else phP 217 1 t.s.size).length ≤ 9 := by
    split
    · simp
    · exact hp1
  obtain ⟨R, hR⟩ : ∃ R, pkB t = R := ⟨_, rfl⟩
  rw [hR] at HT1 HT2 ⊢
  have HW1 := Lib.hid hW1
  unfold vv
  clear hW1 hi HX hb hR
  rcases hk with hk | hk
  · have HT := Lib.hid (HT1.out hk)
    obtain ⟨P, hP⟩ : ∃ P : List UInt8, (if t.s.size < 32 then [UInt8.ofNat (160 + t.s.size)] else phP 217 1 t.s.size) = P := ⟨_, rfl⟩
    rw [hP] at HT HL1 hq1
    have hle : P.length + t.s.size ≤ 140737488355328 := by omega
    rw [hk] at HW1 c0 ⊢
    clear HT1 HT2 HL2 hP hk hs hp1 hp2 hq1
    go_enter Try.func18, Try.ntmps18
    go_upto_region 1 with fail
    rw [HW1.out]
    clear HW1
    go_upto_region 15 with fail
    go_region_law (first
      | (go_simp; go_at_call 36; (with_reducible refine HL1.out.mono ?_); rintro e w4 ⟨v4, rfl, ho4, hb40⟩; have hb4 := HDR.out w4 hb40; have q3 := HBX.out w4 hb4; have hs4 := hb4.size)
      | (refine step_appRS rfl _ _ rfl W1.heap.size v4 P.length P t.s rfl ho4 rfl hle hs4 ?_; intro v5 w5 ho5 hb5))
    all_goals
      have HZ := Lib.hid (HLOW.out _ _ _ _ (hb4.trans hb5) ho5)
      clear ho5 hb5 ho4 hb4 hb40 q3 hs4
      go_wp2_with fail
      exact bodyPost_ret (v := v5) (by simp [results, Try.results18, go_sem]) rfl ⟨v5, rfl, by rw [HT.out, List.length_append, Array.length_toList]; exact HZ.out.1, HZ.out.2⟩
  · have HT := Lib.hid (HT2.out hk)
    obtain ⟨P, hP⟩ : ∃ P : List UInt8, phP 196 1 t.s.size = P := ⟨_, rfl⟩
    rw [hP] at HT HL2 hp2
    have hle : P.length + t.s.size ≤ 140737488355328 := by omega
    rw [hk] at HW1 c0 ⊢
    clear HT1 HT2 HL1 hP hk hs hp1 hp2 hq1
    go_enter Try.func18, Try.ntmps18
    go_upto_region 1 with fail
    rw [HW1.out]
    clear HW1
    go_upto_region 17 with fail
    go_region_law (first
      | (go_simp; go_at_call 36; (with_reducible refine HL2.out.mono ?_); rintro e w4 ⟨v4, rfl, ho4, hb40⟩; have hb4 := HDR.out w4 hb40; have q3 := HBX.out w4 hb4; have hs4 := hb4.size)
      | (refine step_appRS rfl _ _ rfl W1.heap.size v4 P.length P t.s rfl ho4 rfl hle hs4 ?_; intro v5 w5 ho5 hb5))
    all_goals
      have HZ := Lib.hid (HLOW.out _ _ _ _ (hb4.trans hb5) ho5)
      clear ho5 hb5 ho4 hb4 hb40 q3 hs4
      go_wp2_with fail
      exact bodyPost_ret (v := v5) (by simp [results, Try.results18, go_sem]) rfl ⟨v5, rfl, by rw [HT.out, List.length_append, Array.length_toList]; exact HZ.out.1, HZ.out.2⟩
end
end Go.Proofs.Ytgadpmddbkimfaa.nn
namespace Go.Proofs.Ytgadpmddbkimfaa.nn
open Go.RowKit

set_option maxRecDepth 100000 in
set_option maxHeartbeats 8000000 in
theorem rit_many (t : VT) (C : Value) (w : World) (K : Int) (c : Nat) (HEAD : List UInt8) (a b : Int) (hK : (K = 11 ∧ c = t.l.length ∧ a = 144 ∧ b = -219) ∨ (K = 12 ∧ c = t.l.length / 2 ∧ a = 128 ∧ b = -221)) (hk : t.k = K) (hC : Lst w C t.l) (_ : HEAD.length ≤ 17)
    (hp : pkB t = HEAD ++ pkL t.l) (hle : (pkB t).length + 60 ≤ 140737488355328) (hLn : t.l.length ≤ 1099511627776)
    (hlen : ∀ W, Calls Try.prog 36 #[.int .i64 (c : Int), .int .i64 a, .int .i64 16, .int .i64 b] W (RpAns HEAD W)) (ih : ∀ u, u ∈ t.l → Rtp u) :
    Calls Try.prog 18 #[vv t C] w (RpAns (pkB t) w) := by
  obtain ⟨i0, hi0, hz0, hz1, hz2⟩ := info_parts infoP8
  obtain ⟨A, cc, rfl, hlc, hA⟩ := hC.out
  obtain ⟨W1, hW1⟩ : ∃ W1, w.alloc (.cells #[.int .i64 t.k, .bool t.g, .int .u64 (t.n : Int), .string t.s, .slice A t.l.length cc] 25) = W1 := ⟨_, rfl⟩
  have HX := Box.new w t (.slice A t.l.length cc) 25
  rw [hW1] at HX
  obtain ⟨c0, c1, c2, c3, c4⟩ := HX.five
  have hb := HX.b
  rw [hp] at hle ⊢
  rw [List.length_append] at hle
  have HL := Lib.hid (hlen W1)
  obtain ⟨L, hL⟩ : ∃ L, t.l = L := ⟨_, rfl⟩
  rw [hL] at hA hlc hle hLn ih hK c4 hW1 HX ⊢
  have HLOW : Hid (∀ W v n l, Below W1.heap.size W1 W → W.ownsRow W1.heap.size 5 1 v n (Lib.byteCells l) → W.ownsRow w.heap.size 5 1 v n (Lib.byteCells l) ∧ Below w.heap.size w W) := Lib.hid fun W v n l hb' ho => ⟨pown_low ho hb.size, (HX.on hb').b⟩
  have HBX : Hid (∀ W, Below W1.heap.size W1 W → Below w.heap.size w W ∧ W.cell? ⟨w.heap.size, 4, none⟩ = some (.slice A L.length cc)) := Lib.hid fun W hb' => ⟨(HX.on hb').b, (HX.on hb').five.2.2.2.2⟩
  have hIH := Lib.hid ih
  have HW1 := Lib.hid hW1
  unfold vv
  rw [hk]
  rw [hk] at HW1 c0
  clear hC ih hp hlen hW1 hL hk HX hb
  have hcq : K = 12 → (L.length : Int) / 2 = (c : Int) := fun h => by
    rcases hK with ⟨h1, _⟩ | ⟨_, h2, _⟩
    · omega
    · omega
  have hcr : K = 12 → (L.length : Int).tdiv 2 = (c : Int) := fun h => by
    rw [Int.tdiv_eq_ediv_of_nonneg (by omega)]
    exact hcq h
  have hK2 : (K = 11 ∧ c = L.length ∧ a = 144 ∧ b = -219) ∨ (K = 12 ∧ a = 128 ∧ b = -221) := by
    rcases hK with h | ⟨h1, _, h3, h4⟩
    · exact .inl h
    · exact .inr ⟨h1, h3, h4⟩
  clear hK
  rcases hK2 with ⟨rfl, rfl, rfl, rfl⟩ | ⟨rfl, rfl, rfl⟩
  all_goals
    try have q2 := hcq rfl
    try have q3 := hcr rfl
    clear hcq hcr
    go_enter Try.func18, Try.ntmps18
    go_upto_region 1 with fail
    rw [HW1.out]
    clear HW1
    go_wp2_with fail
    refine HL.out.mono ?_
    rintro e w2 ⟨v, rfl, ho, hb2⟩
    obtain ⟨A0, n0, rfl, -, -, -⟩ := rd_list rfl ho
    have H2 := Lib.hid (And.intro ho hb2)
    clear ho hb2 c0 c1 c2 c3 c4 HL
    go_wp2_with fail
    go_loopw [3, 4] (fun s3 s4 wr => ∃ (i : Nat) (n : Nat) (A0 : Option Addr) (c0 : Nat), i ≤ L.length ∧ s4 = .int .i64 (i : Int) ∧ s3 = .slice A0 n c0 ∧ Hid (n = (HEAD ++ pkL (L.take i)).length ∧ wr.ownsRow W1.heap.size 5 1 (.slice A0 n c0) n (Lib.byteCells (HEAD ++ pkL (L.take i))) ∧ Below W1.heap.size W1 wr)) (fun _ s4 _ => L.length - (intOf s4).toNat)
    case atStart => exact ⟨0, HEAD.length, A0, n0, Nat.zero_le _, rfl, rfl, Lib.hid ⟨by rw [List.take_zero]; show _ = (HEAD ++ []).length; rw [List.append_nil], by rw [List.take_zero]; show World.ownsRow _ _ _ _ _ _ (Lib.byteCells (HEAD ++ [])); rw [List.append_nil]; exact H2.out.1, H2.out.2⟩⟩
    case round =>
      obtain ⟨i, n, A1, c1, hi, rfl, rfl, hO⟩ := hrel
      obtain ⟨hbw, e4⟩ := HBX.out _ hO.out.2.2
      by_cases hlt : i < L.length
      · rcases hA with ⟨_, h0, _⟩ | ⟨b1, off, D, rfl, hb1, hrow, hkid⟩
        · rw [h0] at hlt; exact absurd hlt (by simp)
        have hmem : L[i] ∈ L := List.getElem_mem hlt
        obtain ⟨t', ht'⟩ : ∃ t', L[i] = t' := ⟨_, rfl⟩
        obtain ⟨C', hC'⟩ : ∃ C', D i = C' := ⟨_, rfl⟩
        have hr := hrow i hlt
        have hkl := hkid i hlt
        have hts := pkL_take_succ hlt
        have htl := pkL_take_le hlt
        rw [ht', hC'] at hr hkl
        rw [ht'] at hmem hts htl
        obtain ⟨A', c', hC2, _⟩ := hkl.out
        obtain ⟨n', hn'⟩ : ∃ n', t'.l.length = n' := ⟨_, rfl⟩
        rw [hn'] at hC2
        subst hC2
        have hr2 := hr.below hbw hb1
        have r0 := hr2.k
        have r1 := hr2.g
        have r2 := hr2.n
        have r3 := hr2.s
        have r4 := hr2.l
        have HI := Lib.hid (hIH.out t' hmem (.slice A' n' c') wr (hkl.keep hbw (Nat.le_refl _)))
        have HTS : Hid ((HEAD ++ pkL (L.take i)) ++ pkB t' = HEAD ++ pkL (L.take (i + 1))) := Lib.hid (by rw [hts, List.append_assoc])
        obtain ⟨P, hP⟩ : ∃ P, HEAD ++ pkL (L.take i) = P := ⟨_, rfl⟩
        obtain ⟨Q, hQ⟩ : ∃ Q, pkB t' = Q := ⟨_, rfl⟩
        have hPl : P.length ≤ HEAD.length + (pkL (L.take i)).length := by rw [← hP, List.length_append]; omega
        rw [hP] at hO HTS
        rw [hQ] at HI HTS htl
        have hlq : n + Q.length ≤ 140737488355328 := by have := hO.out.1; omega
        unfold vv at HI
        clear hr hr2 hkl hrow hkid ht' hC' hn' hts htl hbw hmem hP hQ hPl
        go_wp2_with fail
        refine HI.out.mono ?_
        rintro e w3 ⟨v3, rfl, ho3, hb3⟩
        obtain ⟨A3, c3, rfl, -, -, hr3⟩ := rd_list rfl ho3
        obtain rfl := hO.out.1
        have HO3 := Lib.hid (own_below hO.out.2.1 hb3)
        have HB3 := Lib.hid (hO.out.2.2.trans (hb3.mono hO.out.2.2.size))
        have HR3 := Lib.hid hr3
        have hs3 := HB3.out.size
        clear r0 r1 r2 r3 r4 e4 HI ho3 hb3 hr3
        go_wp2_with (at_builtin; refine wpList_appB rfl _ _ _ rfl W1.heap.size 5 i0 _ Try.underlying26 hi0 hz0 hz1 hz2 rfl _ P.length P rfl rfl HO3.out A3 Q.length c3 Q rfl rfl HR3.out hlq hs3 ?_; intro v4 w4 ho4 hb4)
        obtain ⟨A4, c4, rfl, -, -, -⟩ := rd_list (by rw [List.length_append]) ho4
        have H4 := Lib.hid (And.intro ho4 (HB3.out.trans hb4))
        clear ho4 hb4
        go_wp2_with fail
        go_roundw
        case rel => exact ⟨i + 1, P.length + Q.length, A4, c4, hlt, by go_num, rfl, Lib.hid ⟨by rw [← HTS.out, List.length_append], by rw [← HTS.out]; exact H4.out.1, H4.out.2⟩⟩
        case measure => simp [intOf]; omega
      · obtain rfl : i = L.length := by omega
        have HZ : Hid (wr.ownsRow w.heap.size 5 1 (.slice A1 n c1) (HEAD ++ pkL L).length (Lib.byteCells (HEAD ++ pkL L)) ∧ Below w.heap.size w wr) := Lib.hid (by
          have h := hO.out
          rw [List.take_length] at h
          obtain ⟨h1, h2, h3⟩ := h
          rw [← h1]
          exact HLOW.out _ _ _ _ h3 h2)
        clear hO hbw
        go_wp2_with fail
        exact bodyPost_ret (v := .slice A1 n c1) (by simp [results, Try.results18, go_sem]) rfl ⟨_, rfl, HZ.out⟩
theorem rtp_any (N : Nat) : ∀ t, cnt t ≤ N → cnt t ≤ 4294967295 → rgt t = true → wfT t → say t = true → smx t < 4294967296 → (pkB t).length + 60 ≤ 140737488355328 → Rtp t := by
  induction N with
  | zero => intro t h; have := cnt_mk t; omega
  | succ N ih =>
    intro t hN hc hr hwf hsay hs hle C w hC
    have hcm := cnt_mk t
    rw [rgt_mk] at hr
    simp only [Bool.and_eq_true] at hr
    obtain ⟨⟨h1, h2⟩, h3⟩ := hr
    obtain ⟨_, _, hn, hwl⟩ := (wfT_mk t).1 hwf
    obtain ⟨k1, k2, hn1⟩ := poneB_kind h1
    have hlen := len_cntL t.l
    have hsm := smx_mk t
    have hno : ¬ (t.k = 2 ∨ t.k = 3 ∨ t.k = 5 ∨ t.k = 6 ∨ t.k = 13) := fun h => by rw [say_kind h] at hsay; cases hsay
    have hss : t.s.size < 4294967296 := by omega
    by_cases hlf : lf t.k = true
    · rw [hlf] at h2
      have hl0 : t.l = [] := List.eq_nil_of_length_eq_zero (by simpa using h2)
      have hkk := (plf_iff _).1 hlf
      by_cases ka : t.k = 0 ∨ t.k = 1
      · exact rit_a t C ka hn1
      by_cases kb : t.k = 10 ∨ t.k = 9
      · exact rit_te t C kb hss
      · refine rit_b t C (by omega) hn (fun h4 hg => ?_) hss
        rw [say_leaf hl0] at hsay
        unfold pkS at hsay
        rw [if_pos h4, hg] at hsay
        exact of_decide_eq_true hsay
    · have hkk : t.k = 11 ∨ t.k = 12 := by
        rcases Int.lt_or_le t.k 11 with h | h
        · exact absurd ((plf_iff _).2 ⟨by omega, by omega, by omega⟩) hlf
        · rcases Int.lt_or_le 13 t.k with h | h
          · exact absurd ((plf_iff _).2 ⟨by omega, by omega, by omega⟩) hlf
          · omega
      have hsl : sayL t.l = true := by
        rw [say_mk] at hsay
        simp only [Bool.and_eq_true] at hsay
        exact hsay.2
      have hpl : ∀ u, u ∈ t.l → (pkB u).length ≤ (pkL t.l).length := fun u hu => by
        obtain ⟨i, hi, rfl⟩ := List.getElem_of_mem hu
        have := pkL_take_le hi
        omega
      have hsu : ∀ u, u ∈ t.l → say u = true := fun u hu => by
        obtain ⟨i, hi, rfl⟩ := List.getElem_of_mem hu
        cases hq : say t.l[i] with
        | true => rfl
        | false => rw [sayL_no hi hq] at hsl; cases hsl
      have hmu : ∀ u, u ∈ t.l → smx u ≤ smxL t.l := fun u hu => by
        obtain ⟨i, hi, rfl⟩ := List.getElem_of_mem hu
        exact smx_at hi
      rcases hkk with k | k
      · have h5 : pkB t = pmP 144 220 t.l.length ++ pkL t.l := by rw [pkB_mk, k]; rfl
        have h6 := congrArg List.length h5
        rw [List.length_append] at h6
        exact rit_many t C w 11 t.l.length (pmP 144 220 t.l.length) 144 (-219) (.inl ⟨rfl, rfl, rfl, rfl⟩) k hC (pmP_le _ _ _) h5 hle (by omega) (fun W => rlength13_l t.l.length W (by omega)) fun u hu => ih u (by have := pcnt_in u hu; omega) (by have := pcnt_in u hu; omega) (prgtL_in h3 u hu) (pwfL_in hwl u hu) (hsu u hu) (by have := hmu u hu; omega) (by have := hpl u hu; omega)
      · have h5 : pkB t = pmP 128 222 (t.l.length / 2) ++ pkL t.l := by rw [pkB_mk, k]; rfl
        have h6 := congrArg List.length h5
        rw [List.length_append] at h6
        exact rit_many t C w 12 (t.l.length / 2) (pmP 128 222 (t.l.length / 2)) 128 (-221) (.inr ⟨rfl, rfl, rfl, rfl⟩) k hC (pmP_le _ _ _) h5 hle (by omega) (fun W => rlength13_m (t.l.length / 2) W (by omega)) fun u hu => ih u (by have := pcnt_in u hu; omega) (by have := pcnt_in u hu; omega) (prgtL_in h3 u hu) (pwfL_in hwl u hu) (hsu u hu) (by have := hmu u hu; omega) (by have := hpl u hu; omega)
end Go.Proofs.Ytgadpmddbkimfaa.nn
namespace Go.Proofs.Ytgadpmddbkimfaa.nn
open Go.RowKit

set_option maxRecDepth 100000 in
set_option maxHeartbeats 4000000 in
theorem rpencode_any (t : VT) (C : Value) (w : World) (hN : cnt t ≤ 4294967295) (hS : smx t < 4294967296) (hC : Lst w C t.l) (hwf : wfT t) (hle : (pkB t).length + 60 ≤ 140737488355328) :
    Calls Try.prog 7 #[vv t C] w (EpAns t w) := by
  obtain ⟨Ac, mc, cc, rfl⟩ : ∃ A m c, C = .slice A m c := by obtain ⟨a, b, e, _⟩ := hC.out; exact ⟨a, _, b, e⟩
  have HX0 := Lib.hid (Box.new w t (.slice Ac mc cc) 25)
  have HCK : Hid (∀ W, Box w t (.slice Ac mc cc) W → Calls Try.prog 16 #[vv t (.slice Ac mc cc)] W fun e w' => e = .returned (.int .i64 (chk t : Int)) ∧ Box w t (.slice Ac mc cc) w') := Lib.hid fun W hW => (rchk_any t _ W (by omega) (by unfold maxLen; omega) (hC.keep hW.b (Nat.le_refl _))).mono fun e w' ⟨h1, h2⟩ => ⟨h1, hW.on h2⟩
  have HSA : Hid (chk t = 0 → ∀ W, Box w t (.slice Ac mc cc) W → Calls Try.prog 17 #[vv t (.slice Ac mc cc)] W fun e w' => e = .returned (.bool (say t)) ∧ Box w t (.slice Ac mc cc) w') := Lib.hid fun hc W hW => (rsays_any (cnt t) t _ W (Nat.le_refl _) (by omega) (pchk_parts hc).2.2 (hC.keep hW.b (Nat.le_refl _))).mono fun e w' ⟨h1, h2⟩ => ⟨h1, hW.on h2⟩
  have HIT : Hid (chk t = 0 → say t = true → ∀ W, Box w t (.slice Ac mc cc) W → Calls Try.prog 18 #[vv t (.slice Ac mc cc)] W fun e w' => ∃ A c, e = .returned (.slice A (pkB t).length c) ∧ ((pkB t).length ≤ c ∧ c ≤ maxLen ∧ Rd w' .u8 A (pkB t).length (gL (pkB t))) ∧ Below w.heap.size w w') := Lib.hid fun hc hs W hW => (rtp_any (cnt t) t (Nat.le_refl _) hN (pchk_parts hc).2.2 hwf hs hS hle (.slice Ac mc cc) W (hC.keep hW.b (Nat.le_refl _))).mono fun e w' ⟨v, h1, h2, h3⟩ => by
    obtain ⟨A, c, rfl, h4⟩ := rd_list rfl h2
    exact ⟨A, c, h1, h4, (hW.on h3).b⟩
  have HBC : Hid (∀ W, Box w t (.slice Ac mc cc) W → W.cell? ⟨w.heap.size, 0, none⟩ = some (.int .i64 t.k) ∧ W.cell? ⟨w.heap.size, 1, none⟩ = some (.bool t.g) ∧ W.cell? ⟨w.heap.size, 2, none⟩ = some (.int .u64 (t.n : Int)) ∧ W.cell? ⟨w.heap.size, 3, none⟩ = some (.string t.s) ∧ W.cell? ⟨w.heap.size, 4, none⟩ = some (.slice Ac mc cc)) := Lib.hid fun W hW => ⟨hW.r.k, hW.r.g, hW.r.n, hW.r.s, hW.r.l⟩
  have HEN : Hid (epL t = (if chk t = 0 ∧ say t = true then pkB t else []) ∧ epE t = (if chk t = 0 then (if say t then 0 else 10) else chk t)) := Lib.hid ⟨rfl, rfl⟩
  unfold EpAns
  obtain ⟨L, hL⟩ : ∃ L, epL t = L := ⟨_, rfl⟩
  obtain ⟨E, hE⟩ : ∃ E, epE t = E := ⟨_, rfl⟩
  obtain ⟨X, hX⟩ : ∃ X, say t = X := ⟨_, rfl⟩
  obtain ⟨I, hI⟩ : ∃ I, pkB t = I := ⟨_, rfl⟩
  obtain ⟨ck, hck⟩ : ∃ ck, chk t = ck := ⟨_, rfl⟩
  rw [hL, hE, hX, hI, hck] at HEN
  rw [hX, hI, hck] at HIT
  rw [hX, hck] at HSA
  rw [hck] at HCK
  rw [hL, hE]
  have HBB : Hid (∀ W, Box w t (.slice Ac mc cc) W → Below w.heap.size w W) := Lib.hid fun W hW => hW.b
  unfold vv at HCK HSA HIT ⊢
  clear hL hE hX hI hck hN hS hC hwf hle
  obtain ⟨c0, c1, c2, c3, c4⟩ := HBC.out _ HX0.out
  go_enter Try.func7, Try.ntmps7
  go_wp2_with fail
  refine (HCK.out _ HX0.out).mono ?_
  rintro e w3 ⟨rfl, hb3⟩
  have HB3 := Lib.hid hb3
  clear hb3 c0 c1 c2 c3 c4 HX0 HCK
  obtain ⟨c0, c1, c2, c3, c4⟩ := HBC.out _ HB3.out
  by_cases hc : ck = 0
  · subst hc
    have HS2 := Lib.hid (HSA.out rfl _ HB3.out)
    have HI2 := Lib.hid (HIT.out rfl)
    clear HIT HSA
    cases X with
    | true =>
      have HL : Hid (L = I ∧ E = 0) := Lib.hid (by have h7 := HEN.out; simp at h7; exact h7)
      have HI3 := Lib.hid (HI2.out rfl)
      clear HEN HI2
      go_wp2_with fail
      refine HS2.out.mono ?_
      rintro e w4 ⟨rfl, hb4⟩
      have HB4 := Lib.hid hb4
      clear hb4 c0 c1 c2 c3 c4 HS2 HB3
      obtain ⟨c0, c1, c2, c3, c4⟩ := HBC.out _ HB4.out
      go_wp2_with fail
      refine (HI3.out _ HB4.out).mono ?_
      rintro e w5 ⟨A, c, rfl, h5, hb5⟩
      have HG := Lib.hid (And.intro h5 hb5)
      clear h5 hb5 HI3 HB4 c0 c1 c2 c3 c4 HBC HBB
      go_wp2_with fail
      refine bodyPost_ret (v := .tuple #[.slice A I.length c, .int .i64 0]) (by simp [results, Try.results7, go_sem]) rfl ⟨A, c, ?_, ?_, HG.out.1.2.1, ?_, HG.out.2⟩
      · rw [HL.out.1, HL.out.2]; rfl
      · rw [HL.out.1]; exact HG.out.1.1
      · rw [HL.out.1]; exact HG.out.1.2.2
    | false =>
      have HL : Hid (L = [] ∧ E = 10) := Lib.hid (by have h7 := HEN.out; simp at h7; exact h7)
      clear HEN HI2
      go_wp2_with fail
      refine HS2.out.mono ?_
      rintro e w4 ⟨rfl, hb4⟩
      have HB5 := Lib.hid (HBB.out _ hb4)
      clear hb4 c0 c1 c2 c3 c4 HS2 HB3 HBC HBB
      go_wp2_with fail
      refine bodyPost_ret (v := .tuple #[.slice none 0 0, .int .i64 10]) (by simp [results, Try.results7, go_sem]) rfl ⟨none, 0, ?_, ?_, ?_, ?_, HB5.out⟩
      · rw [HL.out.1, HL.out.2]; rfl
      · rw [HL.out.1]; exact Nat.le_refl _
      · unfold maxLen; omega
      · rw [HL.out.1]; exact Rd.none_
  · have hne : ((ck : Int) != 0) = true := by simp; omega
    have HQ := Lib.hid (HBB.out _ HB3.out)
    have HL : Hid (L = [] ∧ E = ck) := Lib.hid ⟨by rw [HEN.out.1, if_neg (by omega)], by rw [HEN.out.2, if_neg hc]⟩
    clear HSA HIT HBC HBB c0 c1 c2 c3 c4 hc HEN
    go_wp2_with fail
    refine bodyPost_ret (v := .tuple #[.slice none 0 0, .int .i64 (ck : Int)]) (by simp [results, Try.results7, go_sem]) rfl ⟨none, 0, ?_, ?_, ?_, ?_, HQ.out⟩
    · rw [HL.out.1, HL.out.2]; rfl
    · rw [HL.out.1]; exact Nat.le_refl _
    · unfold maxLen; omega
    · rw [HL.out.1]; exact Rd.none_
theorem rpencode_txt (t : VT) (C : Value) (w : World) (hb : blk t ≤ 4000000) (hC : Lst w C t.l) (hwf : wfT t) :
    Calls Try.prog 7 #[vv t C] w fun e w' => ∃ A c, e = .returned (.tuple #[.slice A (epL t).length c, .int .i64 (epE t : Int)]) ∧ (∀ W, Below w'.heap.size w' W → (convert 26 9 (.slice A (epL t).length c)).run Try.prog W = .ok (.string ⟨(epL t).toArray⟩) W) ∧ Below w.heap.size w w' := by
  have h1 := cnt_blk t
  have h2 := smx_blk t
  have h3 := pkB_le t
  refine (rpencode_any t C w (by omega) (by omega) hC hwf (by omega)).mono fun e w' ⟨A, c, he, _, _, hr, hb⟩ => ⟨A, c, he, fun W hW => ?_, hb⟩
  have := conv_row A (epL t).length c (gL (epL t)) W (hr.below hW)
  rw [pc_list] at this
  exact this
set_option maxRecDepth 100000 in
set_option maxHeartbeats 8000000 in
theorem pencodes_any (t : VT) (C : Value) (w : World) (hC : Lst w C t.l) (hb : blk t ≤ 1048576) (hwt : wfT t) :
    Calls Try.prog 3 #[vv t C] w fun e w' => e = .returned (.bool true) ∧ Below w.heap.size w w' := by
  have HX0 := Lib.hid (Box.new w t C 25)
  have H1 : Hid (∀ W, Box w t C W → Calls Try.prog 6 #[vv t C] W fun e w' => ∃ A c, e = .returned (.tuple #[.slice A (epL t).length c, .int .i64 (epE t : Int)]) ∧ (∀ X, Below w'.heap.size w' X → (convert 26 9 (.slice A (epL t).length c)).run Try.prog X = .ok (.string ⟨(epL t).toArray⟩) X) ∧ Below W.heap.size W w' ∧ Box w t C w') := Lib.hid fun W hW =>
    (pencode_txt t C W (by omega) (hC.keep hW.b (Nat.le_refl _)) hwt).mono fun e w' ⟨A, c, he, h2, h3⟩ => ⟨A, c, he, h2, h3, hW.on h3⟩
  have H2 : Hid (∀ W, Box w t C W → Calls Try.prog 7 #[vv t C] W fun e w' => ∃ A c, e = .returned (.tuple #[.slice A (epL t).length c, .int .i64 (epE t : Int)]) ∧ (∀ X, Below w'.heap.size w' X → (convert 26 9 (.slice A (epL t).length c)).run Try.prog X = .ok (.string ⟨(epL t).toArray⟩) X) ∧ Below W.heap.size W w' ∧ Box w t C w') := Lib.hid fun W hW =>
    (rpencode_txt t C W (by omega) (hC.keep hW.b (Nat.le_refl _)) hwt).mono fun e w' ⟨A, c, he, h2, h3⟩ => ⟨A, c, he, h2, h3, hW.on h3⟩
  have HA := Lib.hid (fun W (_ : Below w.heap.size w W) => awake13 W)
  have HBC : Hid (∀ W, Box w t C W → (W.cell? ⟨w.heap.size, 0, none⟩ = some (.int .i64 t.k) ∧ W.cell? ⟨w.heap.size, 1, none⟩ = some (.bool t.g) ∧ W.cell? ⟨w.heap.size, 2, none⟩ = some (.int .u64 (t.n : Int)) ∧ W.cell? ⟨w.heap.size, 3, none⟩ = some (.string t.s) ∧ W.cell? ⟨w.heap.size, 4, none⟩ = some C) ∧ Below w.heap.size w W) := Lib.hid fun W hW => ⟨⟨hW.r.k, hW.r.g, hW.r.n, hW.r.s, hW.r.l⟩, hW.b⟩
  obtain ⟨⟨c0, c1, c2, c3, c4⟩, _⟩ := HBC.out _ HX0.out
  obtain ⟨X1, hX1⟩ : ∃ X : ByteArray, (⟨(epL t).toArray⟩ : ByteArray) = X := ⟨_, rfl⟩
  obtain ⟨n1, hn1⟩ : ∃ n, (epL t).length = n := ⟨_, rfl⟩
  obtain ⟨e1, he1⟩ : ∃ n, epE t = n := ⟨_, rfl⟩
  rw [hX1, hn1, he1] at H1 H2
  unfold vv at H1 H2 ⊢
  clear hX1 hn1 he1 hC hwt hb
  go_enter Try.func3, Try.ntmps3
  go_wp2_with fail
  refine (H1.out _ HX0.out).mono ?_
  rintro r w1 ⟨A1, k1, rfl, v1, b1, p1'⟩
  have HV1 := Lib.hid v1
  have HX1 := Lib.hid p1'
  clear c0 c1 c2 c3 c4 v1 b1 p1'
  obtain ⟨⟨c0, c1, c2, c3, c4⟩, _⟩ := HBC.out _ HX1.out
  go_wp2_with fail
  refine (H2.out _ HX1.out).mono ?_
  rintro r w2 ⟨A2, k2, rfl, v2, b2, p2'⟩
  have HV1' := Lib.hid (fun W (hW : Below w2.heap.size w2 W) => HV1.out W (b2.trans (hW.mono b2.size)))
  have HV2' := Lib.hid v2
  have HB2 := Lib.hid p2'.b
  clear c0 c1 c2 c3 c4 v2 b2 p2' HV1 HX0 HX1 H1 H2 HBC
  have g1 := HV1'.out w2 (Below.refl _ _)
  have g2 := HV2'.out w2 (Below.refl _ _)
  have HAA := Lib.hid (HA.out w2 HB2.out)
  clear HV1' HV2' HA
  go_wp2_with fail
  refine HAA.out.mono ?_
  rintro r w4 ⟨rfl, b4⟩
  have HB4 := Lib.hid (HB2.out.trans (b4.mono HB2.out.size))
  clear b4 g1 g2
  go_wp2_with fail
  go_ret
  exact ⟨rfl, HB4.out⟩
end Go.Proofs.Ytgadpmddbkimfaa.nn
namespace Go.Proofs.Ytgadpmddbkimfaa.nn
open Go.ChangeShapes Go.WideShapes Go.ChangeAt Go.RowKit

theorem Try.own : ownKnob Try.prog.godebug = none := by kernel_rfl
theorem Try.laidOut : laidOutB Try.prog = true := by kernel_rfl
theorem wf_i64 {n : Int} (h : (Lit.int .i64 n).wf = true) : -9223372036854775808 ≤ n ∧ n ≤ 9223372036854775807 := by
  have h1 : IntKind.i64.min = -9223372036854775808 := rfl
  have h2 : IntKind.i64.max = 9223372036854775807 := rfl
  simp only [Lit.wf, Bool.and_eq_true, decide_eq_true_eq] at h
  omega
theorem wf_u64 {n : Int} (h : (Lit.int .u64 n).wf = true) : 0 ≤ n ∧ n < ((18446744073709551616 : Nat) : Int) := by
  have h1 : IntKind.u64.min = 0 := rfl
  have h2 : IntKind.u64.max = 18446744073709551615 := rfl
  simp only [Lit.wf, Bool.and_eq_true, decide_eq_true_eq] at h
  omega
end Go.Proofs.Ytgadpmddbkimfaa.nn
namespace Go.Proofs.Ytgadpmddbkimfaa.nn
open Go.ChangeShapes Go.WideShapes Go.ChangeAt Go.RowKit

theorem Try.cellsV : Try.prog.cellsOf 25 = 5 := by kernel_rfl
theorem blk_add (b off i : Nat) : (⟨b, off, none⟩ : Addr).add i = ⟨b, off + i, none⟩ := by unfold Addr.add; split <;> simp_all
theorem bulkAll_app {H : Type} (l r : List (DataW H)) : Rows.uptoBulkAll (l ++ r) = Rows.uptoBulkAll l + Rows.uptoBulkAll r := by
  induction l with
  | nil => simp [Rows.uptoBulkAll]
  | cons x l ih => simp only [List.cons_append, Rows.uptoBulkAll, ih]; omega
theorem bulkAll_at {H : Type} {l : List (DataW H)} {x : DataW H} (h : x ∈ l) : Rows.uptoBulk x ≤ Rows.uptoBulkAll l := by
  induction l with
  | nil => cases h
  | cons y r ih =>
    simp only [Rows.uptoBulkAll]
    rcases List.mem_cons.1 h with rfl | h
    · omega
    · have := ih h; omega
theorem blkL_app (a b : List VT) : blkL (a ++ b) + 1 = blkL a + blkL b := by
  induction a with
  | nil => simp only [List.nil_append, blkL]; omega
  | cons t r ih => simp only [List.cons_append, blkL]; omega
theorem wfL_all {l : List VT} (h : ∀ t ∈ l, wfT t) : wfL l := by
  induction l with
  | nil => trivial
  | cons t r ih => exact ⟨h t (by simp), ih fun x hx => h x (by simp [hx])⟩
section
variable {H : Type} {enc : TypeId × Value → H} {W : World}

set_option maxRecDepth 100000 in
/-- a value's five cells -/
theorem open_cells {fuel : Nat} {cs : List Value} {x : DataW H × List MemPlace} (h : DataW.trod enc Try.prog W 0 (fun _ => true) true fuel 25 cs = some x) :
    ∃ (k : Int) (g : Bool) (n : Nat) (s : ByteArray) (C : Value) (y : DataW H × List MemPlace) (f : Nat), cs = [.int .i64 k, .bool g, .int .u64 (n : Int), .string s, C] ∧ (-9223372036854775808 ≤ k ∧ k ≤ 9223372036854775807 ∧ n < 18446744073709551616) ∧
      DataW.trod enc Try.prog W 0 (fun _ => true) true f 23 [C] = some y ∧ Rows.uptoBulk x.1 = s.size + Rows.uptoBulk y.1 + 5 ∧ ∀ q ∈ y.2, q ∈ x.2 := by
  obtain ⟨xs, n, _, hx, hlen, hxl, hf⟩ := DataW.trod_struct Try.underlying25 h
  rw [Try.cellsV] at hlen
  match cs, hlen with
  | [c0, c1, c2, c3, c4], _ =>
    match xs, hxl with
    | [y0, y1, y2, y3, y4], _ =>
      have f0 := hf 0 _ rfl
      have f1 := hf 1 _ rfl
      have f2 := hf 2 _ rfl
      have f3 := hf 3 _ rfl
      have f4 := hf 4 _ rfl
      simp only [List.getElem?_cons_zero, List.getElem?_cons_succ] at f0 f1 f2 f3 f4
      obtain ⟨k, e0, z0, w0⟩ := DataW.trod_int Try.underlying3 f0
      obtain ⟨g, e1, z1⟩ := DataW.trod_bool Try.underlying4 f1
      obtain ⟨u, e2, z2, w2⟩ := DataW.trod_int Try.underlying22 f2
      obtain ⟨s, e3, z3, _⟩ := DataW.trod_string Try.underlying9 f3
      have hk := wf_i64 w0
      have hu := wf_u64 w2
      obtain ⟨m, rfl⟩ := Int.eq_ofNat_of_zero_le hu.1
      injection e0 with e0 _
      injection e1 with e1 _
      injection e2 with e2 _
      injection e3 with e3 _
      subst e0 e1 e2 e3 z0 z1 z2 z3 hx
      refine ⟨k, g, m, s, c4, y4, n, rfl, ⟨hk.1, hk.2, by omega⟩, f4, ?_, ?_⟩
      · simp only [List.map_cons, List.map_nil, Rows.uptoBulk, Rows.uptoBulkAll, Array.length_toList]
        show _ = s.data.size + _ + 5
        omega
      · intro q hq
        simp [hq]
theorem open_list (B : Nat) : ∀ (fuel : Nat) (cs : List Value) (x : DataW H × List MemPlace), DataW.trod enc Try.prog W 0 (fun _ => true) true fuel 23 cs = some x → Rows.uptoBulk x.1 ≤ B → (∀ q ∈ x.2, q.block < W.heap.size) →
    ∃ (v : Value) (l : List VT), cs = [v] ∧ Lst W v l ∧ blkL l ≤ Rows.uptoBulk x.1 ∧ wfL l := by
  induction B with
  | zero =>
    intro fuel cs x h hB _
    rcases Go.Deep.open_slice Try.underlying23 h with ⟨rfl, rfl⟩ | ⟨a, len, cap, m, n, D, Pl, hcs, _, hl, hm, hmm, hx, hi⟩
    · exact ⟨_, [], rfl, .nil_, by simp [blkL, Rows.uptoBulk], trivial⟩
    · subst hx
      simp only [Rows.uptoBulk] at hB
      omega
  | succ B ih =>
    intro fuel cs x h hB hp
    rcases Go.Deep.open_slice Try.underlying23 h with ⟨rfl, rfl⟩ | ⟨a, len, cap, m, n, D, Pl, hcs, _, hl, hm, hmm, hx, hi⟩
    · exact ⟨_, [], rfl, .nil_, by simp [blkL, Rows.uptoBulk], trivial⟩
    · subst hcs hx
      simp only [if_true] at hmm
      subst hmm
      rw [Try.cellsV] at hi hp
      rcases Nat.eq_zero_or_pos len with h0 | h0
      · subst h0
        exact ⟨_, [], rfl, .nil_, by simp only [blkL, Rows.uptoBulk]; omega, trivial⟩
      · have hc0 : 0 < m := by omega
        obtain ⟨cs0, q1, _⟩ := hi 0 hc0
        obtain ⟨b, off, spot⟩ := a
        obtain ⟨_, ql, qc⟩ := World.cells?_some q1
        have hsp : spot = none := by
          have h1 := qc 0 (by omega)
          rw [show (cs0[0]? : Option Value) = some (cs0[0]'(by omega)) from List.getElem?_eq_getElem (by omega)] at h1
          simpa [Addr.add] using World.cell?_spot h1
        subst hsp
        have hb : b < W.heap.size := hp (.cell b off) (List.mem_append.2 (.inl (MemPlace.mem_row.2 ⟨0, by omega, by simp⟩)))
        simp only [Rows.uptoBulk] at hB
        have key : ∀ i, i < len → ∃ (t : VT) (C : Value), Row W b (off + i * 5) t C ∧ Lst W C t.l ∧ blk t ≤ Rows.uptoBulk (D i) ∧ wfT t := by
          intro i hil
          obtain ⟨cs', h1, h2⟩ := hi i (by omega)
          obtain ⟨_, hcl, hat⟩ := World.cells?_some h1
          obtain ⟨k, g, u, s, C, y, f, rfl, hw, hy, hbk, hpl⟩ := open_cells h2
          dsimp only at hbk
          have hmem : D i ∈ (List.range len).map D := List.mem_map.2 ⟨i, List.mem_range.2 hil, rfl⟩
          have hle := bulkAll_at hmem
          obtain ⟨v, l, hv, hL, hbl, hwl⟩ := ih f [C] y hy (by omega) (fun q hq => hp q (List.mem_append.2 (.inr (List.mem_flatMap.2 ⟨i, List.mem_range.2 (by omega), hpl q hq⟩))))
          simp only [List.cons.injEq, and_true] at hv
          subst hv
          refine ⟨.mk k g u s l, C, ⟨?_, ?_, ?_, ?_, ?_⟩, hL, ?_, (wfT_mk _).2 ⟨hw.1, hw.2.1, hw.2.2, hwl⟩⟩
          · have := hat 0 (by omega)
            rw [blk_add, blk_add] at this
            show W.cell? _ = some (.int .i64 k)
            simpa using this
          · have := hat 1 (by omega)
            rw [blk_add, blk_add] at this
            show W.cell? _ = some (.bool g)
            simpa using this
          · have := hat 2 (by omega)
            rw [blk_add, blk_add] at this
            show W.cell? _ = some (.int .u64 (u : Int))
            simpa using this
          · have := hat 3 (by omega)
            rw [blk_add, blk_add] at this
            show W.cell? _ = some (.string s)
            simpa using this
          · have := hat 4 (by omega)
            rw [blk_add, blk_add] at this
            show W.cell? _ = some (C)
            simpa using this
          · rw [blk_mk]
            show s.size + blkL l + 5 ≤ _
            rw [hbk]
            omega
        have key2 : ∀ i, ∃ (t : VT) (C : Value), i < len → Row W b (off + i * 5) t C ∧ Lst W C t.l ∧ blk t ≤ Rows.uptoBulk (D i) ∧ wfT t := fun i => by
          by_cases hil : i < len
          · obtain ⟨t, C, h⟩ := key i hil
            exact ⟨t, C, fun _ => h⟩
          · exact ⟨VT.mk 0 false 0 ⟨#[]⟩ [], .bool false, fun h => absurd h hil⟩
        obtain ⟨T, hT⟩ := Classical.axiomOfChoice key2
        obtain ⟨CC, hCC⟩ := Classical.axiomOfChoice hT
        have hlen : ((List.range len).map T).length = len := by simp
        have hget : ∀ i (h : i < ((List.range len).map T).length), ((List.range len).map T)[i] = T i := fun i h => by simp
        refine ⟨_, (List.range len).map T, rfl, .at_ (C := CC) hlen hl hb (fun i h => ?_) (fun i h => ?_), ?_, ?_⟩
        · rw [hget i h]; exact (hCC i (by omega)).1
        · rw [hget i h]; exact (hCC i (by omega)).2.1
        · have hs : ∀ j, j ≤ len → blkL ((List.range j).map T) ≤ Rows.uptoBulkAll ((List.range j).map D) + 1 := fun j hj => by
            induction j with
            | zero => simp [blkL, Rows.uptoBulkAll]
            | succ j ihj =>
              have h1 := ihj (by omega)
              have h2 := (hCC j (by omega)).2.2.1
              rw [List.range_succ, List.map_append, List.map_append, bulkAll_app]
              have h3 := blkL_app ((List.range j).map T) [T j]
              have h4 : blkL [T j] = blk (T j) + 1 := rfl
              simp only [List.map_cons, List.map_nil, Rows.uptoBulkAll]
              omega
          have := hs len (Nat.le_refl _)
          simp only [Rows.uptoBulk]
          omega
        · exact wfL_all fun t ht => by
            obtain ⟨i, hi, rfl⟩ := List.mem_map.1 ht
            exact (hCC i (List.mem_range.1 hi)).2.2.2
set_option maxRecDepth 100000 in
/-- an argument that is a tree -/
theorem open_val {base : Nat} {v : Value} {d : DataW H} {p : List MemPlace} (hok : Value.okWide Try.prog W .any base 25 v) (h : DataW.Trod enc Try.prog W 0 (fun _ => true) true 25 v d p) (hlt : ∀ x ∈ p, x.block < W.heap.size) :
    ∃ (t : VT) (C : Value), v = vv t C ∧ Lst W C t.l ∧ blk t ≤ Rows.uptoBulk d ∧ wfT t := by
  obtain ⟨cs, rfl, hsz⟩ := okWide_struct Try.underlying25 hok
  obtain ⟨fuel, hf⟩ := h
  have hcl : (Value.agg cs).cells.toList = cs.toList := by simp [Value.cells]
  rw [hcl] at hf
  obtain ⟨k, g, u, s, C, y, f, hcs, hw, hy, hbk, hpl⟩ := open_cells hf
  obtain ⟨v, l, hv, hL, hbl, hwl⟩ := open_list _ f [C] y hy (Nat.le_refl _) (fun q hq => hlt q (hpl q hq))
  simp only [List.cons.injEq, and_true] at hv
  subst hv
  refine ⟨.mk k g u s l, C, ?_, hL, ?_, (wfT_mk _).2 ⟨hw.1, hw.2.1, hw.2.2, hwl⟩⟩
  · unfold vv
    congr 1
    rw [← Array.toArray_toList (xs := cs), hcs]
    rfl
  · rw [blk_mk]
    show s.size + blkL l + 5 ≤ _
    dsimp only at hbk
    rw [hbk]
    omega
end
end Go.Proofs.Ytgadpmddbkimfaa.nn
