/- Joined texts, what is wanted of them: RefRight, RefChk, PkA, PkW, PkX, PkI, PkE, PkN, PkN2, PkM, PkO, Path, It, GoA. -/
import Derived.Below
import Derived.Laws.OwnMore
import Derived.Deep.AppendLies
import Derived.Deep.Draws
import Derived.Maps.AppendAt
import Derived.RegionTactic
import Derived.OwnWalk
import Derived.Deep.RegionLaw
import Derived.WalkKit
import Derived.Test.YtgadpmddbkimfaaProg
import Derived.Laws.BytesArg
import Derived.Lib.UnsafeStr
import Derived.Lib.AppendStr
import Derived.Lib.Hide
import Derived.Lib.MinMax
import Derived.Deep.QuietTactic
import Derived.BigQuiet
import Derived.IntWalk
import Derived.Laws.Rows
import Derived.WalkSpells
import Derived.Deep.RegionHeld3
import Derived.Laws.BitsAllLaws
import Derived.Test.YtgadpmddbkimfaaShelf
import Derived.Deep.RegionWith
import Derived.Lib.BitFns
import Derived.Deep.CutBlock
import Derived.Deep.DeepCutAuto
import Derived.KernelRfl
import Derived.Deep.WholeRow
import Derived.Great.Walk
import Derived.StillTailTactics
import Derived.Lib.Builder
import Derived.Shelf.RegionOpen
import Derived.Laws.AppendOwn
import Derived.RangeFuncNested
import Derived.RangeFuncBound
import Derived.RangeFuncCalls
import Derived.RangeFuncLeaves
import Derived.Shelf.Abstract
import Derived.OwnWalkIn
import Derived.TacticsInMore
import Derived.RowKit
import Derived.Test.YtgadpmddbkimfaaRows
import Derived.ProofKit
import Derived.SizedLaws
import Derived.ChangeMaps5
import Derived.Deep.Slices
import Derived.Deep.Fields
import Derived.Test.YtgadpmddbkimfaaLa
namespace Go.Proofs.Ytgadpmddbkimfaa.nn
open Go.RowKit

theorem lone (l : List VT) (h : l.length = 1) : l = [l[0]'(by omega)] := by
  match l, h with
  | [_], _ => rfl
theorem rone_any (t : VT) (C : Value) (w : World) (hC : Lst w C t.l) (hs : t.s.size ≤ maxLen) (hn : t.l.length ≤ 4611686018427387904) :
    Calls Try.prog 47 #[vv t C] w fun e w' => e = .returned (.bool (oneB t)) ∧ Below w.heap.size w w' := by
  by_cases k0 : t.k = 0
  · rw [show oneB t = _ from by unfold oneB; rw [if_pos (by omega)]]; exact one_0 t C w k0
  by_cases k2 : t.k = 2
  · rw [show oneB t = _ from by unfold oneB; rw [if_pos (by omega)]]; exact one_2 t C w k2
  by_cases k11 : t.k = 11
  · rw [show oneB t = _ from by unfold oneB; rw [if_pos (by omega)]]; exact one_11 t C w k11
  have e0 : ¬ (t.k = 0 ∨ t.k = 2 ∨ t.k = 11) := by omega
  unfold oneB
  rw [if_neg e0]
  by_cases k1 : t.k = 1
  · rw [if_pos k1]; exact one_1 t C w k1
  rw [if_neg k1]
  by_cases k3 : t.k = 3
  · rw [if_pos k3]; exact one_3 t C w k3
  rw [if_neg k3]
  by_cases k4 : t.k = 4
  · rw [if_pos k4]; exact one_4 t C w k4
  rw [if_neg k4]
  by_cases k5 : t.k = 5
  · rw [if_pos k5]; exact one_5 t C w k5
  rw [if_neg k5]
  by_cases k6 : t.k = 6
  · rw [if_pos k6]; exact one_6 t C w k6
  rw [if_neg k6]
  by_cases k7 : t.k = 7
  · rw [if_pos k7]; exact one_7 t C w k7
  rw [if_neg k7]
  by_cases k8 : t.k = 8
  · rw [if_pos k8]; exact one_8 t C w k8
  rw [if_neg k8]
  by_cases k9 : t.k = 9
  · rw [if_pos k9]; exact one_9 t C w k9
  rw [if_neg k9]
  by_cases k10 : t.k = 10
  · rw [if_pos k10]; exact one_10 t C w k10 hs
  rw [if_neg k10]
  obtain ⟨A, c, hv, hlc, hA⟩ := hC.out
  by_cases k12 : t.k = 12
  · rw [if_pos k12]; exact one_12 t C w k12 A _ c hv hn
  rw [if_neg k12]
  by_cases k13 : t.k = 13
  · rw [if_pos k13]
    by_cases h1 : t.l.length = 1
    · rcases hA with ⟨_, h0, _⟩ | ⟨b, off, D, rfl, hb, hrow, hkid⟩
      · rw [h0] at h1; cases h1
      · have hr := hrow 0 (by omega)
        have hl := lone t.l h1
        have hg : guise t.n t.l = (decide (t.n = 2 ∨ t.n = 3) && (decide ((t.l[0]'(by omega)).k = 9) && big (t.l[0]'(by omega)).s)) := by
          conv => lhs; rw [hl]
          rfl
        rw [decide_eq_true h1, hg, Bool.and_true]
        rw [h1] at hv
        exact one_13b t C w k13 b off c _ (D 0) hv hb (by simpa using hr)
    · rw [decide_eq_false h1]
      have := one_13a t C w k13 A _ c hv h1
      simpa using this
  rw [if_neg k13]
  by_cases k14 : t.k = 14
  · rw [if_pos k14]; exact one_14 t C w k14
  rw [if_neg k14]
  exact one_none t C w fun j hj h => by omega

mutual
/-- is all of a tree right -/
def rgt : VT → Bool | .mk k g n s l => oneB (.mk k g n s l) && (!(lf k) || decide (l.length = 0)) && rgtL l
def rgtL : List VT → Bool | [] => true | t :: r => rgt t && rgtL r
end
theorem rgt_mk (t : VT) : rgt t = (oneB t && (!(lf t.k) || decide (t.l.length = 0)) && rgtL t.l) := by cases t; rfl
theorem rgtL_app (a b : List VT) : rgtL (a ++ b) = (rgtL a && rgtL b) := by
  induction a with
  | nil => simp [rgtL]
  | cons t r ih => simp only [List.cons_append, rgtL, ih, Bool.and_assoc]
theorem rgtL_take_succ {l : List VT} {i : Nat} (h : i < l.length) : rgtL (l.take (i + 1)) = (rgtL (l.take i) && rgt l[i]) := by
  rw [List.take_succ_eq_append_getElem h, rgtL_app]
  simp [rgtL]
theorem rgtL_no {l : List VT} {i : Nat} (h : i < l.length) (hn : rgt l[i] = false) : rgtL l = false := by
  have h1 := rgtL_take_succ h
  have h2 := rgtL_app (l.take (i + 1)) (l.drop (i + 1))
  rw [List.take_append_drop, h1, hn] at h2
  rw [h2]
  simp
mutual
/-- the longest text -/
def smx : VT → Nat | .mk _ _ _ s l => max s.size (smxL l)
def smxL : List VT → Nat | [] => 0 | t :: r => max (smx t) (smxL r)
end
theorem smx_mk (t : VT) : smx t = max t.s.size (smxL t.l) := by cases t; rfl
mutual
theorem smx_blk : ∀ t : VT, smx t ≤ blk t
  | .mk _ _ _ s l => by have := smxL_blkL l; simp only [smx, blk]; omega
theorem smxL_blkL : ∀ l : List VT, smxL l ≤ blkL l
  | [] => by simp [smxL]
  | t :: r => by have h1 := smx_blk t; have h2 := smxL_blkL r; simp only [smxL, blkL]; omega
end
theorem smx_at {l : List VT} {i : Nat} (h : i < l.length) : smx l[i] ≤ smxL l := by
  induction l generalizing i with
  | nil => simp at h
  | cons t r ih =>
    cases i with
    | zero => simp only [smxL, List.getElem_cons_zero]; omega
    | succ i => have := ih (i := i) (by simpa using h); simp only [smxL, List.getElem_cons_succ]; omega

set_option maxRecDepth 100000 in
set_option maxHeartbeats 2000000 in
theorem rright_any (N : Nat) : ∀ (t : VT) (C : Value) (w : World), cnt t ≤ N → N ≤ 4611686018427387904 → smx t ≤ maxLen → Lst w C t.l →
    Calls Try.prog 34 #[vv t C] w fun e w' => e = .returned (.bool (rgt t)) ∧ Below w.heap.size w w' := by
  induction N with
  | zero => intro t C w h _ _ _; have := cnt_mk t; omega
  | succ N ih =>
    intro t C w hN hM hS hC
    have hdm := rgt_mk t
    have hcm := cnt_mk t
    have hll := len_cntL t.l
    have hsm := smx_mk t
    have HB0 := Lib.hid (Box.new w t C 25)
    have ho := rone_any t C (w.alloc (.cells #[.int .i64 t.k, .bool t.g, .int .u64 (t.n : Int), .string t.s, C] 25)) (hC.keep HB0.out.b (Nat.le_refl _)) (by omega) (by omega)
    have hkk := @rleaf_any t C
    obtain ⟨O, hO⟩ : ∃ O, oneB t = O := ⟨_, rfl⟩
    rw [hO] at ho hdm
    cases O with
    | false =>
      have HT : Hid (rgt t = false) := Lib.hid (by rw [hdm]; simp)
      have HO := Lib.hid ho
      unfold vv at HO ⊢
      clear hdm hkk ho hO ih
      go_enter Try.func34, Try.ntmps34
      go_wp2_with fail
      refine HO.out.mono ?_
      rintro e w2 ⟨rfl, hb2⟩
      have hk2 := Lib.hid (HB0.out.on hb2)
      clear hb2
      go_wp2_with fail
      go_ret
      exact ⟨by rw [HT.out]; rfl, hk2.out.b⟩
    | true =>
      obtain ⟨L, hL⟩ : ∃ L, lf t.k = L := ⟨_, rfl⟩
      rw [hL] at hkk hdm
      have HO := Lib.hid ho
      have HK := Lib.hid hkk
      have HC := Lib.hid hC
      obtain ⟨A, c, rfl, hlc, hA⟩ := hC.out
      obtain ⟨l, hl⟩ : ∃ l, t.l = l := ⟨_, rfl⟩
      rw [hl] at hlc hA hcm HC hdm HK hsm hll HO HB0 ⊢
      have HSm := Lib.hid hsm
      unfold vv at HO HK ⊢
      clear ho hkk hO hL hsm
      by_cases hlen : L = true ∧ l.length ≠ 0
      · obtain ⟨rfl, hl0⟩ := hlen
        have HT : Hid (rgt t = false) := Lib.hid (by rw [hdm]; simp [hl0])
        have q0 : ((l.length : Int) != 0) = true := by simp; intro h; exact hl0 (by simp [h])
        clear hdm ih hl0
        go_enter Try.func34, Try.ntmps34
        go_wp2_with fail
        refine HO.out.mono ?_
        rintro e w2 ⟨rfl, hb2⟩
        have hk2 := Lib.hid (HB0.out.on hb2)
        have r0 := hk2.out.r.k
        have r1 := hk2.out.r.g
        have r2 := hk2.out.r.n
        have r3 := hk2.out.r.s
        have r4 := hk2.out.r.l
        clear hb2
        go_wp2_with fail
        refine (HK.out _).mono ?_
        rintro e w3 ⟨rfl, hb3⟩
        have hk3 := Lib.hid (hk2.out.on hb3)
        have r4' := hk3.out.r.l
        clear hb3 r0 r1 r2 r3 r4
        go_wp2_with fail
        go_ret
        exact ⟨by rw [HT.out]; rfl, hk3.out.b⟩
      · have hT : rgt t = rgtL l := by
          rw [hdm]
          cases L
          · simp
          · have : l.length = 0 := by
              rcases Nat.eq_zero_or_pos l.length with h | h
              · exact h
              · exact absurd ⟨rfl, by omega⟩ hlen
            simp [this]
        have HT := Lib.hid hT
        have hq : L = false ∨ (L = true ∧ ((l.length : Int) != 0) = false) := by
          cases L
          · exact .inl rfl
          · refine .inr ⟨rfl, ?_⟩
            have : l.length = 0 := by
              rcases Nat.eq_zero_or_pos l.length with h | h
              · exact h
              · exact absurd ⟨rfl, by omega⟩ hlen
            rw [this]; rfl
        clear hdm hT hlen
        rcases hq with rfl | ⟨rfl, hq⟩
        all_goals
          go_enter Try.func34, Try.ntmps34
          go_wp2_with fail
          refine HO.out.mono ?_
          rintro e w2 ⟨rfl, hb2⟩
          have hk2 := Lib.hid (HB0.out.on hb2)
          have r0 := hk2.out.r.k
          have r1 := hk2.out.r.g
          have r2 := hk2.out.r.n
          have r3 := hk2.out.r.s
          have r4 := hk2.out.r.l
          clear hb2
          go_wp2_with fail
          refine (HK.out _).mono ?_
          rintro e w3 ⟨rfl, hb3⟩
          have hk3 := Lib.hid (hk2.out.on hb3)
          have r4' := hk3.out.r.l
          clear hb3 r0 r1 r2 r3 r4
          go_wp2_with fail
          clear r4'
          try clear hq
          go_loopw [3] (fun s3 wr => ∃ i : Nat, i ≤ l.length ∧ s3 = .int .i64 (i : Int) ∧ Hid (rgtL (l.take i) = true) ∧ Hid (Box w t (.slice A l.length c) wr)) (fun s3 _ => l.length - (intOf s3).toNat)
          case atStart => exact ⟨0, Nat.zero_le _, rfl, Lib.hid rfl, hk3⟩
          case round =>
            obtain ⟨i, hi, rfl, hm, hk⟩ := hrel
            have h4 : wr.cell? ⟨w.heap.size, 4, none⟩ = some (.slice A l.length c) := hk.out.r.l
            by_cases hlt : i < l.length
            · rcases hA with ⟨_, h0, _⟩ | ⟨b, off, D, rfl, hb, hrow, hkid⟩
              · rw [h0] at hlt; exact absurd hlt (by simp)
              · obtain ⟨t', ht'⟩ : ∃ t', l[i] = t' := ⟨_, rfl⟩
                obtain ⟨C', hC'⟩ : ∃ C', D i = C' := ⟨_, rfl⟩
                have hr := hrow i hlt
                have hkl := hkid i hlt
                rw [ht', hC'] at hr hkl
                have hr2 := hr.below hk.out.b hb
                have r0 := hr2.k
                have r1 := hr2.g
                have r2 := hr2.n
                have r3 := hr2.s
                have r4 := hr2.l
                have hcn := cnt_at hlt
                have hsx := smx_at hlt
                have hsum := rgtL_take_succ hlt
                have hno := fun h => rgtL_no hlt h
                rw [ht'] at hcn hsx hsum hno
                rw [hm.out, Bool.true_and] at hsum
                have HI := Lib.hid (ih t' C' wr (by omega) (by omega) (by have := HSm.out; omega) (hkl.keep hk.out.b (Nat.le_refl _)))
                obtain ⟨R, hR⟩ : ∃ R, rgt t' = R := ⟨_, rfl⟩
                rw [hR] at HI hsum hno
                unfold vv at HI
                clear hr hr2 hkl hrow hkid ht' hC' hcn hsx ih hR
                cases R
                · have HN : Hid (rgtL l = false) := Lib.hid (hno rfl)
                  clear hno hsum
                  go_wp2_with fail
                  refine HI.out.mono ?_
                  rintro e w5 ⟨rfl, hb2⟩
                  have hk2 := Lib.hid (hk.out.on hb2)
                  clear hb2 r0 r1 r2 r3 r4 h4
                  go_wp2_with fail
                  go_ret
                  exact ⟨by rw [HT.out, HN.out]; rfl, hk2.out.b⟩
                · have hm2 := Lib.hid hsum
                  clear hno hsum
                  go_wp2_with fail
                  refine HI.out.mono ?_
                  rintro e w5 ⟨rfl, hb2⟩
                  have hk2 := Lib.hid (hk.out.on hb2)
                  clear hb2 r0 r1 r2 r3 r4 h4
                  go_wp2_with fail
                  go_roundw
                  case rel => exact ⟨i + 1, hlt, by go_num, hm2, hk2⟩
                  case measure => simp [intOf]; omega
            · obtain rfl : i = l.length := by omega
              have HN : Hid (rgtL l = true) := Lib.hid (by have := hm.out; rwa [List.take_length] at this)
              go_wp2_with fail
              go_ret
              exact ⟨by rw [HT.out, HN.out]; rfl, hk.out.b⟩
end Go.Proofs.Ytgadpmddbkimfaa.nn
namespace Go.Proofs.Ytgadpmddbkimfaa.nn
open Go.RowKit

/-- what Check answers of a tree -/
def chk (t : VT) : Nat := if 64 < dep t ∨ 65536 < cnt t then 2 else if rgt t then 0 else 9
set_option maxRecDepth 100000 in
set_option maxHeartbeats 2000000 in
theorem rchk_any (t : VT) (C : Value) (w : World) (hN : cnt t ≤ 4611686018427387904) (hS : smx t ≤ maxLen) (hC : Lst w C t.l) :
    Calls Try.prog 16 #[vv t C] w fun e w' => e = .returned (.int .i64 (chk t : Int)) ∧ Below w.heap.size w w' := by
  have HB0 := Lib.hid (Box.new w t C 25)
  have HD : Hid (∀ W, Box w t C W → Calls Try.prog 32 #[vv t C] W fun e w' => e = .returned (.int .i64 (dep t : Int)) ∧ Box w t C w') := Lib.hid fun W hW =>
    (rdepth_any _ t C W hN (Nat.le_refl _) (hC.keep hW.b (Nat.le_refl _))).mono fun e w' ⟨he, hb⟩ => ⟨he, hW.on hb⟩
  have HK : Hid (∀ W, Box w t C W → Calls Try.prog 33 #[vv t C] W fun e w' => e = .returned (.int .i64 (cnt t : Int)) ∧ Box w t C w') := Lib.hid fun W hW =>
    (rcount_any _ t C W hN (Nat.le_refl _) (hC.keep hW.b (Nat.le_refl _))).mono fun e w' ⟨he, hb⟩ => ⟨he, hW.on hb⟩
  have HR : Hid (∀ W, Box w t C W → Calls Try.prog 34 #[vv t C] W fun e w' => e = .returned (.bool (rgt t)) ∧ Box w t C w') := Lib.hid fun W hW =>
    (rright_any _ t C W hN (Nat.le_refl _) hS (hC.keep hW.b (Nat.le_refl _))).mono fun e w' ⟨he, hb⟩ => ⟨he, hW.on hb⟩
  have hdb := dep_le t
  have hch : chk t = if 64 < dep t ∨ 65536 < cnt t then 2 else if rgt t then 0 else 9 := rfl
  obtain ⟨c, hc⟩ : ∃ c, chk t = c := ⟨_, rfl⟩
  obtain ⟨d, hd⟩ : ∃ c, dep t = c := ⟨_, rfl⟩
  obtain ⟨n, hn⟩ : ∃ c, cnt t = c := ⟨_, rfl⟩
  obtain ⟨r, hr⟩ : ∃ c, rgt t = c := ⟨_, rfl⟩
  rw [hc, hd, hn, hr] at hch
  rw [hd] at HD hdb
  rw [hn] at HK hN hdb
  rw [hr] at HR
  rw [hc]
  unfold vv at HD HK HR ⊢
  clear hc hd hn hr hC hS
  by_cases h1 : 64 < d
  · rw [if_pos (.inl h1)] at hch
    subst hch
    go_enter Try.func16, Try.ntmps16
    go_wp2_with fail
    refine (HD.out _ HB0.out).mono ?_
    rintro e w2 ⟨rfl, hb2⟩
    go_wp2_with fail
    go_ret
    exact ⟨rfl, hb2.b⟩
  · by_cases h2 : 65536 < n
    · rw [if_pos (.inr h2)] at hch
      subst hch
      go_enter Try.func16, Try.ntmps16
      go_wp2_with fail
      refine (HD.out _ HB0.out).mono ?_
      rintro e w2 ⟨rfl, hb2⟩
      have r0 := hb2.r.k
      have r1 := hb2.r.g
      have r2 := hb2.r.n
      have r3 := hb2.r.s
      have r4 := hb2.r.l
      go_wp2_with fail
      refine (HK.out _ hb2).mono ?_
      rintro e w3 ⟨rfl, hb3⟩
      clear r0 r1 r2 r3 r4
      go_wp2_with fail
      go_ret
      exact ⟨rfl, hb3.b⟩
    · rw [if_neg (by omega)] at hch
      cases r
      all_goals
        first | rw [if_pos rfl] at hch | rw [if_neg (by decide)] at hch
        subst hch
        go_enter Try.func16, Try.ntmps16
        go_wp2_with fail
        refine (HD.out _ HB0.out).mono ?_
        rintro e w2 ⟨rfl, hb2⟩
        have r0 := hb2.r.k
        have r1 := hb2.r.g
        have r2 := hb2.r.n
        have r3 := hb2.r.s
        have r4 := hb2.r.l
        go_wp2_with fail
        refine (HK.out _ hb2).mono ?_
        rintro e w3 ⟨rfl, hb3⟩
        clear r0 r1 r2 r3 r4
        have r0 := hb3.r.k
        have r1 := hb3.r.g
        have r2 := hb3.r.n
        have r3 := hb3.r.s
        have r4 := hb3.r.l
        go_wp2_with fail
        refine (HR.out _ hb3).mono ?_
        rintro e w4 ⟨rfl, hb4⟩
        clear r0 r1 r2 r3 r4
        go_wp2_with fail
        go_ret
        exact ⟨rfl, hb4.b⟩
end Go.Proofs.Ytgadpmddbkimfaa.nn
namespace Go.Proofs.Ytgadpmddbkimfaa.nn

/-- the lowest w bytes of n, the highest first -/
def lwP (n w : Nat) : List UInt8 := lsF (fun i => n / 256 ^ (w - 1 - i) % 256) w
theorem lwP_len (n w : Nat) : (lwP n w).length = w := lsF_len _ _
/-- how often a width is doubled till it has room for n -/
def lsK (n w : Nat) : Nat := if n < 256 ^ w then 0 else if n < 256 ^ (2 * w) then 1 else if n < 256 ^ (4 * w) then 2 else 3
theorem lsK_le (n w : Nat) : lsK n w ≤ 3 := by
  unfold lsK
  split
  · omega
  · split
    · omega
    · split <;> omega
/-- a first byte and a number behind it -/
def phP (first w n : Nat) : List UInt8 := UInt8.ofNat (first + lsK n w) :: lwP n (w * 2 ^ lsK n w)
/-- a whole number -/
def pnP (g : Bool) (n : Nat) : List UInt8 :=
  if g then (if n ≤ 31 then lwP (18446744073709551615 - n) 1 else UInt8.ofNat (208 + lsK (2 * n) 1) :: lwP (18446744073709551615 - n) (2 ^ lsK (2 * n) 1))
  else if n < 128 then [UInt8.ofNat n] else phP 204 1 n
def ptP (s : ByteArray) : List UInt8 := (if s.size < 32 then [UInt8.ofNat (160 + s.size)] else phP 217 1 s.size) ++ s.data.toList
def pbP (s : ByteArray) : List UInt8 := phP 196 1 s.size ++ s.data.toList
def pmP (few first c : Nat) : List UInt8 := if c < 16 then [UInt8.ofNat (few + c)] else phP first 2 c
/-- the head of a KExt -/
def peP (m : Nat) : List UInt8 := if m = 1 then [212] else if m = 2 then [213] else if m = 4 then [214] else if m = 8 then [215] else if m = 16 then [216] else phP 199 1 m
def pxP (n : Nat) (s : ByteArray) : List UInt8 := peP s.size ++ [UInt8.ofNat (n % 256)] ++ s.data.toList
/-- an item, those within it given -/
def pkH (k : Int) (g : Bool) (n : Nat) (s : ByteArray) (c : Nat) (L : List UInt8) : List UInt8 :=
  if k = 0 then [192] else if k = 1 then [UInt8.ofNat (194 + n)] else if k = 4 then pnP g n else if k = 7 then 202 :: lwP n 4 else if k = 8 then 203 :: lwP n 8
  else if k = 9 then pbP s else if k = 10 then ptP s else if k = 11 then pmP 144 220 c ++ L else if k = 12 then pmP 128 222 (c / 2) ++ L else pxP n s
mutual
def pkB : VT → List UInt8 | .mk k g n s l => pkH k g n s l.length (pkL l)
def pkL : List VT → List UInt8 | [] => [] | t :: r => pkB t ++ pkL r
end
theorem pkB_mk (t : VT) : pkB t = pkH t.k t.g t.n t.s t.l.length (pkL t.l) := by cases t; rfl
theorem pkL_app (a b : List VT) : pkL (a ++ b) = pkL a ++ pkL b := by
  induction a with
  | nil => rfl
  | cons t r ih => simp only [List.cons_append, pkL, ih, List.append_assoc]
theorem pkL_take_succ {l : List VT} {i : Nat} (h : i < l.length) : pkL (l.take (i + 1)) = pkL (l.take i) ++ pkB l[i] := by
  rw [List.take_succ_eq_append_getElem h, pkL_app]
  simp [pkL]
/-- may a value be said, those within it left aside -/
def pkS (k : Int) (g : Bool) (n : Nat) : Bool := if k = 4 then !g || decide (n < 9223372036854775808) else !decide (k = 2 ∨ k = 3 ∨ k = 5 ∨ k = 6 ∨ k = 13)
mutual
/-- may a tree be said -/
def say : VT → Bool | .mk k g n _ l => pkS k g n && sayL l
def sayL : List VT → Bool | [] => true | t :: r => say t && sayL r
end
theorem say_mk (t : VT) : say t = (pkS t.k t.g t.n && sayL t.l) := by cases t; rfl
theorem sayL_app (a b : List VT) : sayL (a ++ b) = (sayL a && sayL b) := by
  induction a with
  | nil => simp [sayL]
  | cons t r ih => simp only [List.cons_append, sayL, ih, Bool.and_assoc]
theorem sayL_take_succ {l : List VT} {i : Nat} (h : i < l.length) : sayL (l.take (i + 1)) = (sayL (l.take i) && say l[i]) := by
  rw [List.take_succ_eq_append_getElem h, sayL_app]
  simp [sayL]
theorem sayL_no {l : List VT} {i : Nat} (h : i < l.length) (hx : say l[i] = false) : sayL l = false := by
  have h1 := sayL_take_succ h
  rw [hx, Bool.and_false] at h1
  have h2 := sayL_app (l.take (i + 1)) (l.drop (i + 1))
  rw [List.take_append_drop, h1, Bool.false_and] at h2
  exact h2
theorem phP_len (first w n : Nat) : (phP first w n).length = w * 2 ^ lsK n w + 1 := by unfold phP; rw [List.length_cons, lwP_len]
theorem two_lsK (n w : Nat) : 1 ≤ 2 ^ lsK n w ∧ 2 ^ lsK n w ≤ 8 := by
  have h := lsK_le n w
  have : lsK n w = 0 ∨ lsK n w = 1 ∨ lsK n w = 2 ∨ lsK n w = 3 := by omega
  rcases this with e | e | e | e <;> rw [e] <;> decide
theorem phP1_le (first n : Nat) : (phP first 1 n).length ≤ 9 := by rw [phP_len]; have := two_lsK n 1; omega
theorem phP2_le (first n : Nat) : (phP first 2 n).length ≤ 17 := by rw [phP_len]; have := two_lsK n 2; omega
theorem pnP_le (g : Bool) (n : Nat) : (pnP g n).length ≤ 9 := by
  unfold pnP
  have := phP1_le 204 n
  have := two_lsK (2 * n) 1
  split
  · split
    · rw [lwP_len]; omega
    · rw [List.length_cons, lwP_len]; omega
  · split
    · simp
    · omega
theorem ba_len6 (s : ByteArray) : s.data.toList.length = s.size := Array.length_toList
theorem ptP_le (s : ByteArray) : s.size ≤ (ptP s).length ∧ (ptP s).length ≤ s.size + 9 := by
  unfold ptP
  have := phP1_le 217 s.size
  have := ba_len6 s
  rw [List.length_append]
  split
  · simp only [List.length_singleton]; omega
  · omega
theorem pbP_le (s : ByteArray) : s.size ≤ (pbP s).length ∧ (pbP s).length ≤ s.size + 9 := by
  unfold pbP
  have := phP1_le 196 s.size
  have := ba_len6 s
  rw [List.length_append]
  omega
theorem pmP_le (few first c : Nat) : (pmP few first c).length ≤ 17 := by
  unfold pmP
  have := phP2_le first c
  split
  · simp
  · omega
theorem peP_le (m : Nat) : (peP m).length ≤ 9 := by
  unfold peP
  have := phP1_le 199 m
  repeat' split
  all_goals first | omega | simp
theorem pxP_le (n : Nat) (s : ByteArray) : s.size ≤ (pxP n s).length ∧ (pxP n s).length ≤ s.size + 10 := by
  unfold pxP
  have := peP_le s.size
  have := ba_len6 s
  simp only [List.length_append, List.length_singleton]
  omega
theorem pkH_le (k : Int) (g : Bool) (n : Nat) (s : ByteArray) (c : Nat) (L : List UInt8) : (pkH k g n s c L).length ≤ s.size + 20 + L.length := by
  have e0 := pnP_le g n
  have e1 := (pbP_le s).2
  have e2 := (ptP_le s).2
  have e3 := pmP_le 144 220 c
  have e4 := pmP_le 128 222 (c / 2)
  have e5 := (pxP_le n s).2
  have e6 := lwP_len n 4
  have e7 := lwP_len n 8
  unfold pkH
  repeat' split
  all_goals first | omega | (simp only [List.length_append, List.length_cons, List.length_nil]; omega)
mutual
theorem pkB_le : ∀ t : VT, (pkB t).length ≤ 20 * blk t
  | .mk k g n s l => by
    have h1 := pkH_le k g n s l.length (pkL l)
    have h2 := pkL_le l
    simp only [pkB, blk]
    omega
theorem pkL_le : ∀ l : List VT, (pkL l).length ≤ 20 * blkL l
  | [] => by simp [pkL]
  | t :: r => by
    have h1 := pkB_le t
    have h2 := pkL_le r
    simp only [pkL, blkL, List.length_append]
    omega
end
/-- the error of Encode, and its bytes -/
def epE (t : VT) : Nat := if chk t = 0 then (if say t then 0 else 10) else chk t
def epL (t : VT) : List UInt8 := if chk t = 0 ∧ say t = true then pkB t else []
end Go.Proofs.Ytgadpmddbkimfaa.nn
namespace Go.Proofs.Ytgadpmddbkimfaa.nn
open Go.RowKit

/-- all blocks but b and rows of bytes are as they were -/
def Kq (b : Nat) (w w' : World) : Prop := ∀ k cs T, k ≠ b → T ≠ 5 → w.heap[k]? = some (.cells cs T (0, 0)) → w'.heap[k]? = some (.cells cs T (0, 0))
theorem Kq.refl (b : Nat) (w : World) : Kq b w w := fun _ _ _ _ _ h => h
theorem Kq.trans {b : Nat} {w w' w2 : World} (h : Kq b w w') (k : Kq b w' w2) : Kq b w w2 := fun i cs T h1 h2 h3 => k i cs T h1 h2 (h i cs T h1 h2 h3)
theorem Kq.set {b : Nat} {w w' : World} (h : Kq b w w') (j : Nat) (v : Value) : Kq b w (w'.setCell ⟨b, j, none⟩ v) := fun i cs T h1 h2 h3 => (Below.heap_setCell _ _ _ _ (fun e => h1 (by simp [e]))).trans (h i cs T h1 h2 h3)
theorem Kq.of_below {b : Nat} {w w' : World} (h : Below w.heap.size w w') : Kq b w w' := fun i _ _ _ _ h3 => (h.block i (lt_of_block h3)).trans h3
theorem Kq.grown {b : Nat} {w w' w2 : World} {v : Value} {B n : Nat} {xs : List Value} (h : Kq b w w') (hg : w'.grownBy w2 v.ownBlock) (hown : w'.ownsRow B 5 1 v n xs) : Kq b w w2 := fun i cs T h1 h2 h3 => by
  have h4 := h i cs T h1 h2 h3
  exact (hg.block i (lt_of_block h4) (fun e => Lib.ownBlock_ne hown h4 h2 e.symm)).trans h4
theorem Kq.alloc {b : Nat} {w w' : World} (h : Kq b w w') (o : Obj) : Kq b w (w'.alloc o) := h.trans (.of_below ((Below.refl _ _).alloc (Nat.le_refl _) o))
theorem Kq.drew {b : Nat} {w w' : World} (h : Kq b w w') : Kq b w w'.drew := h
/-- the block of a writer, before its slice is stored -/
def Pbk (B b : Nat) (v0 v : Value) (l : List UInt8) (w : World) : Prop := B ≤ b ∧ w.heap[b]? = some (.cells #[v0] 45 (0, 0)) ∧ w.ownsRow B 5 1 v l.length (Lib.byteCells l)
/-- the writer in block b has written l -/
def Pw (B b : Nat) (l : List UInt8) (w : World) : Prop := ∃ v, Pbk B b v v l w
section
variable {B b : Nat} {v0 v : Value} {l : List UInt8} {w w' : World}
theorem Pbk.c0 (h : Pbk B b v0 v l w) : w.cell? ⟨b, 0, none⟩ = some v0 := cell_of_row _ _ 0 _ _ _ h.2.1
theorem Pbk.f0 (h : Pbk B b v0 v l w) : w.frozen? ⟨b, 0, none⟩ = false := by simp [World.frozen?, h.2.1]
theorem Pbk.lt (h : Pbk B b v0 v l w) : b < w.heap.size := lt_of_block h.2.1
theorem Pbk.ne (h : Pbk B b v0 v l w) : v.ownBlock ≠ some b := Lib.ownBlock_ne h.2.2 h.2.1 (by decide)
theorem Pbk.put (h : Pbk B b v0 v l w) : Pw B b l (w.setCell ⟨b, 0, none⟩ v) := by
  have hne := h.ne
  obtain ⟨hB, hb, hown⟩ := h
  refine ⟨v, hB, ?_, ?_⟩
  · simp [World.setCell, Array.getElem?_modify, hb]
  · exact hown.kept (row := some b) ⟨rfl, rfl, rfl, by simp [World.setCell], fun k _ hk => Below.heap_setCell _ _ _ _ (fun e => hk (by simp [e]))⟩ (Or.inr hne)
theorem Pbk.below (h : Pbk B b v0 v l w) (hb : Below w.heap.size w w') : Pbk B b v0 v l w' := ⟨h.1, (hb.block b h.lt).trans h.2.1, own_below h.2.2 hb⟩
theorem Pw.below (h : Pw B b l w) (hb : Below w.heap.size w w') : Pw B b l w' := by
  obtain ⟨v, h⟩ := h
  exact ⟨v, h.below hb⟩
theorem Pw.lt (h : Pw B b l w) : b < w.heap.size := by
  obtain ⟨v, h⟩ := h
  exact h.lt
end
theorem infoP8 : (Try.prog.info? 5).map (fun i => (i.zero, i.size, i.bytes)) = some (some (.int .u8 0), 1, 1) := by kernel_rfl
-- an append of bytes that can be read
set_option maxRecDepth 100000 in
theorem run_appP (B b : Nat) (v : Value) (l M : List UInt8) (w : World) (ty : TypeId) (h : Pbk B b v v l w) (A : Option Addr) (m c : Nat) (hm : m = M.length) (hr : Rd w .u8 A m (gL M)) (hle : l.length + M.length ≤ 140737488355328) (hbase : B ≤ w.heap.size) :
    ∃ v' w', (Builtin.append_ #[26, 26] ty #[v, .slice A m c]).run Try.prog w = .ok v' w' ∧ Pbk B b v v' (l ++ M) w' ∧ Below B w w' ∧ Kq b w w' := by
  obtain ⟨i0, hi, hz0, hz1, hz2⟩ := info_parts infoP8
  obtain ⟨hB, hb, hown⟩ := h
  have hne : v.ownBlock ≠ some b := Lib.ownBlock_ne hown hb (by decide)
  subst hm
  rcases A with _ | ad
  · have h0 : M = [] := by
      rcases M with _ | ⟨x, M⟩
      · rfl
      · obtain ⟨b, off, e, _⟩ := hr (by simp)
        cases e
    subst h0
    refine ⟨v, w, ?_, ⟨hB, hb, by rw [List.append_nil]; exact hown⟩, Below.refl _ _, Kq.refl _ _⟩
    rcases hown.2 with ⟨rfl, e0⟩ | ⟨g, cap, cur, rfl, _, _, hnc, _⟩
    · rw [List.length_eq_zero_iff] at e0
      subst e0
      simp [Builtin.append_, run_underlying Try.underlying26, sizeOf, typeInfo, hi, Builtin.lenOf, Builtin.firstCells]
    · simp [Builtin.append_, run_underlying Try.underlying26, sizeOf, typeInfo, hi, Builtin.lenOf, Builtin.firstCells, hnc, storeCells]
  · have hcells : ∀ j u, (vl .u8 (gL M) M.length)[j]? = some u → w.cell? (ad.add j) = some u := by
      intro j u hu
      have hj : j < M.length := by
        have := (List.getElem?_eq_some_iff.1 hu).1
        rwa [vl_length] at this
      obtain ⟨b, off, e1, _, hc⟩ := hr (by omega)
      injection e1 with e1
      subst e1
      rw [vl_at .u8 (gL M) hj] at hu
      injection hu with hu
      subst hu
      have hadd : (⟨b, off, none⟩ : Addr).add j = ⟨b, off + j, none⟩ := by unfold Addr.add; split <;> simp_all
      rw [hadd]
      exact hc j hj
    obtain ⟨v', w', hrun, h2, h3, _⟩ := run_append_own_at (P := Try.prog) w B 26 ty 5 i0 (.int .u8 0) 1 1 Try.underlying26 hi hz0 hz1 hz2 rfl (by omega) v l.length _ hown ad M.length c (vl .u8 (gL M) M.length) (by rw [vl_length, Nat.mul_one]) hcells (vl_one .u8 (gL M) M.length) (by unfold maxLen; omega) (by omega) hbase
    rw [← bc_vl, ← Lib.byteCells_append] at h2
    refine ⟨v', w', hrun, ⟨hB, (h3.block b (lt_of_block hb) (fun e => hne e.symm)).trans hb, by rw [List.length_append]; exact h2⟩, (Below.refl B w).grown h3 hbase (fun k hk => (hown.lt k hk).1), (Kq.refl b w).grown h3 hown⟩
section
variable {w : World}
theorem wp_appP {oo : Oper} {a : Act} {R : Act → World → Prop} {Q : Exit → Act → World → Prop} (s x : Operand)
    (ho : oo.op = .call { callee := .builtin .append, args := #[s, x], argTypes := #[26, 26] })
    (B b : Nat) (v : Value) (l M : List UInt8) (hs : a.eval s = v) (h : Pbk B b v v l w) (A : Option Addr) (m c : Nat) (hm : m = M.length) (hx : a.eval x = .slice A m c) (hr : Rd w .u8 A m (gL M)) (hle : l.length + M.length ≤ 140737488355328) (hbase : B ≤ w.heap.size)
    (k : ∀ v' w', Pbk B b v v' (l ++ M) w' → Below B w w' → Kq b w w' → R (a.put oo.dst v') w') : oo.wp Try.prog a w R Q := by
  obtain ⟨v', w', hrun, h2, h3, h4⟩ := run_appP B b v l M w oo.type h A m c hm hr hle hbase
  unfold Oper.wp execOp
  simp only [ho, resolve, invoke, builtin, Sem.run_bind, Sem.run_pure, Result.andThen_ok, List.map_toArray, List.map_cons, List.map_nil, hs, hx, hrun]
  exact k v' w' h2 h3 h4
theorem wpList_appP {ops : Array Oper} {rest : List Oper} {oo : Oper} {a : Act} {Q : Exit → Act → World → Prop} (hgd : oo.guard = none) (s x : Operand)
    (ho : oo.op = .call { callee := .builtin .append, args := #[s, x], argTypes := #[26, 26] })
    (B b : Nat) (v : Value) (l M : List UInt8) (hs : a.eval s = v) (h : Pbk B b v v l w) (A : Option Addr) (m c : Nat) (hm : m = M.length) (hx : a.eval x = .slice A m c) (hr : Rd w .u8 A m (gL M)) (hle : l.length + M.length ≤ 140737488355328) (hbase : B ≤ w.heap.size)
    (k : ∀ v' w', Pbk B b v v' (l ++ M) w' → Below B w w' → Kq b w w' → wpList Try.prog ops Q rest (a.put oo.dst v') w') : wpList Try.prog ops Q (oo :: rest) a w :=
  wpList_plain hgd fun _ hK => wp_appP s x ho B b v l M hs h A m c hm hx hr hle hbase fun v' w' h2 h3 h4 => hK _ _ (k v' w' h2 h3 h4)
theorem step_appP {ops : Array Oper} {oo : Oper} {a : Act} {R : Act → World → Prop} {Q : Exit → Act → World → Prop} {E : Prop} (hgd : oo.guard = none) (s x : Operand)
    (ho : oo.op = .call { callee := .builtin .append, args := #[s, x], argTypes := #[26, 26] })
    (B b : Nat) (v : Value) (l M : List UInt8) (hs : a.eval s = v) (h : Pbk B b v v l w) (A : Option Addr) (m c : Nat) (hm : m = M.length) (hx : a.eval x = .slice A m c) (hr : Rd w .u8 A m (gL M)) (hle : l.length + M.length ≤ 140737488355328) (hbase : B ≤ w.heap.size)
    (k : ∀ v' w', Pbk B b v v' (l ++ M) w' → Below B w w' → Kq b w w' → R (a.put oo.dst v') w') :
    if Region.wanted oo (yielded ops a.tmps) = true then Oper.wp Try.prog oo a w R Q else E := by
  have hw : Region.wanted oo (yielded ops a.tmps) = true := by simp [Region.wanted, hgd]
  rw [if_pos hw]
  exact wp_appP s x ho B b v l M hs h A m c hm hx hr hle hbase k
/-- an append of a text -/
theorem wpList_appPS {ops : Array Oper} {rest : List Oper} {oo : Oper} {a : Act} {Q : Exit → Act → World → Prop} (hgd : oo.guard = none) (s x : Operand)
    (ho : oo.op = .call { callee := .builtin .append, args := #[s, x], argTypes := #[26, 9] })
    (B b : Nat) (v : Value) (l : List UInt8) (T : ByteArray) (hs : a.eval s = v) (h : Pbk B b v v l w) (hx : a.eval x = .string T) (hle : l.length + T.size ≤ 140737488355328) (hbase : B ≤ w.heap.size)
    (k : ∀ v' w', Pbk B b v v' (l ++ T.data.toList) w' → Below B w w' → Kq b w w' → wpList Try.prog ops Q rest (a.put oo.dst v') w') : wpList Try.prog ops Q (oo :: rest) a w := by
  obtain ⟨i0, hi, hz0, hz1, hz2⟩ := info_parts infoP8
  have hne := h.ne
  obtain ⟨hB, hb, hown⟩ := h
  refine Lib.wpList_append_own_string w hgd s x 26 9 ho B 5 i0 Try.underlying26 Try.underlying9 hi hz0 hz1 hz2 v l.length _ hs hown T hx (by unfold maxLen; omega) hle hbase fun v' w' h1 h2 _ => k v' w' ⟨hB, (h2.block b (lt_of_block hb) (fun e => hne e.symm)).trans hb, ?_⟩ ((Below.refl B w).grown h2 hbase (fun k hk => (hown.lt k hk).1)) ((Kq.refl b w).grown h2 hown)
  rw [Lib.byteCells_append, ← Lib.strCells_eq, List.length_append, Array.length_toList]
  exact h1
end
end Go.Proofs.Ytgadpmddbkimfaa.nn
namespace Go.Proofs.Ytgadpmddbkimfaa.nn
open Go.RowKit

theorem pu8_of {d : Nat} (h : d < 256) : (UInt8.ofNat d).toNat = d := by
  rw [UInt8.toNat_ofNat']
  exact Nat.mod_eq_of_lt h
theorem prd_b1 (w : World) {d : Nat} (h : d < 256) (e : TypeId) : Rd (w.alloc (.cells #[.int .u8 (d : Int)] e)) .u8 (some ⟨w.heap.size, 0, none⟩) 1 (gL [UInt8.ofNat d]) :=
  (rd_one w .u8 d e).congr fun i hi => by
    obtain rfl : i = 0 := by omega
    exact (pu8_of h).symm
theorem lsF_succ6 (f : Nat → Nat) (n : Nat) : lsF f (n + 1) = lsF f n ++ [UInt8.ofNat (f n)] := by simp [lsF, List.range_succ]
theorem Pbk.form {B b : Nat} {v0 v : Value} {l : List UInt8} {w : World} (h : Pbk B b v0 v l w) : ∃ A n c, v = .slice A n c := by
  rcases h.2.2.2 with ⟨rfl, _⟩ | ⟨g, cap, cur, hv, _⟩
  · exact ⟨_, _, _, rfl⟩
  · exact ⟨_, _, cap, hv⟩
/-- what a call of the writer's answers -/
def PwAns (B b : Nat) (l : List UInt8) (w : World) (e : Ending) (w' : World) : Prop := e = .returned (.tuple #[]) ∧ Pw B b l w' ∧ Below B w w' ∧ Kq b w w'
set_option maxRecDepth 100000 in
set_option maxHeartbeats 1000000 in
theorem pfirst_any (B b : Nat) (l : List UInt8) (d : Nat) (w : World) (h : Pw B b l w) (hd256 : d < 256) (hle : l.length + 1 ≤ 140737488355328) (hBw : B ≤ w.heap.size) :
    Calls Try.prog 26 #[.pointer (some ⟨b, 0, none⟩), .int .u8 (d : Int)] w (PwAns B b (l ++ [UInt8.ofNat d]) w) := by
  obtain ⟨v, hb⟩ := h
  have c0 := hb.c0
  have HB := Lib.hid hb
  have HR := Lib.hid (prd_b1 w hd256 5)
  have HA := Lib.hid (hb.below ((Below.refl _ _).alloc (Nat.le_refl _) (.cells #[.int .u8 (d : Int)] 5)))
  have HBL := Lib.hid ((Below.refl B w).alloc hBw (.cells #[.int .u8 (d : Int)] 5))
  have HKW := Lib.hid ((Kq.refl b w).alloc (.cells #[.int .u8 (d : Int)] 5))
  have hsz : B ≤ (w.alloc (.cells #[.int .u8 (d : Int)] 5)).heap.size := by simp; omega
  clear hb hBw
  go_enter Try.func26, Try.ntmps26
  go_wp2_with (at_builtin; refine wpList_appP rfl _ _ rfl B b v l [UInt8.ofNat d] rfl HA.out (some ⟨w.heap.size, 0, none⟩) 1 1 rfl rfl HR.out hle hsz ?_; intro v' w2 h2 hb2 hk2; have d0 := h2.c0; have f0 := h2.f0; have HB2 := Lib.hid h2; have HL2 := Lib.hid hb2; have HK2 := Lib.hid hk2; obtain ⟨A2, n2, c2, rfl⟩ := h2.form; clear h2 hb2 hk2 c0)
  go_end0
  exact ⟨rfl, HB2.out.put, (HBL.out.trans HL2.out).setCell (p := ⟨b, 0, none⟩) HB.out.1 _, (HKW.out.trans HK2.out).set 0 _⟩
set_option maxRecDepth 100000 in
set_option maxHeartbeats 8000000 in
theorem plow_any (B b : Nat) (l : List UInt8) (n q : Nat) (w : World) (h : Pw B b l w) (_ : n < 18446744073709551616) (hq0 : 0 < q) (hq : q ≤ 8) (hle : l.length + 8 ≤ 140737488355328) (hBw : B ≤ w.heap.size) :
    Calls Try.prog 21 #[.pointer (some ⟨b, 0, none⟩), .int .u64 (n : Int), .int .i64 (q : Int)] w (PwAns B b (l ++ lwP n q) w) := by
  have HL : Hid (Pw B b l w ∧ Below B w w ∧ Kq b w w ∧ B ≤ w.heap.size) := Lib.hid ⟨h, Below.refl _ _, Kq.refl _ _, hBw⟩
  obtain ⟨T, hT⟩ : ∃ T, l ++ lwP n q = T := ⟨_, rfl⟩
  have HT := Lib.hid hT
  unfold lwP at HT
  rw [hT]
  clear hT h hBw
  go_enter Try.func21, Try.ntmps21
  go_wp2_with fail
  go_loopw [6] (fun s6 wr => ∃ j : Nat, j ≤ q ∧ s6 = .int .i64 ((q : Int) - 1 - (j : Int)) ∧ Hid (Pw B b (l ++ lsF (fun i => n / 256 ^ (q - 1 - i) % 256) j) wr ∧ Below B w wr ∧ Kq b w wr ∧ B ≤ wr.heap.size)) (fun s6 _ => ((intOf s6) + 1).toNat)
  case atStart => exact ⟨0, Nat.zero_le _, congrArg (Value.int .i64) (by omega), Lib.hid ⟨by rw [show lsF (fun i => n / 256 ^ (q - 1 - i) % 256) 0 = [] from rfl, List.append_nil]; exact HL.out.1, HL.out.2⟩⟩
  case round =>
    obtain ⟨j, hj, rfl, hO⟩ := hrel
    by_cases hlt : j < q
    · obtain ⟨i, hii⟩ : ∃ i : Nat, (q : Int) - 1 - (j : Int) = (i : Int) := ⟨q - 1 - j, by omega⟩
      rw [hii]
      have h8 : i = 0 ∨ i = 1 ∨ i = 2 ∨ i = 3 ∨ i = 4 ∨ i = 5 ∨ i = 6 ∨ i = 7 := by omega
      obtain ⟨d, hd⟩ : ∃ d, n / 256 ^ i % 256 = d := ⟨_, rfl⟩
      have hd256 : d < 256 := by rw [← hd]; exact Nat.mod_lt _ (by decide)
      have HDJ : Hid (lsF (fun i => n / 256 ^ (q - 1 - i) % 256) (j + 1) = lsF (fun i => n / 256 ^ (q - 1 - i) % 256) j ++ [UInt8.ofNat d]) := Lib.hid (by rw [lsF_succ6, show q - 1 - j = i by omega, hd])
      have U1 : Hid (∀ N : Nat, N = 256 ^ i → IntKind.u8.wrap ((n : Int) / (N : Int)) = (d : Int)) := Lib.hid (fun N hN => by
        rw [IntKind.wrap_u8, ← hd, hN]
        simp)
      obtain ⟨v, hv⟩ := hO.out.1
      obtain ⟨P, hP⟩ : ∃ P, l ++ lsF (fun i => n / 256 ^ (q - 1 - i) % 256) j = P := ⟨_, rfl⟩
      have hPl : P.length = l.length + j := by rw [← hP, List.length_append, lsF_len]
      rw [hP] at hv
      have HP := Lib.hid hP
      have c0 := hv.c0
      have HV := Lib.hid hv
      have HR : Hid (∀ W : World, Rd (W.alloc (.cells #[.int .u8 (d : Int)] 5)) .u8 (some ⟨W.heap.size, 0, none⟩) 1 (gL [UInt8.ofNat d])) := Lib.hid fun W => prd_b1 W hd256 _
      have HA : Hid (Pbk B b v v P (wr.drew.alloc (.cells #[.int .u8 (d : Int)] 5))) := Lib.hid (hv.below ((Below.drew (Below.refl _ _)).alloc (Nat.le_refl _) _))
      have HB2 : Hid (Below B w (wr.drew.alloc (.cells #[.int .u8 (d : Int)] 5)) ∧ Kq b w (wr.drew.alloc (.cells #[.int .u8 (d : Int)] 5))) := Lib.hid ⟨(hO.out.2.1.trans (Below.drew (Below.refl _ _))).alloc hO.out.2.2.2 _, (hO.out.2.2.1.trans (Kq.drew (Kq.refl _ _))).alloc _⟩
      have hsz : B ≤ (wr.drew.alloc (.cells #[.int .u8 (d : Int)] 5)).heap.size := by have := hO.out.2.2.2; simp; omega
      have hln : P.length + 1 ≤ 140737488355328 := by omega
      have c1 : (wr.alloc (.cells #[.int .u8 (d : Int)] 5)).cell? ⟨b, 0, none⟩ = some v := HA.out.c0
      clear hd hv hP hPl
      have k0 : IntKind.i64.wrap 0 = 0 := by decide
      have k1 : IntKind.i64.wrap 8 = 8 := by decide
      have k2 : IntKind.i64.wrap 16 = 16 := by decide
      have k3 : IntKind.i64.wrap 24 = 24 := by decide
      have k4 : IntKind.i64.wrap 32 = 32 := by decide
      have k5 : IntKind.i64.wrap 40 = 40 := by decide
      have k6 : IntKind.i64.wrap 48 = 48 := by decide
      have k7 : IntKind.i64.wrap 56 = 56 := by decide
      rcases h8 with rfl | rfl | rfl | rfl | rfl | rfl | rfl | rfl
      all_goals
        first
          | (have u2 : IntKind.u8.wrap (n : Int) = (d : Int) := by have := U1.out 1 (by decide); rw [show ((1 : Nat) : Int) = 1 from rfl, Int.ediv_one] at this; exact this)
          | (have u2 : IntKind.u8.wrap ((n : Int) / 256) = (d : Int) := U1.out 256 (by decide))
          | (have u2 : IntKind.u8.wrap ((n : Int) / 65536) = (d : Int) := U1.out 65536 (by decide))
          | (have u2 : IntKind.u8.wrap ((n : Int) / 16777216) = (d : Int) := U1.out 16777216 (by decide))
          | (have u2 : IntKind.u8.wrap ((n : Int) / 4294967296) = (d : Int) := U1.out 4294967296 (by decide))
          | (have u2 : IntKind.u8.wrap ((n : Int) / 1099511627776) = (d : Int) := U1.out 1099511627776 (by decide))
          | (have u2 : IntKind.u8.wrap ((n : Int) / 281474976710656) = (d : Int) := U1.out 281474976710656 (by decide))
          | (have u2 : IntKind.u8.wrap ((n : Int) / 72057594037927936) = (d : Int) := U1.out 72057594037927936 (by decide))
        clear U1
        go_upto_region 3 with fail
        go_region_law (refine step_appP rfl (.tmp 17) (.tmp 23) rfl B b v P [UInt8.ofNat d] rfl HA.out _ 1 1 rfl rfl (HR.out _) hln hsz ?_; intro v2 w2 h2 hb2 hk2; have d0 := h2.c0; have f0 := h2.f0; obtain ⟨A2, n2, c2, rfl⟩ := h2.form)
        all_goals
          have HN := Lib.hid (And.intro h2.put (And.intro ((HB2.out.1.trans hb2).setCell (p := ⟨b, 0, none⟩) HV.out.1 (.slice A2 n2 c2)) (And.intro ((HB2.out.2.trans hk2).set 0 (.slice A2 n2 c2)) (Nat.le_trans hsz hb2.size))))
          clear h2 hb2 hk2 d0 f0 c0 c1
          go_wp2_with fail
          go_roundw
          case rel => exact ⟨j + 1, by omega, congrArg (Value.int .i64) (by omega), Lib.hid ⟨by rw [HDJ.out, ← List.append_assoc, HP.out]; exact HN.out.1, HN.out.2.1, HN.out.2.2.1, by simpa using HN.out.2.2.2⟩⟩
          case measure => simp [intOf]
    · obtain rfl : j = q := by omega
      have hneg : ((j : Int) - 1 - (j : Int)) = -1 := by omega
      rw [hneg]
      clear hneg
      go_wp2_with fail
      go_end0
      exact ⟨rfl, by rw [← HT.out]; exact hO.out.1, hO.out.2.1, hO.out.2.2.1⟩
set_option maxRecDepth 100000 in
set_option maxHeartbeats 4000000 in
/-- how many bytes have room, and the first byte for so many -/
theorem pleast_any (f w0 n : Nat) (W : World) (hf : f + 3 < 256) (hw : w0 = 1 ∨ w0 = 2) (hn : n < 18446744073709551616) :
    Calls Try.prog 45 #[.int .u8 (f : Int), .int .i64 (w0 : Int), .int .u64 (n : Int)] W fun e w' => e = .returned (.tuple #[.int .u8 ((f + lsK n w0 : Nat) : Int), .int .i64 ((w0 * 2 ^ lsK n w0 : Nat) : Int)]) ∧ W = w' := by
  have HK : Hid (∀ j, j ≤ lsK n w0 → (n / 256 ^ (w0 * 2 ^ j) = 0 ↔ j = lsK n w0)) := Lib.hid (by
    intro j hj
    have e : n / 256 ^ (w0 * 2 ^ j) = 0 ↔ n < 256 ^ (w0 * 2 ^ j) := by
      rw [Nat.div_eq_zero_iff]
      have : 0 < 256 ^ (w0 * 2 ^ j) := Nat.pow_pos (by decide)
      omega
    rw [e]
    have h4 := lsK_le n w0
    have hj4 : j = 0 ∨ j = 1 ∨ j = 2 ∨ j = 3 := by omega
    rcases hw with rfl | rfl
    · have hx : (n < 256 ∧ lsK n 1 = 0) ∨ (256 ≤ n ∧ n < 65536 ∧ lsK n 1 = 1) ∨ (65536 ≤ n ∧ n < 4294967296 ∧ lsK n 1 = 2) ∨ (4294967296 ≤ n ∧ lsK n 1 = 3) := by
        unfold lsK
        simp only [Nat.reducePow, Nat.reduceMul]
        by_cases h1 : n < 256
        · exact .inl ⟨h1, if_pos h1⟩
        · by_cases h2 : n < 65536
          · exact .inr (.inl ⟨by omega, h2, by rw [if_neg h1, if_pos h2]⟩)
          · by_cases h3 : n < 4294967296
            · exact .inr (.inr (.inl ⟨by omega, h3, by rw [if_neg h1, if_neg h2, if_pos h3]⟩))
            · exact .inr (.inr (.inr ⟨by omega, by rw [if_neg h1, if_neg h2, if_neg h3]⟩))
      rcases hj4 with rfl | rfl | rfl | rfl <;> simp only [Nat.reducePow, Nat.reduceMul] <;> omega
    · have hx : (n < 65536 ∧ lsK n 2 = 0) ∨ (65536 ≤ n ∧ n < 4294967296 ∧ lsK n 2 = 1) ∨ (4294967296 ≤ n ∧ lsK n 2 = 2) := by
        unfold lsK
        simp only [Nat.reducePow, Nat.reduceMul]
        by_cases h1 : n < 65536
        · exact .inl ⟨h1, if_pos h1⟩
        · by_cases h2 : n < 4294967296
          · exact .inr (.inl ⟨by omega, h2, by rw [if_neg h1, if_pos h2]⟩)
          · exact .inr (.inr ⟨by omega, by rw [if_neg h1, if_neg h2, if_pos hn]⟩)
      rcases hj4 with rfl | rfl | rfl | rfl <;> simp only [Nat.reducePow, Nat.reduceMul] <;> omega)
  have h4 := lsK_le n w0
  have hw2 : w0 = 2 → lsK n w0 ≤ 2 := by
    rintro rfl
    unfold lsK
    simp only [Nat.reducePow, Nat.reduceMul]
    by_cases h1 : n < 65536
    · rw [if_pos h1]; omega
    · by_cases h2 : n < 4294967296
      · rw [if_neg h1, if_pos h2]; omega
      · rw [if_neg h1, if_neg h2, if_pos hn]; omega
  obtain ⟨K, hK⟩ : ∃ K, lsK n w0 = K := ⟨_, rfl⟩
  rw [hK] at HK h4 hw2 ⊢
  clear hK
  go_enter Try.func45, Try.ntmps45
  go_wp2_with fail
  go_loopw [0, 1] (fun s0 s1 wr => ∃ j : Nat, j ≤ K ∧ s0 = .int .u8 ((f + j : Nat) : Int) ∧ s1 = .int .i64 ((w0 * 2 ^ j : Nat) : Int) ∧ Hid (W = wr)) (fun s0 _ _ => f + 4 - (intOf s0).toNat)
  case atStart => exact ⟨0, Nat.zero_le _, rfl, by simp, Lib.hid rfl⟩
  case round =>
    obtain ⟨j, hj, rfl, rfl, HW⟩ := hrel
    have hz := HK.out j hj
    have hWd : w0 * 2 ^ j = 1 ∨ w0 * 2 ^ j = 2 ∨ w0 * 2 ^ j = 4 ∨ w0 * 2 ^ j = 8 := by
      have hj4 : j = 0 ∨ j = 1 ∨ j = 2 ∨ j = 3 := by omega
      rcases hw with rfl | rfl
      · rcases hj4 with rfl | rfl | rfl | rfl <;> simp
      · rcases hj4 with rfl | rfl | rfl | rfl <;> simp <;> omega
    obtain ⟨d, hd⟩ : ∃ d, w0 * 2 ^ j = d := ⟨_, rfl⟩
    obtain ⟨g, hg⟩ : ∃ g, f + j = g := ⟨_, rfl⟩
    have hg2 : g + 1 < 256 ∨ j = K := by omega
    have HD : Hid (w0 * 2 ^ (j + 1) = d * 2) := Lib.hid (by rw [Nat.pow_succ, ← Nat.mul_assoc, hd])
    rw [hd] at hz hWd ⊢
    rw [hg]
    have hwa : g + 1 < 256 → IntKind.u8.wrap ((g : Int) + 1) = ((g + 1 : Nat) : Int) := fun h => by rw [IntKind.wrap_u8]; omega
    clear HK hw2
    by_cases hjK : j = K
    · have h0 := hz.2 hjK
      have e1 : (n : Int) / ((256 ^ d : Nat) : Int) = 0 := by rw [← Int.natCast_ediv, h0]; rfl
      have HE : Hid (g = f + K ∧ d = w0 * 2 ^ K) := Lib.hid ⟨by omega, by rw [← hjK]; exact hd.symm⟩
      clear hz hd hg hg2 HD hwa h0 hw hf
      rcases hWd with rfl | rfl | rfl | rfl
      · have e2 : (n : Int) / 256 = 0 := e1
        go_wp2_with fail
        exact bodyPost_ret (v := .tuple #[.int .u8 (g : Int), .int .i64 1]) (by simp [results, Try.results45, go_sem]) rfl ⟨by rw [← HE.out.1, ← HE.out.2]; rfl, HW.out⟩
      · have e2 : (n : Int) / 65536 = 0 := e1
        go_wp2_with fail
        exact bodyPost_ret (v := .tuple #[.int .u8 (g : Int), .int .i64 2]) (by simp [results, Try.results45, go_sem]) rfl ⟨by rw [← HE.out.1, ← HE.out.2]; rfl, HW.out⟩
      · have e2 : (n : Int) / 4294967296 = 0 := e1
        go_wp2_with fail
        exact bodyPost_ret (v := .tuple #[.int .u8 (g : Int), .int .i64 4]) (by simp [results, Try.results45, go_sem]) rfl ⟨by rw [← HE.out.1, ← HE.out.2]; rfl, HW.out⟩
      · have e2 : (n : Int) / 18446744073709551616 = 0 := e1
        go_wp2_with fail
        exact bodyPost_ret (v := .tuple #[.int .u8 (g : Int), .int .i64 8]) (by simp [results, Try.results45, go_sem]) rfl ⟨by rw [← HE.out.1, ← HE.out.2]; rfl, HW.out⟩
    · have h0 : ¬ n / 256 ^ d = 0 := fun h => hjK (hz.1 h)
      have e1 : (0 : Int) < (n : Int) / ((256 ^ d : Nat) : Int) := by rw [← Int.natCast_ediv]; exact Int.natCast_pos.2 (Nat.pos_of_ne_zero h0)
      have hgl : g ≤ f + 3 := by omega
      have hgw := hwa (by omega)
      have HR : Hid (g + 1 = f + (j + 1)) := Lib.hid (by omega)
      have hj1 : j + 1 ≤ K := by omega
      clear hz hd hg hg2 hwa h0 hw hf hjK
      rcases hWd with rfl | rfl | rfl | rfl
      · have e2 : (0 : Int) < (n : Int) / 256 := e1
        have e3 : decide ((0 : Int) < (n : Int) / 256) = true := decide_eq_true e2
        clear e1
        go_wp2_with fail
        go_roundw
        case rel => exact ⟨j + 1, hj1, by rw [← HR.out]; rfl, by rw [HD.out]; rfl, HW⟩
        case measure => simp [intOf]; omega
      · have e2 : (0 : Int) < (n : Int) / 65536 := e1
        have e3 : decide ((0 : Int) < (n : Int) / 65536) = true := decide_eq_true e2
        clear e1
        go_wp2_with fail
        go_roundw
        case rel => exact ⟨j + 1, hj1, by rw [← HR.out]; rfl, by rw [HD.out]; rfl, HW⟩
        case measure => simp [intOf]; omega
      · have e2 : (0 : Int) < (n : Int) / 4294967296 := e1
        have e3 : decide ((0 : Int) < (n : Int) / 4294967296) = true := decide_eq_true e2
        clear e1
        go_wp2_with fail
        go_roundw
        case rel => exact ⟨j + 1, hj1, by rw [← HR.out]; rfl, by rw [HD.out]; rfl, HW⟩
        case measure => simp [intOf]; omega
      · exfalso
        have e2 : (0 : Int) < (n : Int) / 18446744073709551616 := e1
        omega
set_option maxRecDepth 100000 in
set_option maxHeartbeats 1000000 in
theorem phead_any (B b : Nat) (l : List UInt8) (f w0 n : Nat) (w : World) (h : Pw B b l w) (hf : f + 3 < 256) (hw : w0 = 1 ∨ w0 = 2) (hn : n < 18446744073709551616) (hk8 : w0 * 2 ^ lsK n w0 ≤ 8) (hle : l.length + 9 ≤ 140737488355328) (hBw : B ≤ w.heap.size) :
    Calls Try.prog 28 #[.pointer (some ⟨b, 0, none⟩), .int .u8 (f : Int), .int .i64 (w0 : Int), .int .u64 (n : Int)] w (PwAns B b (l ++ phP f w0 n) w) := by
  have HLS := Lib.hid (pleast_any f w0 n w hf hw hn)
  have h3 := lsK_le n w0
  have h1 : 1 ≤ w0 * 2 ^ lsK n w0 := Nat.mul_pos (by omega) (Nat.pow_pos (by decide))
  have hT : l ++ phP f w0 n = (l ++ [UInt8.ofNat (f + lsK n w0)]) ++ lwP n (w0 * 2 ^ lsK n w0) := by unfold phP; rw [List.append_cons]
  rw [hT]
  obtain ⟨K, hK⟩ : ∃ K, f + lsK n w0 = K := ⟨_, rfl⟩
  obtain ⟨q, hq⟩ : ∃ q, w0 * 2 ^ lsK n w0 = q := ⟨_, rfl⟩
  rw [hK, hq] at HLS ⊢
  rw [hq] at hk8 h1
  have H1 := Lib.hid (pfirst_any B b l K w h (by omega) (by omega) hBw)
  have H2 : Hid (∀ w', Pw B b (l ++ [UInt8.ofNat K]) w' → B ≤ w'.heap.size → Calls Try.prog 21 #[.pointer (some ⟨b, 0, none⟩), .int .u64 (n : Int), .int .i64 (q : Int)] w' (PwAns B b ((l ++ [UInt8.ofNat K]) ++ lwP n q) w')) := Lib.hid fun w' h' hB' => plow_any B b _ n q w' h' hn h1 hk8 (by simp; omega) hB'
  have HBw := Lib.hid hBw
  clear hT hK hq h h3 hf hw hle hBw
  go_enter Try.func28, Try.ntmps28
  go_wp2_with fail
  refine HLS.out.mono ?_
  rintro e w1 ⟨rfl, rfl⟩
  go_wp2_with fail
  refine H1.out.mono ?_
  rintro e w1 ⟨rfl, h1', hb1, hk1⟩
  have HH := Lib.hid (And.intro h1' (And.intro hb1 hk1))
  clear h1' hb1 hk1
  go_wp2_with fail
  refine (H2.out _ HH.out.1 (Nat.le_trans HBw.out HH.out.2.1.size)).mono ?_
  rintro e w2 ⟨rfl, h2, hb2, hk2⟩
  have HH2 := Lib.hid (And.intro h2 (And.intro (HH.out.2.1.trans hb2) (HH.out.2.2.trans hk2)))
  clear h2 hb2 hk2
  go_wp2_with fail
  go_end0
  exact ⟨rfl, HH2.out⟩
end Go.Proofs.Ytgadpmddbkimfaa.nn
namespace Go.Proofs.Ytgadpmddbkimfaa.nn
open Go.RowKit

theorem xor_max {n : Nat} (h : n < 18446744073709551616) : 18446744073709551615 ^^^ n = 18446744073709551615 - n := by
  have h1 : (BitVec.allOnes 64 ^^^ BitVec.ofNat 64 n) = ~~~ (BitVec.ofNat 64 n) := BitVec.allOnes_xor
  have h2 := congrArg BitVec.toNat h1
  rw [BitVec.toNat_xor, BitVec.toNat_not, BitVec.toNat_allOnes, BitVec.toNat_ofNat, Nat.mod_eq_of_lt h] at h2
  exact h2
theorem u64_not {n : Nat} (h : n < 18446744073709551616) : bits .xor .u64 IntKind.u64.max (n : Int) = ((18446744073709551615 - n : Nat) : Int) := by
  rw [← xor_max h]
  exact u64_xor_nat 18446744073709551615 n (by decide) h
/-- an append of a text as a step of a region -/
theorem step_appPS {w : World} {ops : Array Oper} {oo : Oper} {a : Act} {R : Act → World → Prop} {Q : Exit → Act → World → Prop} {E : Prop} (hgd : oo.guard = none) (s x : Operand)
    (ho : oo.op = .call { callee := .builtin .append, args := #[s, x], argTypes := #[26, 9] })
    (B b : Nat) (v : Value) (l : List UInt8) (T : ByteArray) (hs : a.eval s = v) (h : Pbk B b v v l w) (hx : a.eval x = .string T) (hle : l.length + T.size ≤ 140737488355328) (hbase : B ≤ w.heap.size)
    (k : ∀ v' w', Pbk B b v v' (l ++ T.data.toList) w' → Below B w w' → Kq b w w' → R (a.put oo.dst v') w') :
    if Region.wanted oo (yielded ops a.tmps) = true then Oper.wp Try.prog oo a w R Q else E := by
  have hw : Region.wanted oo (yielded ops a.tmps) = true := by simp [Region.wanted, hgd]
  rw [if_pos hw]
  obtain ⟨i0, hi, hz0, hz1, hz2⟩ := info_parts infoP8
  have hne := h.ne
  obtain ⟨hB, hb, hown⟩ := h
  obtain ⟨v', w', hr, h1, h2, _⟩ := Lib.run_append_own_string (P := Try.prog) w B 26 9 oo.type 5 i0 Try.underlying26 Try.underlying9 hi hz0 hz1 hz2 v l.length _ hown T (by unfold maxLen; omega) hle hbase
  unfold Oper.wp execOp
  simp only [ho, resolve, invoke, builtin, Sem.run_bind, Sem.run_pure, Result.andThen_ok, List.map_toArray, List.map_cons, List.map_nil, hs, hx, hr]
  refine k v' w' ⟨hB, (h2.block b (lt_of_block hb) (fun e => hne e.symm)).trans hb, ?_⟩ ((Below.refl B w).grown h2 hbase (fun k hk => (hown.lt k hk).1)) ((Kq.refl b w).grown h2 hown)
  rw [Lib.byteCells_append, ← Lib.strCells_eq, List.length_append, Array.length_toList]
  exact h1
/-- what a call that writes an item answers: ok: may it be said -/
def ItP (B b : Nat) (L : List UInt8) (ok : Bool) (w : World) (e : Ending) (w' : World) : Prop :=
  (Below B w w' ∧ Kq b w w') ∧ ((ok = true ∧ e = .returned (.int .i64 0) ∧ Pw B b L w') ∨ (ok = false ∧ e = .returned (.int .i64 10)))
section
variable {B b : Nat} {l l1 : List UInt8} {w w1 : World}
set_option maxRecDepth 100000 in
set_option maxHeartbeats 2000000 in
theorem ptext_any (s : ByteArray) (h : Pw B b l w) (hle : l.length + s.size + 20 ≤ 140737488355328) (hBw : B ≤ w.heap.size) :
    Calls Try.prog 29 #[.pointer (some ⟨b, 0, none⟩), .string s] w (PwAns B b (l ++ ptP s) w) := by
  obtain ⟨P, hP⟩ : ∃ P : List UInt8, P = (if s.size < 32 then [UInt8.ofNat (160 + s.size)] else phP 217 1 s.size) := ⟨_, rfl⟩
  have hPl : P.length ≤ 9 := by
    have := phP1_le 217 s.size
    rw [hP]
    split
    · simp
    · omega
  have HT : Hid (l ++ ptP s = (l ++ P) ++ s.data.toList) := Lib.hid (by rw [hP]; unfold ptP; rw [List.append_assoc])
  have hln : (l ++ P).length + s.size ≤ 140737488355328 := by rw [List.length_append]; omega
  rw [HT.out]
  by_cases hs : s.size < 32
  · rw [if_pos hs] at hP
    have H1 := pfirst_any B b l (160 + s.size) w h (by omega) (by omega) hBw
    rw [← hP] at H1
    obtain ⟨m, hm⟩ : ∃ m, 160 + s.size = m := ⟨_, rfl⟩
    rw [hm] at H1
    have HH1 := Lib.hid H1
    have u1 : IntKind.u8.wrap (s.size : Int) = (s.size : Int) := by rw [IntKind.wrap_u8]; omega
    have u2 : IntKind.u8.wrap (160 + (s.size : Int)) = (m : Int) := by rw [IntKind.wrap_u8]; omega
    have i1 : decide (s.size < 32) = true := decide_eq_true hs
    have i2 : decide ((s.size : Int) < 32) = true := decide_eq_true (by omega)
    have HBw := Lib.hid hBw
    clear hP hPl HT h H1 hm hle hBw hs
    go_enter Try.func29, Try.ntmps29
    go_wp2_with fail
    refine HH1.out.mono ?_
    rintro e w1 ⟨rfl, h1, hb1, hk1⟩
    obtain ⟨v, hv⟩ := h1
    have c0 := hv.c0
    have HV := Lib.hid hv
    have HL := Lib.hid (And.intro hb1 hk1)
    have hsz : B ≤ w1.heap.size := Nat.le_trans HBw.out hb1.size
    clear hv hb1 hk1
    go_wp2_with (at_builtin; refine wpList_appPS rfl _ _ rfl B b v (l ++ P) s rfl HV.out rfl hln hsz ?_; intro v' w2 h2 hb2 hk2; have d0 := h2.c0; have f0 := h2.f0; have HB2 := Lib.hid h2; have HL2 := Lib.hid (And.intro hb2 hk2); obtain ⟨A2, n2, c2, rfl⟩ := h2.form; clear h2 hb2 hk2 c0)
    go_end0
    exact ⟨rfl, HB2.out.put, (HL.out.1.trans HL2.out.1).setCell (p := ⟨b, 0, none⟩) HV.out.1 _, (HL.out.2.trans HL2.out.2).set 0 _⟩
  · rw [if_neg hs] at hP
    have hk8 : 1 * 2 ^ lsK s.size 1 ≤ 8 := by have := two_lsK s.size 1; omega
    have H1 := phead_any B b l 217 1 s.size w h (by decide) (.inl rfl) (by omega) hk8 (by omega) hBw
    rw [← hP] at H1
    have HH1 := Lib.hid H1
    have u1 : IntKind.u64.wrap (s.size : Int) = (s.size : Int) := by rw [IntKind.wrap_u64]; omega
    have i1 : decide (s.size < 32) = false := decide_eq_false hs
    have i2 : decide ((s.size : Int) < 32) = false := decide_eq_false (by omega)
    have HBw := Lib.hid hBw
    clear hP hPl HT h H1 hle hBw hs hk8
    go_enter Try.func29, Try.ntmps29
    go_wp2_with fail
    refine HH1.out.mono ?_
    rintro e w1 ⟨rfl, h1, hb1, hk1⟩
    obtain ⟨v, hv⟩ := h1
    have c0 := hv.c0
    have HV := Lib.hid hv
    have HL := Lib.hid (And.intro hb1 hk1)
    have hsz : B ≤ w1.heap.size := Nat.le_trans HBw.out hb1.size
    clear hv hb1 hk1
    go_wp2_with (at_builtin; refine wpList_appPS rfl _ _ rfl B b v (l ++ P) s rfl HV.out rfl hln hsz ?_; intro v' w2 h2 hb2 hk2; have d0 := h2.c0; have f0 := h2.f0; have HB2 := Lib.hid h2; have HL2 := Lib.hid (And.intro hb2 hk2); obtain ⟨A2, n2, c2, rfl⟩ := h2.form; clear h2 hb2 hk2 c0)
    go_end0
    exact ⟨rfl, HB2.out.put, (HL.out.1.trans HL2.out.1).setCell (p := ⟨b, 0, none⟩) HV.out.1 _, (HL.out.2.trans HL2.out.2).set 0 _⟩
set_option maxRecDepth 100000 in
set_option maxHeartbeats 2000000 in
theorem pbelow_any (n : Nat) (h : Pw B b l w) (hn : n < 18446744073709551616) (hle : l.length + 20 ≤ 140737488355328) (hBw : B ≤ w.heap.size) :
    Calls Try.prog 44 #[.pointer (some ⟨b, 0, none⟩), .int .u64 (n : Int)] w (ItP B b (l ++ pnP true n) (decide (n < 9223372036854775808)) w) := by
  by_cases h63 : n < 9223372036854775808
  · have e1 : (n : Int) / 9223372036854775808 = 0 := by omega
    have HD : Hid (decide (n < 9223372036854775808) = true) := Lib.hid (decide_eq_true h63)
    by_cases h31 : n ≤ 31
    · have i1 : decide (n ≤ 31) = true := decide_eq_true h31
      have i2 : decide ((n : Int) ≤ 31) = true := decide_eq_true (by omega)
      have HT : Hid (pnP true n = lwP (18446744073709551615 - n) 1) := Lib.hid (by unfold pnP; rw [if_pos rfl, if_pos h31])
      obtain ⟨m, hm⟩ : ∃ m, 18446744073709551615 - n = m := ⟨_, rfl⟩
      have u1 : bits .xor .u64 IntKind.u64.max (n : Int) = (m : Int) := by rw [u64_not hn, hm]
      rw [hm] at HT
      have H1 := Lib.hid (plow_any B b l m 1 w h (by omega) (by decide) (by decide) (by omega) hBw)
      clear h hle hBw hm h63 h31 hn
      go_enter Try.func44, Try.ntmps44
      go_wp2_with fail
      refine H1.out.mono ?_
      rintro e w1 ⟨rfl, h1, hb1, hk1⟩
      have HL := Lib.hid (And.intro h1 (And.intro hb1 hk1))
      clear h1 hb1 hk1
      go_wp2_with fail
      exact bodyPost_ret (v := .int .i64 0) (by simp [results, Try.results44, go_sem]) rfl ⟨HL.out.2, .inl ⟨HD.out, rfl, by rw [HT.out]; exact HL.out.1⟩⟩
    · have i1 : decide (n ≤ 31) = false := decide_eq_false h31
      have i2 : decide ((n : Int) ≤ 31) = false := decide_eq_false (by omega)
      have h3 := lsK_le (2 * n) 1
      have h8 := two_lsK (2 * n) 1
      have HT : Hid (l ++ pnP true n = (l ++ [UInt8.ofNat (208 + lsK (2 * n) 1)]) ++ lwP (18446744073709551615 - n) (2 ^ lsK (2 * n) 1)) := Lib.hid (by unfold pnP; rw [if_pos rfl, if_neg h31, List.append_cons])
      have HS := pleast_any 208 1 (2 * n) w (by decide) (.inl rfl) (by omega)
      rw [Nat.one_mul] at HS
      obtain ⟨m, hm⟩ : ∃ m, 18446744073709551615 - n = m := ⟨_, rfl⟩
      obtain ⟨n2, hn2⟩ : ∃ m, 2 * n = m := ⟨_, rfl⟩
      have u1 : bits .xor .u64 IntKind.u64.max (n : Int) = (m : Int) := by rw [u64_not hn, hm]
      have u4 : IntKind.u64.wrap ((n : Int) * 2) = (n2 : Int) := by rw [IntKind.wrap_u64]; omega
      rw [hm, hn2] at HT
      rw [hn2] at HS h3 h8
      obtain ⟨f, hf⟩ : ∃ f, 208 + lsK n2 1 = f := ⟨_, rfl⟩
      obtain ⟨q, hq⟩ : ∃ q, 2 ^ lsK n2 1 = q := ⟨_, rfl⟩
      rw [hf, hq] at HT HS
      rw [hq] at h8
      have HSS := Lib.hid HS
      have H1 := Lib.hid (pfirst_any B b l f w h (by omega) (by omega) hBw)
      have H2 : Hid (∀ w', Pw B b (l ++ [UInt8.ofNat f]) w' → B ≤ w'.heap.size → Calls Try.prog 21 #[.pointer (some ⟨b, 0, none⟩), .int .u64 (m : Int), .int .i64 (q : Int)] w' (PwAns B b ((l ++ [UInt8.ofNat f]) ++ lwP m q) w')) := Lib.hid fun w' h' hB' => plow_any B b _ m q w' h' (by omega) h8.1 h8.2 (by simp; omega) hB'
      have HBw := Lib.hid hBw
      clear h hle hBw hm hn2 hf hq h63 h31 hn h3 h8 HS
      go_enter Try.func44, Try.ntmps44
      go_wp2_with fail
      refine HSS.out.mono ?_
      rintro e w1 ⟨rfl, rfl⟩
      go_wp2_with fail
      refine H1.out.mono ?_
      rintro e w1 ⟨rfl, h1', hb1, hk1⟩
      have HH := Lib.hid (And.intro h1' (And.intro hb1 hk1))
      clear h1' hb1 hk1
      go_wp2_with fail
      refine (H2.out _ HH.out.1 (Nat.le_trans HBw.out HH.out.2.1.size)).mono ?_
      rintro e w2 ⟨rfl, h2, hb2, hk2⟩
      have HL := Lib.hid (And.intro h2 (And.intro (HH.out.2.1.trans hb2) (HH.out.2.2.trans hk2)))
      clear h2 hb2 hk2
      go_wp2_with fail
      exact bodyPost_ret (v := .int .i64 0) (by simp [results, Try.results44, go_sem]) rfl ⟨HL.out.2, .inl ⟨HD.out, rfl, by rw [HT.out]; exact HL.out.1⟩⟩
  · have e1 : (0 : Int) < (n : Int) / 9223372036854775808 := by omega
    have e2 : decide ((0 : Int) < (n : Int) / 9223372036854775808) = true := decide_eq_true e1
    have HD : Hid (decide (n < 9223372036854775808) = false) := Lib.hid (decide_eq_false h63)
    have HB0 : Hid (Below B w w ∧ Kq b w w) := Lib.hid ⟨Below.refl _ _, Kq.refl _ _⟩
    clear h h63 hn hle hBw
    go_enter Try.func44, Try.ntmps44
    go_wp2_with fail
    exact bodyPost_ret (v := .int .i64 10) (by simp [results, Try.results44, go_sem]) rfl ⟨HB0.out, .inr ⟨HD.out, rfl⟩⟩
end
/-- the world in which a value lies in a new block, behind it the writer's -/
structure Ip (w : World) (B b : Nat) (l : List UInt8) (cs : Array Value) (W : World) : Prop where
  wr : Pw B b l W
  bl : Below B w W
  kw : Kq b w W
  sz : B ≤ W.heap.size
  bx : W.heap[w.heap.size]? = some (.cells cs 25 (0, 0))
section
variable {w W W' : World} {B b : Nat} {l l' : List UInt8} {cs : Array Value} {e : Ending} {ok : Bool}
theorem Ip.new (h : Pw B b l w) (hB : B ≤ w.heap.size) (cs : Array Value) : Ip w B b l cs (w.alloc (.cells cs 25)) :=
  ⟨h.below ((Below.refl _ _).alloc (Nat.le_refl _) _), (Below.refl _ _).alloc hB _, (Kq.refl _ _).alloc _, by simp; omega, heap_alloc_last _ _⟩
theorem Ip.cell (h : Ip w B b l cs W) (i : Nat) : W.cell? ⟨w.heap.size, i, none⟩ = cs[i]? := cell_of_row _ _ i _ _ _ h.bx
theorem Ip.step (h : Ip w B b l cs W) (hs : PwAns B b l' W e W') (hb : b < w.heap.size) : Ip w B b l' cs W' :=
  ⟨hs.2.1, h.bl.trans hs.2.2.1, h.kw.trans hs.2.2.2, Nat.le_trans h.sz hs.2.2.1.size, hs.2.2.2 _ _ _ (by omega) (by decide) h.bx⟩
theorem Ip.it (h : Ip w B b l' cs W) (hl : l' = l) : ItP B b l true w (.returned (.int .i64 0)) W := by subst hl; exact ⟨⟨h.bl, h.kw⟩, .inl ⟨rfl, rfl, h.wr⟩⟩
theorem ItP.behind (h : Ip w B b l' cs W) (ha : ItP B b l ok W e W') : ItP B b l ok w e W' := ⟨⟨h.bl.trans ha.1.1, h.kw.trans ha.1.2⟩, ha.2⟩
end
section
variable {B b : Nat} {l : List UInt8} {w : World}
set_option maxRecDepth 100000 in
set_option maxHeartbeats 2000000 in
/-- a whole number -/
theorem pwhole_any (t : VT) (C : Value) (h : Pw B b l w) (hn : t.n < 18446744073709551616) (hle : l.length + 20 ≤ 140737488355328) (hBw : B ≤ w.heap.size) :
    Calls Try.prog 27 #[.pointer (some ⟨b, 0, none⟩), vv t C] w (ItP B b (l ++ pnP t.g t.n) (!t.g || decide (t.n < 9223372036854775808)) w) := by
  obtain ⟨n, hnn⟩ : ∃ n, t.n = n := ⟨_, rfl⟩
  obtain ⟨g, hgg⟩ : ∃ n, t.g = n := ⟨_, rfl⟩
  have HN := Lib.hid (Ip.new h hBw #[.int .i64 t.k, .bool t.g, .int .u64 (t.n : Int), .string t.s, C])
  unfold vv
  rw [hnn, hgg] at HN ⊢
  rw [hnn] at hn
  have hb := h.lt
  cases g with
  | true =>
    have H1 : Hid (∀ W, Ip w B b l #[.int .i64 t.k, .bool true, .int .u64 (n : Int), .string t.s, C] W → Calls Try.prog 44 #[.pointer (some ⟨b, 0, none⟩), .int .u64 (n : Int)] W (ItP B b (l ++ pnP true n) (decide (n < 9223372036854775808)) w)) := Lib.hid fun W hW => (pbelow_any n hW.wr hn hle hW.sz).mono fun e w' ha => ItP.behind hW ha
    rw [Bool.not_true, Bool.false_or]
    obtain ⟨R, hR⟩ : ∃ R, l ++ pnP true n = R := ⟨_, rfl⟩
    obtain ⟨D, hD⟩ : ∃ D, decide (n < 9223372036854775808) = D := ⟨_, rfl⟩
    rw [hR, hD] at H1 ⊢
    clear h hn hle hBw hnn hgg hb hR hD
    go_enter Try.func27, Try.ntmps27
    go_wp2_with fail
    refine (H1.out _ HN.out).mono ?_
    rintro e w2 ⟨h2a, ⟨hx, rfl, h2c⟩ | ⟨hx, rfl⟩⟩
    · have H2 := Lib.hid (And.intro h2a (And.intro hx h2c))
      clear h2a h2c hx
      go_wp2_with fail
      exact bodyPost_ret (v := .int .i64 0) (by simp [results, Try.results27, go_sem]) rfl ⟨H2.out.1, .inl ⟨H2.out.2.1, rfl, H2.out.2.2⟩⟩
    · have H2 := Lib.hid (And.intro h2a hx)
      clear h2a hx
      go_wp2_with fail
      exact bodyPost_ret (v := .int .i64 10) (by simp [results, Try.results27, go_sem]) rfl ⟨H2.out.1, .inr ⟨H2.out.2, rfl⟩⟩
  | false =>
    rw [Bool.not_false, Bool.true_or]
    by_cases h128 : n < 128
    · have i1 : decide (n < 128) = true := decide_eq_true h128
      have i2 : decide ((n : Int) < 128) = true := decide_eq_true (by omega)
      have u1 : IntKind.u8.wrap (n : Int) = (n : Int) := by rw [IntKind.wrap_u8]; omega
      have HT : Hid (pnP false n = [UInt8.ofNat n]) := Lib.hid (by unfold pnP; rw [if_neg (by decide), if_pos h128])
      have H1 : Hid (∀ W, Ip w B b l #[.int .i64 t.k, .bool false, .int .u64 (n : Int), .string t.s, C] W → Calls Try.prog 26 #[.pointer (some ⟨b, 0, none⟩), .int .u8 (n : Int)] W fun e w' => e = .returned (.tuple #[]) ∧ Ip w B b (l ++ [UInt8.ofNat n]) #[.int .i64 t.k, .bool false, .int .u64 (n : Int), .string t.s, C] w') := Lib.hid fun W hW => (pfirst_any B b l n W hW.wr (by omega) (by omega) hW.sz).mono fun e w' hs => ⟨hs.1, hW.step hs hb⟩
      clear h hn hle hBw hnn hgg hb h128
      go_enter Try.func27, Try.ntmps27
      go_wp2_with fail
      refine (H1.out _ HN.out).mono ?_
      rintro e w1 ⟨rfl, h1⟩
      have HH := Lib.hid h1
      clear h1
      go_wp2_with fail
      exact bodyPost_ret (v := .int .i64 0) (by simp [results, Try.results27, go_sem]) rfl (HH.out.it (by rw [HT.out]))
    · have i1 : decide (n < 128) = false := decide_eq_false h128
      have i2 : decide ((n : Int) < 128) = false := decide_eq_false (by omega)
      have hk8 : 1 * 2 ^ lsK n 1 ≤ 8 := by have := two_lsK n 1; omega
      have HT : Hid (pnP false n = phP 204 1 n) := Lib.hid (by unfold pnP; rw [if_neg (by decide), if_neg h128])
      have H1 : Hid (∀ W, Ip w B b l #[.int .i64 t.k, .bool false, .int .u64 (n : Int), .string t.s, C] W → Calls Try.prog 28 #[.pointer (some ⟨b, 0, none⟩), .int .u8 204, .int .i64 1, .int .u64 (n : Int)] W fun e w' => e = .returned (.tuple #[]) ∧ Ip w B b (l ++ phP 204 1 n) #[.int .i64 t.k, .bool false, .int .u64 (n : Int), .string t.s, C] w') := Lib.hid fun W hW => (phead_any B b l 204 1 n W hW.wr (by decide) (.inl rfl) hn hk8 (by omega) hW.sz).mono fun e w' hs => ⟨hs.1, hW.step hs hb⟩
      clear h hn hle hBw hnn hgg hb h128 hk8
      go_enter Try.func27, Try.ntmps27
      go_wp2_with fail
      refine (H1.out _ HN.out).mono ?_
      rintro e w1 ⟨rfl, h1⟩
      have HH := Lib.hid h1
      clear h1
      go_wp2_with fail
      exact bodyPost_ret (v := .int .i64 0) (by simp [results, Try.results27, go_sem]) rfl (HH.out.it (by rw [HT.out]))
end
end Go.Proofs.Ytgadpmddbkimfaa.nn
namespace Go.Proofs.Ytgadpmddbkimfaa.nn
open Go.RowKit

section
variable {B b : Nat} {l : List UInt8} {w : World}
set_option maxRecDepth 100000 in
set_option maxHeartbeats 8000000 in
/-- behind the head: the type and the bytes -/
theorem pext_any (t : VT) (C : Value) (h : Pw B b l w) (_ : t.n < 18446744073709551616) (hle : l.length + t.s.size + 40 ≤ 140737488355328) (hBw : B ≤ w.heap.size) :
    Calls Try.prog 31 #[.pointer (some ⟨b, 0, none⟩), vv t C] w (PwAns B b (l ++ pxP t.n t.s) w) := by
  have HN := Lib.hid (Ip.new h hBw #[.int .i64 t.k, .bool t.g, .int .u64 (t.n : Int), .string t.s, C])
  have hb := h.lt
  obtain ⟨n, hnn⟩ : ∃ n, t.n = n := ⟨_, rfl⟩
  obtain ⟨s, hss⟩ : ∃ n, t.s = n := ⟨_, rfl⟩
  obtain ⟨k, hkk⟩ : ∃ n, t.k = n := ⟨_, rfl⟩
  obtain ⟨g, hgg⟩ : ∃ n, t.g = n := ⟨_, rfl⟩
  unfold vv
  rw [hnn, hss, hkk, hgg] at HN ⊢
  rw [hss] at hle
  obtain ⟨cs, hcs⟩ : ∃ cs : Array Value, #[.int .i64 k, .bool g, .int .u64 (n : Int), .string s, C] = cs := ⟨_, rfl⟩
  rw [hcs] at HN
  have HC : Hid (∀ l' W, Ip w B b l' cs W → W.cell? ⟨w.heap.size, 2, none⟩ = some (.int .u64 (n : Int)) ∧ W.cell? ⟨w.heap.size, 3, none⟩ = some (.string s)) := Lib.hid fun l' W hW => by
    have h2 := hW.cell 2
    have h3 := hW.cell 3
    rw [← hcs] at h2 h3
    exact ⟨h2, h3⟩
  have HF : Hid (∀ (l' : List UInt8) (d : Nat) W, Ip w B b l' cs W → d < 256 → l'.length + 1 ≤ 140737488355328 → Calls Try.prog 26 #[.pointer (some ⟨b, 0, none⟩), .int .u8 (d : Int)] W fun e w' => e = .returned (.tuple #[]) ∧ Ip w B b (l' ++ [UInt8.ofNat d]) cs w') := Lib.hid fun l' d W hW hd hl => (pfirst_any B b l' d W hW.wr hd hl hW.sz).mono fun e w' hs => ⟨hs.1, hW.step hs hb⟩
  have hk8 : 1 * 2 ^ lsK s.size 1 ≤ 8 := by have := two_lsK s.size 1; omega
  have HH : Hid (∀ W, Ip w B b l cs W → Calls Try.prog 28 #[.pointer (some ⟨b, 0, none⟩), .int .u8 199, .int .i64 1, .int .u64 (s.size : Int)] W fun e w' => e = .returned (.tuple #[]) ∧ Ip w B b (l ++ phP 199 1 s.size) cs w') := Lib.hid fun W hW => (phead_any B b l 199 1 s.size W hW.wr (by decide) (.inl rfl) (by omega) hk8 (by omega) hW.sz).mono fun e w' hs => ⟨hs.1, hW.step hs hb⟩
  have HW1 := Lib.hid hcs
  obtain ⟨nb, hnb⟩ : ∃ x, n % 256 = x := ⟨_, rfl⟩
  have hnb256 : nb < 256 := by omega
  have u1 : IntKind.u8.wrap (n : Int) = (nb : Int) := by rw [IntKind.wrap_u8]; omega
  obtain ⟨P, hP⟩ : ∃ P, peP s.size = P := ⟨_, rfl⟩
  have hPl : P.length ≤ 9 := by rw [← hP]; exact peP_le _
  have HT : Hid (l ++ pxP n s = (l ++ P ++ [UInt8.ofNat nb]) ++ s.data.toList) := Lib.hid (by unfold pxP; rw [hP, hnb]; simp only [List.append_assoc])
  have hln : (l ++ P ++ [UInt8.ofNat nb]).length + s.size ≤ 140737488355328 := by simp only [List.length_append, List.length_singleton]; omega
  have hl1 : (l ++ P).length + 1 ≤ 140737488355328 := by rw [List.length_append]; omega
  have hl0 : l.length + 1 ≤ 140737488355328 := by omega
  have u9 : IntKind.u64.wrap (s.size : Int) = (s.size : Int) := by rw [IntKind.wrap_u64]; omega
  rw [HT.out]
  have hHS : ∀ W, Ip w B b (l ++ P ++ [UInt8.ofNat nb]) cs W → ∃ v, Pbk B b v v (l ++ P ++ [UInt8.ofNat nb]) W ∧ Below B w W ∧ Kq b w W ∧ B ≤ W.heap.size := fun W hW => by
    obtain ⟨v, hv⟩ := hW.wr
    exact ⟨v, hv, hW.bl, hW.kw, hW.sz⟩
  have HHS := Lib.hid hHS
  clear h hle hBw hnn hss hkk hgg hb hHS hk8 hnb hPl HT
  have hcase : (∃ d : Nat, P = [UInt8.ofNat d] ∧ ((s.size = 1 ∧ d = 212) ∨ (s.size = 2 ∧ d = 213) ∨ (s.size = 4 ∧ d = 214) ∨ (s.size = 8 ∧ d = 215) ∨ (s.size = 16 ∧ d = 216))) ∨ (P = phP 199 1 s.size ∧ ¬ s.size = 1 ∧ ¬ s.size = 2 ∧ ¬ s.size = 4 ∧ ¬ s.size = 8 ∧ ¬ s.size = 16) := by
    rw [← hP]
    unfold peP
    by_cases h1 : s.size = 1
    · rw [if_pos h1]; exact .inl ⟨212, rfl, .inl ⟨h1, rfl⟩⟩
    · by_cases h2 : s.size = 2
      · rw [if_neg h1, if_pos h2]; exact .inl ⟨213, rfl, .inr (.inl ⟨h2, rfl⟩)⟩
      · by_cases h4 : s.size = 4
        · rw [if_neg h1, if_neg h2, if_pos h4]; exact .inl ⟨214, rfl, .inr (.inr (.inl ⟨h4, rfl⟩))⟩
        · by_cases h8 : s.size = 8
          · rw [if_neg h1, if_neg h2, if_neg h4, if_pos h8]; exact .inl ⟨215, rfl, .inr (.inr (.inr (.inl ⟨h8, rfl⟩)))⟩
          · by_cases h16 : s.size = 16
            · rw [if_neg h1, if_neg h2, if_neg h4, if_neg h8, if_pos h16]; exact .inl ⟨216, rfl, .inr (.inr (.inr (.inr ⟨h16, rfl⟩)))⟩
            · rw [if_neg h1, if_neg h2, if_neg h4, if_neg h8, if_neg h16]; exact .inr ⟨rfl, h1, h2, h4, h8, h16⟩
  clear hP
  rcases hcase with ⟨d, hPd, hd⟩ | ⟨hPd, g1, g2, g4, g8, g16⟩
  · have hd256 : d < 256 := by omega
    have H1 := Lib.hid (HF.out l d _ HN.out hd256 hl0)
    have H2 : Hid (∀ W, Ip w B b (l ++ [UInt8.ofNat d]) cs W → Calls Try.prog 26 #[.pointer (some ⟨b, 0, none⟩), .int .u8 (nb : Int)] W fun e w' => e = .returned (.tuple #[]) ∧ Ip w B b (l ++ P ++ [UInt8.ofNat nb]) cs w') := Lib.hid fun W hW => by
      rw [← hPd] at hW
      exact HF.out _ nb W hW hnb256 hl1
    obtain ⟨L3, hL3⟩ : ∃ L3, l ++ P ++ [UInt8.ofNat nb] = L3 := ⟨_, rfl⟩
    rw [hL3] at H2 HHS hln ⊢
    clear hPd hd256 hl0 hl1 HF HH hL3 HN HW1
    subst hcs
    rcases hd with ⟨hs1, rfl⟩ | ⟨hs1, rfl⟩ | ⟨hs1, rfl⟩ | ⟨hs1, rfl⟩ | ⟨hs1, rfl⟩
    all_goals
      have q1 : (s.size : Int) = _ := congrArg Nat.cast hs1
      go_enter Try.func31, Try.ntmps31
      go_wp2_with fail
      refine H1.out.mono ?_
      rintro e w1 ⟨rfl, h1⟩
      have HH1 := Lib.hid h1
      obtain ⟨e2, e3⟩ := HC.out _ _ HH1.out
      clear h1
      go_wp2_with fail
      refine (H2.out _ HH1.out).mono ?_
      rintro e w2 ⟨rfl, h2⟩
      have HH2 := Lib.hid h2
      clear e2 e3 h2
      obtain ⟨e2, e3⟩ := HC.out _ _ HH2.out
      obtain ⟨v, hv, hb2, hk2, hz2⟩ := HHS.out _ HH2.out
      have c0 := hv.c0
      have HV := Lib.hid hv
      have HA : Hid (Pbk B b v v L3 w2.drew) := Lib.hid (hv.below (Below.drew (Below.refl _ _)))
      have HB2 : Hid (Below B w w2.drew ∧ Kq b w w2.drew) := Lib.hid ⟨hb2.trans (Below.drew (Below.refl _ _)), hk2.trans (Kq.drew (Kq.refl _ _))⟩
      have hsz : B ≤ w2.drew.heap.size := hz2
      clear hv hb2 hk2 hz2 HC HHS H1 H2 HH1 HH2
      go_wp2_with fail
      go_region_law (refine step_appPS rfl (.tmp 44) (.tmp 46) rfl B b v L3 s rfl HA.out rfl hln hsz ?_; intro v2 w3 h3 hb3 hk3; have d0 := h3.c0; have f0 := h3.f0; obtain ⟨A2, n2, c2, rfl⟩ := h3.form)
      all_goals
        have HZ := Lib.hid (And.intro h3.put (And.intro ((HB2.out.1.trans hb3).setCell (p := ⟨b, 0, none⟩) HV.out.1 (.slice A2 n2 c2)) ((HB2.out.2.trans hk3).set 0 (.slice A2 n2 c2))))
        clear h3 hb3 hk3 d0 f0 c0
        go_wp2_with fail
        go_end0
        exact ⟨rfl, HZ.out⟩
  · have H1 := Lib.hid (HH.out _ HN.out)
    have H2 : Hid (∀ W, Ip w B b (l ++ phP 199 1 s.size) cs W → Calls Try.prog 26 #[.pointer (some ⟨b, 0, none⟩), .int .u8 (nb : Int)] W fun e w' => e = .returned (.tuple #[]) ∧ Ip w B b (l ++ P ++ [UInt8.ofNat nb]) cs w') := Lib.hid fun W hW => by
      rw [← hPd] at hW
      exact HF.out _ nb W hW hnb256 hl1
    obtain ⟨L3, hL3⟩ : ∃ L3, l ++ P ++ [UInt8.ofNat nb] = L3 := ⟨_, rfl⟩
    rw [hL3] at H2 HHS hln ⊢
    obtain ⟨L1, hL1⟩ : ∃ L1, l ++ phP 199 1 s.size = L1 := ⟨_, rfl⟩
    rw [hL1] at H1 H2
    have r1 : ((s.size : Int) == 1) = false := by simp; omega
    have r2 : ((s.size : Int) == 2) = false := by simp; omega
    have r4 : ((s.size : Int) == 4) = false := by simp; omega
    have r8 : ((s.size : Int) == 8) = false := by simp; omega
    have r16 : ((s.size : Int) == 16) = false := by simp; omega
    clear hPd hl0 hl1 HF HH hL3 hL1 HN HW1 g1 g2 g4 g8 g16
    subst hcs
    go_enter Try.func31, Try.ntmps31
    go_wp2_with fail
    refine H1.out.mono ?_
    rintro e w1 ⟨rfl, h1⟩
    have HH1 := Lib.hid h1
    obtain ⟨e2, e3⟩ := HC.out _ _ HH1.out
    clear h1
    go_wp2_with fail
    refine (H2.out _ HH1.out).mono ?_
    rintro e w2 ⟨rfl, h2⟩
    have HH2 := Lib.hid h2
    clear e2 e3 h2
    obtain ⟨e2, e3⟩ := HC.out _ _ HH2.out
    obtain ⟨v, hv, hb2, hk2, hz2⟩ := HHS.out _ HH2.out
    have c0 := hv.c0
    have HV := Lib.hid hv
    have HA : Hid (Pbk B b v v L3 w2.drew) := Lib.hid (hv.below (Below.drew (Below.refl _ _)))
    have HB2 : Hid (Below B w w2.drew ∧ Kq b w w2.drew) := Lib.hid ⟨hb2.trans (Below.drew (Below.refl _ _)), hk2.trans (Kq.drew (Kq.refl _ _))⟩
    have hsz : B ≤ w2.drew.heap.size := hz2
    clear hv hb2 hk2 hz2 HC HHS H1 H2 HH1 HH2
    go_wp2_with fail
    go_region_law (refine step_appPS rfl (.tmp 44) (.tmp 46) rfl B b v L3 s rfl HA.out rfl hln hsz ?_; intro v2 w3 h3 hb3 hk3; have d0 := h3.c0; have f0 := h3.f0; obtain ⟨A2, n2, c2, rfl⟩ := h3.form)
    all_goals
      have HZ := Lib.hid (And.intro h3.put (And.intro ((HB2.out.1.trans hb3).setCell (p := ⟨b, 0, none⟩) HV.out.1 (.slice A2 n2 c2)) ((HB2.out.2.trans hk3).set 0 (.slice A2 n2 c2))))
      clear h3 hb3 hk3 d0 f0 c0
      go_wp2_with fail
      go_end0
      exact ⟨rfl, HZ.out⟩
end
end Go.Proofs.Ytgadpmddbkimfaa.nn
namespace Go.Proofs.Ytgadpmddbkimfaa.nn
open Go.RowKit

theorem say_leaf {t : VT} (hl : t.l = []) : say t = pkS t.k t.g t.n := by rw [say_mk, hl]; show (pkS t.k t.g t.n && true) = _; rw [Bool.and_true]
section
variable {B b : Nat} {l : List UInt8} {w : World}
set_option maxRecDepth 100000 in
set_option maxHeartbeats 4000000 in
theorem pitem_a (t : VT) (C : Value) (h : Pw B b l w) (hk : t.k = 0 ∨ t.k = 1) (hn : t.k = 1 → t.n ≤ 1) (hl : t.l = []) (hle : l.length + 40 ≤ 140737488355328) (hBw : B ≤ w.heap.size) :
    Calls Try.prog 15 #[.pointer (some ⟨b, 0, none⟩), vv t C] w (ItP B b (l ++ pkB t) (say t) w) := by
  have HN := Lib.hid (Ip.new h hBw #[.int .i64 t.k, .bool t.g, .int .u64 (t.n : Int), .string t.s, C])
  have hb := h.lt
  have hsay : say t = true := by
    rw [say_leaf hl]
    unfold pkS
    rw [if_neg (by omega), decide_eq_false (by omega)]
    rfl
  rw [hsay]
  have hi := pkB_mk t
  obtain ⟨R, hR⟩ : ∃ R, pkB t = R := ⟨_, rfl⟩
  rw [hR] at hi ⊢
  obtain ⟨n, hnn⟩ : ∃ n, t.n = n := ⟨_, rfl⟩
  obtain ⟨k, hkk⟩ : ∃ k, t.k = k := ⟨_, rfl⟩
  unfold vv
  rw [hkk, hnn] at HN hi ⊢
  rw [hkk] at hk hn
  rw [hnn] at hn
  have H1 : Hid (∀ (d : Nat) W, d < 256 → Ip w B b l #[.int .i64 k, .bool t.g, .int .u64 (n : Int), .string t.s, C] W → Calls Try.prog 26 #[.pointer (some ⟨b, 0, none⟩), .int .u8 (d : Int)] W fun e w' => e = .returned (.tuple #[]) ∧ Ip w B b (l ++ [UInt8.ofNat d]) #[.int .i64 k, .bool t.g, .int .u64 (n : Int), .string t.s, C] w') := Lib.hid fun d W hd hW => (pfirst_any B b l d W hW.wr hd (by omega) hW.sz).mono fun e w' hs => ⟨hs.1, hW.step hs hb⟩
  have HI := Lib.hid hi
  clear h hsay hi hR hb hl hle hBw
  rcases hk with rfl | rfl
  · have HR : Hid (R = [UInt8.ofNat 192]) := Lib.hid HI.out
    have H2 := Lib.hid (H1.out 192 _ (by decide) HN.out)
    clear HI H1 hkk hnn hn
    go_enter Try.func15, Try.ntmps15
    go_wp2_with fail
    refine H2.out.mono ?_
    rintro e w1 ⟨rfl, h1⟩
    have HH := Lib.hid h1
    clear h1 H2
    go_wp2_with fail
    exact bodyPost_ret (v := .int .i64 0) (by simp [results, Try.results15, go_sem]) rfl (HH.out.it (by rw [HR.out]))
  · have hn1 := hn rfl
    have HR : Hid (R = [UInt8.ofNat (194 + n)]) := Lib.hid HI.out
    have H2 := Lib.hid (H1.out (194 + n) _ (by omega) HN.out)
    have u1 : IntKind.u8.wrap (n : Int) = (n : Int) := by rw [IntKind.wrap_u8]; omega
    have u2 : IntKind.u8.wrap (194 + (n : Int)) = ((194 + n : Nat) : Int) := by rw [IntKind.wrap_u8]; omega
    obtain ⟨d, hd⟩ : ∃ d, 194 + n = d := ⟨_, rfl⟩
    rw [hd] at HR H2 u2
    clear HI H1 hkk hnn hn hn1 hd
    go_enter Try.func15, Try.ntmps15
    go_wp2_with fail
    refine H2.out.mono ?_
    rintro e w1 ⟨rfl, h1⟩
    have HH := Lib.hid h1
    clear h1 H2
    go_wp2_with fail
    exact bodyPost_ret (v := .int .i64 0) (by simp [results, Try.results15, go_sem]) rfl (HH.out.it (by rw [HR.out]))
set_option maxRecDepth 100000 in
set_option maxHeartbeats 4000000 in
theorem pitem_int (t : VT) (C : Value) (h : Pw B b l w) (hk : t.k = 4) (hn : t.n < 18446744073709551616) (hl : t.l = []) (hle : l.length + 40 ≤ 140737488355328) (hBw : B ≤ w.heap.size) :
    Calls Try.prog 15 #[.pointer (some ⟨b, 0, none⟩), vv t C] w (ItP B b (l ++ pkB t) (say t) w) := by
  have HN := Lib.hid (Ip.new h hBw #[.int .i64 t.k, .bool t.g, .int .u64 (t.n : Int), .string t.s, C])
  have hsay : say t = (!t.g || decide (t.n < 9223372036854775808)) := by
    rw [say_leaf hl]
    unfold pkS
    rw [if_pos hk]
  have hi : pkB t = pnP t.g t.n := by rw [pkB_mk, hk]; rfl
  rw [hsay, hi]
  have H1 : Hid (∀ W, Ip w B b l #[.int .i64 t.k, .bool t.g, .int .u64 (t.n : Int), .string t.s, C] W → Calls Try.prog 27 #[.pointer (some ⟨b, 0, none⟩), vv t C] W (ItP B b (l ++ pnP t.g t.n) (!t.g || decide (t.n < 9223372036854775808)) w)) := Lib.hid fun W hW => (pwhole_any t C hW.wr hn (by omega) hW.sz).mono fun e w' ha => ItP.behind hW ha
  obtain ⟨R, hR⟩ : ∃ R, l ++ pnP t.g t.n = R := ⟨_, rfl⟩
  obtain ⟨D, hD⟩ : ∃ D, (!t.g || decide (t.n < 9223372036854775808)) = D := ⟨_, rfl⟩
  rw [hR, hD] at H1 ⊢
  unfold vv at H1 ⊢
  rw [hk] at H1 HN ⊢
  have H2 := Lib.hid (H1.out _ HN.out)
  clear h hsay hi hR hD hl hle hBw hk hn H1
  go_enter Try.func15, Try.ntmps15
  go_wp2_with fail
  refine H2.out.mono ?_
  rintro e w2 ⟨h2a, ⟨hx, rfl, h2c⟩ | ⟨hx, rfl⟩⟩
  · have HZ := Lib.hid (And.intro h2a (And.intro hx h2c))
    clear h2a h2c hx H2
    go_wp2_with fail
    exact bodyPost_ret (v := .int .i64 0) (by simp [results, Try.results15, go_sem]) rfl ⟨HZ.out.1, .inl ⟨HZ.out.2.1, rfl, HZ.out.2.2⟩⟩
  · have HZ := Lib.hid (And.intro h2a hx)
    clear h2a hx H2
    go_wp2_with fail
    exact bodyPost_ret (v := .int .i64 10) (by simp [results, Try.results15, go_sem]) rfl ⟨HZ.out.1, .inr ⟨HZ.out.2, rfl⟩⟩
end
end Go.Proofs.Ytgadpmddbkimfaa.nn
namespace Go.Proofs.Ytgadpmddbkimfaa.nn
open Go.RowKit

section
variable {B b : Nat} {l : List UInt8} {w : World}
set_option maxRecDepth 100000 in
set_option maxHeartbeats 4000000 in
theorem pitem_fl (t : VT) (C : Value) (h : Pw B b l w) (hk : t.k = 7 ∨ t.k = 8) (hn : t.n < 18446744073709551616) (hl : t.l = []) (hle : l.length + 40 ≤ 140737488355328) (hBw : B ≤ w.heap.size) :
    Calls Try.prog 15 #[.pointer (some ⟨b, 0, none⟩), vv t C] w (ItP B b (l ++ pkB t) (say t) w) := by
  have HN := Lib.hid (Ip.new h hBw #[.int .i64 t.k, .bool t.g, .int .u64 (t.n : Int), .string t.s, C])
  have hb := h.lt
  have hsay : say t = true := by
    rw [say_leaf hl]
    unfold pkS
    rw [if_neg (by omega), decide_eq_false (by omega)]
    rfl
  rw [hsay]
  have hi := pkB_mk t
  obtain ⟨R, hR⟩ : ∃ R, pkB t = R := ⟨_, rfl⟩
  rw [hR] at hi ⊢
  obtain ⟨n, hnn⟩ : ∃ n, t.n = n := ⟨_, rfl⟩
  obtain ⟨k, hkk⟩ : ∃ k, t.k = k := ⟨_, rfl⟩
  unfold vv
  rw [hkk, hnn] at HN hi ⊢
  rw [hkk] at hk
  rw [hnn] at hn
  obtain ⟨cs, hcs⟩ : ∃ cs : Array Value, #[.int .i64 k, .bool t.g, .int .u64 (n : Int), .string t.s, C] = cs := ⟨_, rfl⟩
  rw [hcs] at HN
  have HC : Hid (∀ l' W, Ip w B b l' cs W → W.cell? ⟨w.heap.size, 2, none⟩ = some (.int .u64 (n : Int))) := Lib.hid fun l' W hW => by
    have h2 := hW.cell 2
    rw [← hcs] at h2
    exact h2
  have H1 : Hid (∀ (d : Nat) W, d < 256 → Ip w B b l cs W → Calls Try.prog 26 #[.pointer (some ⟨b, 0, none⟩), .int .u8 (d : Int)] W fun e w' => e = .returned (.tuple #[]) ∧ Ip w B b (l ++ [UInt8.ofNat d]) cs w') := Lib.hid fun d W hd hW => (pfirst_any B b l d W hW.wr hd (by omega) hW.sz).mono fun e w' hs => ⟨hs.1, hW.step hs hb⟩
  have H3 : Hid (∀ (d q : Nat) W, 0 < q → q ≤ 8 → Ip w B b (l ++ [UInt8.ofNat d]) cs W → Calls Try.prog 21 #[.pointer (some ⟨b, 0, none⟩), .int .u64 (n : Int), .int .i64 (q : Int)] W fun e w' => e = .returned (.tuple #[]) ∧ Ip w B b (l ++ [UInt8.ofNat d] ++ lwP n q) cs w') := Lib.hid fun d q W hq hq8 hW => (plow_any B b _ n q W hW.wr hn hq hq8 (by rw [List.length_append]; show l.length + 1 + 8 ≤ _; omega) hW.sz).mono fun e w' hs => ⟨hs.1, hW.step hs hb⟩
  have HI := Lib.hid hi
  clear h hsay hi hR hb hl hle hBw hn
  rcases hk with rfl | rfl
  · have HR : Hid (l ++ [UInt8.ofNat 202] ++ lwP n 4 = l ++ R) := Lib.hid (by rw [HI.out, List.append_assoc]; rfl)
    have H2 := Lib.hid (H1.out 202 _ (by decide) HN.out)
    have H4 := Lib.hid (fun W => H3.out 202 4 W (by decide) (by decide))
    clear HI H1 H3 hkk hnn
    subst hcs
    go_enter Try.func15, Try.ntmps15
    go_wp2_with fail
    refine H2.out.mono ?_
    rintro e w1 ⟨rfl, h1⟩
    have HH := Lib.hid h1
    have e2 := HC.out _ _ h1
    clear h1 H2
    go_wp2_with fail
    refine (H4.out _ HH.out).mono ?_
    rintro e w2 ⟨rfl, h2⟩
    have HH2 := Lib.hid h2
    clear h2 H4 e2
    go_wp2_with fail
    exact bodyPost_ret (v := .int .i64 0) (by simp [results, Try.results15, go_sem]) rfl (HH2.out.it HR.out)
  · have HR : Hid (l ++ [UInt8.ofNat 203] ++ lwP n 8 = l ++ R) := Lib.hid (by rw [HI.out, List.append_assoc]; rfl)
    have H2 := Lib.hid (H1.out 203 _ (by decide) HN.out)
    have H4 := Lib.hid (fun W => H3.out 203 8 W (by decide) (by decide))
    clear HI H1 H3 hkk hnn
    subst hcs
    go_enter Try.func15, Try.ntmps15
    go_wp2_with fail
    refine H2.out.mono ?_
    rintro e w1 ⟨rfl, h1⟩
    have HH := Lib.hid h1
    have e2 := HC.out _ _ h1
    clear h1 H2
    go_wp2_with fail
    refine (H4.out _ HH.out).mono ?_
    rintro e w2 ⟨rfl, h2⟩
    have HH2 := Lib.hid h2
    clear h2 H4 e2
    go_wp2_with fail
    exact bodyPost_ret (v := .int .i64 0) (by simp [results, Try.results15, go_sem]) rfl (HH2.out.it HR.out)
set_option maxRecDepth 100000 in
set_option maxHeartbeats 4000000 in
theorem pitem_te (t : VT) (C : Value) (h : Pw B b l w) (hk : t.k = 10 ∨ t.k = 14) (hn : t.n < 18446744073709551616) (hl : t.l = []) (hle : l.length + t.s.size + 60 ≤ 140737488355328) (hBw : B ≤ w.heap.size) :
    Calls Try.prog 15 #[.pointer (some ⟨b, 0, none⟩), vv t C] w (ItP B b (l ++ pkB t) (say t) w) := by
  have HN := Lib.hid (Ip.new h hBw #[.int .i64 t.k, .bool t.g, .int .u64 (t.n : Int), .string t.s, C])
  have hb := h.lt
  have hsay : say t = true := by
    rw [say_leaf hl]
    unfold pkS
    rw [if_neg (by omega), decide_eq_false (by omega)]
    rfl
  rw [hsay]
  have H1 : Hid (∀ W, Ip w B b l #[.int .i64 t.k, .bool t.g, .int .u64 (t.n : Int), .string t.s, C] W → Calls Try.prog 29 #[.pointer (some ⟨b, 0, none⟩), .string t.s] W fun e w' => e = .returned (.tuple #[]) ∧ Ip w B b (l ++ ptP t.s) #[.int .i64 t.k, .bool t.g, .int .u64 (t.n : Int), .string t.s, C] w') := Lib.hid fun W hW => (ptext_any t.s hW.wr (by omega) hW.sz).mono fun e w' hs => ⟨hs.1, hW.step hs hb⟩
  have H3 : Hid (∀ W, Ip w B b l #[.int .i64 t.k, .bool t.g, .int .u64 (t.n : Int), .string t.s, C] W → Calls Try.prog 31 #[.pointer (some ⟨b, 0, none⟩), vv t C] W fun e w' => e = .returned (.tuple #[]) ∧ Ip w B b (l ++ pxP t.n t.s) #[.int .i64 t.k, .bool t.g, .int .u64 (t.n : Int), .string t.s, C] w') := Lib.hid fun W hW => (pext_any t C hW.wr hn (by omega) hW.sz).mono fun e w' hs => ⟨hs.1, hW.step hs hb⟩
  have hi := pkB_mk t
  obtain ⟨R, hR⟩ : ∃ R, pkB t = R := ⟨_, rfl⟩
  rw [hR] at hi ⊢
  have HI := Lib.hid hi
  unfold vv at H3 ⊢
  clear h hsay hi hR hb hl hle hBw hn
  rcases hk with hk | hk
  · have HR : Hid (l ++ ptP t.s = l ++ R) := Lib.hid (by rw [HI.out, hk]; rfl)
    rw [hk] at H1 HN ⊢
    have H2 := Lib.hid (H1.out _ HN.out)
    clear HI H1 H3 hk
    go_enter Try.func15, Try.ntmps15
    go_wp2_with fail
    refine H2.out.mono ?_
    rintro e w1 ⟨rfl, h1⟩
    have HH := Lib.hid h1
    clear h1 H2
    go_wp2_with fail
    exact bodyPost_ret (v := .int .i64 0) (by simp [results, Try.results15, go_sem]) rfl (HH.out.it HR.out)
  · have HR : Hid (l ++ pxP t.n t.s = l ++ R) := Lib.hid (by rw [HI.out, hk]; rfl)
    rw [hk] at H3 HN ⊢
    have H2 := Lib.hid (H3.out _ HN.out)
    clear HI H1 H3 hk
    go_enter Try.func15, Try.ntmps15
    go_wp2_with fail
    refine H2.out.mono ?_
    rintro e w1 ⟨rfl, h1⟩
    have HH := Lib.hid h1
    clear h1 H2
    go_wp2_with fail
    exact bodyPost_ret (v := .int .i64 0) (by simp [results, Try.results15, go_sem]) rfl (HH.out.it HR.out)
set_option maxRecDepth 100000 in
set_option maxHeartbeats 4000000 in
theorem pitem_no (t : VT) (C : Value) (h : Pw B b l w) (hk : t.k = 2 ∨ t.k = 3 ∨ t.k = 5 ∨ t.k = 6 ∨ t.k = 13) (hBw : B ≤ w.heap.size) :
    Calls Try.prog 15 #[.pointer (some ⟨b, 0, none⟩), vv t C] w (ItP B b (l ++ pkB t) (say t) w) := by
  have HN := Lib.hid (Ip.new h hBw #[.int .i64 t.k, .bool t.g, .int .u64 (t.n : Int), .string t.s, C])
  have hsay : say t = false := by
    rw [say_mk]
    unfold pkS
    rw [if_neg (by omega), decide_eq_true hk]
    rfl
  rw [hsay]
  have HZ : Hid (Below B w (w.alloc (.cells #[.int .i64 t.k, .bool t.g, .int .u64 (t.n : Int), .string t.s, C] 25)) ∧ Kq b w (w.alloc (.cells #[.int .i64 t.k, .bool t.g, .int .u64 (t.n : Int), .string t.s, C] 25))) := Lib.hid ⟨HN.out.bl, HN.out.kw⟩
  obtain ⟨R, hR⟩ : ∃ R, l ++ pkB t = R := ⟨_, rfl⟩
  rw [hR]
  unfold vv
  clear h hsay hR hBw HN
  rcases hk with hk | hk | hk | hk | hk
  all_goals
    rw [hk] at HZ ⊢
    clear hk
    go_enter Try.func15, Try.ntmps15
    go_wp2_with fail
    exact bodyPost_ret (v := .int .i64 10) (by simp [results, Try.results15, go_sem]) rfl ⟨HZ.out, .inr ⟨rfl, rfl⟩⟩
end
end Go.Proofs.Ytgadpmddbkimfaa.nn
namespace Go.Proofs.Ytgadpmddbkimfaa.nn
open Go.RowKit

/-- items of less than a bound are written -/
def Itp (w0 : World) (b : Nat) (t : VT) : Prop := ∀ (C : Value) (l : List UInt8) (W : World), Lst w0 C t.l → Below w0.heap.size w0 W → Pw w0.heap.size b l W → l.length + (pkB t).length + 60 ≤ 140737488355328 →
  Calls Try.prog 15 #[.pointer (some ⟨b, 0, none⟩), vv t C] W (ItP w0.heap.size b (l ++ pkB t) (say t) W)
theorem pkL_take_le {L : List VT} {i : Nat} (h : i < L.length) : (pkL (L.take i)).length + (pkB L[i]).length ≤ (pkL L).length := by
  have h1 := congrArg List.length (pkL_take_succ h)
  have h2 := congrArg List.length (pkL_app (L.take (i + 1)) (L.drop (i + 1)))
  rw [List.take_append_drop] at h2
  simp only [List.length_append] at h1 h2
  omega
theorem lsK2_le {n : Nat} (hn : n < 18446744073709551616) : lsK n 2 ≤ 2 := by
  unfold lsK
  simp only [Nat.reducePow, Nat.reduceMul]
  by_cases h1 : n < 65536
  · rw [if_pos h1]; omega
  · by_cases h2 : n < 4294967296
    · rw [if_neg h1, if_pos h2]; omega
    · rw [if_neg h1, if_neg h2, if_pos hn]; omega
set_option maxRecDepth 100000 in
set_option maxHeartbeats 8000000 in
theorem pmany_any (w0 : World) (b few first c : Nat) (L : List VT) (V : Value) (l : List UInt8) (w : World) (hL : Lst w0 V L) (hw : Below w0.heap.size w0 w) (h : Pw w0.heap.size b l w) (hfew : few + 16 < 256) (hfirst : first + 3 < 256) (hc : c < 9223372036854775808)
    (hLn : L.length ≤ 1099511627776) (hle : l.length + (pmP few first c).length + (pkL L).length + 60 ≤ 140737488355328) (ih : ∀ t, t ∈ L → Itp w0 b t) :
    Calls Try.prog 30 #[.pointer (some ⟨b, 0, none⟩), .int .u8 (few : Int), .int .u8 (first : Int), .int .i64 (c : Int), V] w (ItP w0.heap.size b (l ++ (pmP few first c ++ pkL L)) (sayL L) w) := by
  have hBw := hw.size
  obtain ⟨A, cc, rfl, hlc, hA⟩ := hL.out
  obtain ⟨l1, hl1⟩ : ∃ l1, l ++ pmP few first c = l1 := ⟨_, rfl⟩
  have hll : l1.length = l.length + (pmP few first c).length := by rw [← hl1, List.length_append]
  have hk8 : 2 * 2 ^ lsK c 2 ≤ 8 := by
    have h2 := lsK2_le (n := c) (by omega)
    have : lsK c 2 = 0 ∨ lsK c 2 = 1 ∨ lsK c 2 = 2 := by omega
    rcases this with e | e | e <;> rw [e] <;> decide
  obtain ⟨Q, hQ⟩ : ∃ Q, decide (c < 16) = Q := ⟨_, rfl⟩
  have hQ1 : Q = true → c < 16 := fun h => of_decide_eq_true (hQ.trans h)
  have hQ0 : Q = false → ¬ c < 16 := fun h => of_decide_eq_false (hQ.trans h)
  have hQ2 : decide ((c : Int) < 16) = Q := by rw [← hQ]; exact decide_eq_decide.2 (by omega)
  have HF1 : Hid (c < 16 → Calls Try.prog 26 #[.pointer (some ⟨b, 0, none⟩), .int .u8 ((few + c : Nat) : Int)] w (PwAns w0.heap.size b l1 w)) := Lib.hid fun h16 => by
    have := pfirst_any w0.heap.size b l (few + c) w h (by omega) (by omega) hBw
    rw [← hl1]
    unfold pmP
    rw [if_pos h16]
    exact this
  have HF0 : Hid (¬ c < 16 → Calls Try.prog 28 #[.pointer (some ⟨b, 0, none⟩), .int .u8 (first : Int), .int .i64 2, .int .u64 (c : Int)] w (PwAns w0.heap.size b l1 w)) := Lib.hid fun h16 => by
    have := phead_any w0.heap.size b l first 2 c w h hfirst (.inr rfl) (by omega) hk8 (by omega) hBw
    rw [← hl1]
    unfold pmP
    rw [if_neg h16]
    exact this
  have HT : Hid (l ++ (pmP few first c ++ pkL L) = l1 ++ pkL L) := Lib.hid (by rw [← hl1]; simp only [List.append_assoc])
  rw [HT.out]
  obtain ⟨X, hX⟩ : ∃ X, sayL L = X := ⟨_, rfl⟩
  rw [hX]
  have HX := Lib.hid hX
  have hlen2 := len_cntL L
  have hIH := Lib.hid ih
  have HW0 := Lib.hid hw
  have HQ1 := Lib.hid hQ1
  have HQ0 := Lib.hid hQ0
  clear hL h hX hl1 HT ih hlen2 hw hk8 hQ1 hQ0
  go_enter Try.func30, Try.ntmps30
  go_upto_if 15 with fail
  go_cut [29] (fun s29 wx => Hid (Pw w0.heap.size b l1 wx ∧ Below w0.heap.size w wx ∧ Kq b w wx))
  case first =>
    cases Q with
    | true =>
      have h16 := HQ1.out rfl
      have HF := Lib.hid (HF1.out h16)
      have u1 : IntKind.u8.wrap (c : Int) = (c : Int) := by rw [IntKind.wrap_u8]; omega
      have u2 : IntKind.u8.wrap ((few : Int) + (c : Int)) = ((few + c : Nat) : Int) := by rw [IntKind.wrap_u8]; omega
      obtain ⟨d, hd⟩ : ∃ d, few + c = d := ⟨_, rfl⟩
      rw [hd] at HF u2
      clear HF0 HF1 HQ0 HQ1 h16 hd
      go_wp2_with fail
      refine HF.out.mono ?_
      rintro e w1 ⟨rfl, h1⟩
      have HH := Lib.hid h1
      clear h1
      go_wp2_with fail
      go_meet
      exact HH
    | false =>
      have h16 := HQ0.out rfl
      have HF := Lib.hid (HF0.out h16)
      have u1 : IntKind.u64.wrap (c : Int) = (c : Int) := by rw [IntKind.wrap_u64]; omega
      clear HF0 HF1 HQ0 HQ1 h16
      go_wp2_with fail
      refine HF.out.mono ?_
      rintro e w1 ⟨rfl, h1⟩
      have HH := Lib.hid h1
      clear h1
      go_wp2_with fail
      go_meet
      exact HH
  case rest =>
    clear HF0 HF1 HQ0 HQ1 hQ hQ2
    go_wp2_with fail
    go_loopw [29] (fun s29 wr => ∃ i : Nat, i ≤ L.length ∧ s29 = .int .i64 (i : Int) ∧ Hid (sayL (L.take i) = true) ∧ Hid (Pw w0.heap.size b (l1 ++ pkL (L.take i)) wr ∧ Below w0.heap.size w wr ∧ Kq b w wr)) (fun s29 _ => L.length - (intOf s29).toNat)
    case atStart => exact ⟨0, Nat.zero_le _, rfl, Lib.hid rfl, Lib.hid ⟨by rw [List.take_zero]; show Pw _ _ (l1 ++ []) _; rw [List.append_nil]; exact hcut.out.1, hcut.out.2⟩⟩
    case round =>
      obtain ⟨i, hi, rfl, he, hO⟩ := hrel
      by_cases hlt : i < L.length
      · rcases hA with ⟨_, h0, _⟩ | ⟨b1, off, D, rfl, hb1, hrow, hkid⟩
        · rw [h0] at hlt; exact absurd hlt (by simp)
        have hmem : L[i] ∈ L := List.getElem_mem hlt
        obtain ⟨t', ht'⟩ : ∃ t', L[i] = t' := ⟨_, rfl⟩
        obtain ⟨C', hC'⟩ : ∃ C', D i = C' := ⟨_, rfl⟩
        have hr := hrow i hlt
        have hkl := hkid i hlt
        have hxs := sayL_take_succ hlt
        have hxt := fun h => sayL_no (l := L) hlt h
        have hts := pkL_take_succ hlt
        have htl := pkL_take_le hlt
        rw [ht', hC'] at hr hkl
        rw [ht'] at hmem hxs hts htl
        rw [ht', HX.out] at hxt
        rw [he.out, Bool.true_and] at hxs
        obtain ⟨A', c', hC2, _⟩ := hkl.out
        obtain ⟨n', hn'⟩ : ∃ n', t'.l.length = n' := ⟨_, rfl⟩
        rw [hn'] at hC2
        subst hC2
        have hbw := HW0.out.trans hO.out.2.1
        have hr2 := hr.below hbw hb1
        have r0 := hr2.k
        have r1 := hr2.g
        have r2 := hr2.n
        have r3 := hr2.s
        have r4 := hr2.l
        have hszr := hbw.size
        have HI := Lib.hid (fun ob : Obj => hIH.out t' hmem (.slice A' n' c') (l1 ++ pkL (L.take i)) (wr.alloc ob) hkl (hbw.alloc hszr ob) (hO.out.1.below ((Below.refl _ _).alloc (Nat.le_refl _) ob)) (by rw [List.length_append]; omega))
        have HTS : Hid (l1 ++ pkL (L.take i) ++ pkB t' = l1 ++ pkL (L.take (i + 1))) := Lib.hid (by rw [hts, List.append_assoc])
        unfold ItP vv at HI
        rw [HTS.out] at HI
        have HXS := Lib.hid hxs
        have HXT := Lib.hid hxt
        have HAL : Hid (∀ ob : Obj, Below w0.heap.size w (wr.alloc ob) ∧ Kq b w (wr.alloc ob)) := Lib.hid fun ob => ⟨hO.out.2.1.alloc hszr ob, hO.out.2.2.alloc ob⟩
        clear hr hr2 hkl hrow hkid ht' hC' hn' hxs hxt hts htl hbw hszr hmem
        go_wp2_with fail
        refine (HI.out _).mono ?_
        rintro e w2 ⟨⟨h2a, h2b⟩, ⟨hx, rfl, h2c⟩ | ⟨hx, rfl⟩⟩
        · have H2 := Lib.hid (And.intro h2c (And.intro ((HAL.out _).1.trans h2a) ((HAL.out _).2.trans h2b)))
          have HX1 := Lib.hid hx
          clear h2a h2b h2c r0 r1 r2 r3 r4 HI HAL hx
          go_wp2_with fail
          go_roundw
          case rel => exact ⟨i + 1, hlt, by go_num, Lib.hid (by rw [HXS.out]; exact HX1.out), H2⟩
          case measure => simp [intOf]; omega
        · have H2 := Lib.hid (And.intro ((HAL.out _).1.trans h2a) ((HAL.out _).2.trans h2b))
          have HX1 := Lib.hid (HXT.out hx)
          clear h2a h2b r0 r1 r2 r3 r4 HI HAL hx
          go_wp2_with fail
          exact bodyPost_ret (v := .int .i64 10) (by simp [results, Try.results30, go_sem]) rfl ⟨H2.out, .inr ⟨HX1.out, rfl⟩⟩
      · obtain rfl : i = L.length := by omega
        have hO2 := hO
        have he2 := he
        rw [List.take_length] at hO2 he2
        have HE : Hid (X = true) := Lib.hid (by rw [← HX.out]; exact he2.out)
        clear hO he he2
        go_wp2_with fail
        exact bodyPost_ret (v := .int .i64 0) (by simp [results, Try.results30, go_sem]) rfl ⟨⟨hO2.out.2.1, hO2.out.2.2⟩, .inl ⟨HE.out, rfl, hO2.out.1⟩⟩
end Go.Proofs.Ytgadpmddbkimfaa.nn
namespace Go.Proofs.Ytgadpmddbkimfaa.nn
open Go.RowKit

section
variable {B b : Nat} {l : List UInt8} {w : World}
set_option maxRecDepth 100000 in
set_option maxHeartbeats 8000000 in
theorem pitem_by (t : VT) (C : Value) (h : Pw B b l w) (hk : t.k = 9) (hl : t.l = []) (hle : l.length + t.s.size + 60 ≤ 140737488355328) (hBw : B ≤ w.heap.size) :
    Calls Try.prog 15 #[.pointer (some ⟨b, 0, none⟩), vv t C] w (ItP B b (l ++ pkB t) (say t) w) := by
  have HN := Lib.hid (Ip.new h hBw #[.int .i64 t.k, .bool t.g, .int .u64 (t.n : Int), .string t.s, C])
  have hb := h.lt
  have hsay : say t = true := by
    rw [say_leaf hl]
    unfold pkS
    rw [if_neg (by omega), decide_eq_false (by omega)]
    rfl
  rw [hsay]
  obtain ⟨s, hss⟩ : ∃ n, t.s = n := ⟨_, rfl⟩
  have HT : Hid (l ++ pkB t = (l ++ phP 196 1 s.size) ++ s.data.toList) := Lib.hid (by rw [pkB_mk, hk, ← hss, List.append_assoc]; rfl)
  rw [HT.out]
  unfold vv
  rw [hk, hss] at HN ⊢
  rw [hss] at hle
  have hp := phP1_le 196 s.size
  have hk8 : 1 * 2 ^ lsK s.size 1 ≤ 8 := by have := two_lsK s.size 1; omega
  have u9 : IntKind.u64.wrap (s.size : Int) = (s.size : Int) := by rw [IntKind.wrap_u64]; omega
  have hln : (l ++ phP 196 1 s.size).length + s.size ≤ 140737488355328 := by rw [List.length_append]; omega
  obtain ⟨cs, hcs⟩ : ∃ cs : Array Value, #[.int .i64 9, .bool t.g, .int .u64 (t.n : Int), .string s, C] = cs := ⟨_, rfl⟩
  rw [hcs] at HN
  have HC : Hid (∀ l' W, Ip w B b l' cs W → W.cell? ⟨w.heap.size, 3, none⟩ = some (.string s)) := Lib.hid fun l' W hW => by
    have h3 := hW.cell 3
    rw [← hcs] at h3
    exact h3
  have H1 := Lib.hid ((phead_any B b l 196 1 s.size _ HN.out.wr (by decide) (.inl rfl) (by omega) hk8 (by omega) HN.out.sz).mono fun e w' hs => And.intro hs.1 (HN.out.step hs hb))
  have HHS : Hid (∀ l' W, Ip w B b l' cs W → ∃ v, Pbk B b v v l' W ∧ Below B w W ∧ Kq b w W ∧ B ≤ W.heap.size) := Lib.hid fun l' W hW => by
    obtain ⟨v, hv⟩ := hW.wr
    exact ⟨v, hv, hW.bl, hW.kw, hW.sz⟩
  obtain ⟨L1, hL1⟩ : ∃ L1, l ++ phP 196 1 s.size = L1 := ⟨_, rfl⟩
  rw [hL1] at H1 hln ⊢
  clear h hsay hk hss hl hle hBw hp hk8 hL1 HT hb HN
  subst hcs
  go_enter Try.func15, Try.ntmps15
  go_wp2_with fail
  refine H1.out.mono ?_
  rintro e w2 ⟨rfl, h2⟩
  have e3 := HC.out _ _ h2
  obtain ⟨v, hv, hb2, hk2, hz2⟩ := HHS.out _ _ h2
  have c0 := hv.c0
  have HV := Lib.hid hv
  have HA : Hid (Pbk B b v v L1 w2.drew) := Lib.hid (hv.below (Below.drew (Below.refl _ _)))
  have HB2 : Hid (Below B w w2.drew ∧ Kq b w w2.drew) := Lib.hid ⟨hb2.trans (Below.drew (Below.refl _ _)), hk2.trans (Kq.drew (Kq.refl _ _))⟩
  have hsz : B ≤ w2.drew.heap.size := hz2
  clear hv hb2 hk2 hz2 HC HHS H1 h2
  go_wp2_with fail
  go_region_law (refine step_appPS rfl (.tmp 52) (.tmp 54) rfl B b v L1 s rfl HA.out rfl hln hsz ?_; intro v2 w3 h3 hb3 hk3; have d0 := h3.c0; have f0 := h3.f0; obtain ⟨A2, n2, c2, rfl⟩ := h3.form)
  all_goals
    have HZ := Lib.hid (And.intro h3.put (And.intro ((HB2.out.1.trans hb3).setCell (p := ⟨b, 0, none⟩) HV.out.1 (.slice A2 n2 c2)) ((HB2.out.2.trans hk3).set 0 (.slice A2 n2 c2))))
    clear h3 hb3 hk3 d0 f0 c0
    go_wp2_with fail
    exact bodyPost_ret (v := .int .i64 0) (by simp [results, Try.results15, go_sem]) rfl ⟨HZ.out.2, .inl ⟨rfl, rfl, HZ.out.1⟩⟩
set_option maxRecDepth 100000 in
set_option maxHeartbeats 8000000 in
theorem pitem_many (w0 : World) (b : Nat) (l : List UInt8) (t : VT) (C : Value) (w : World) (K F G : Int) (hKM : (K = 11 ∧ F = 144 ∧ G = 220) ∨ (K = 12 ∧ F = 128 ∧ G = 222)) (h : Pw w0.heap.size b l w) (hk : t.k = K) (hBw : w0.heap.size ≤ w.heap.size) (hC : ∃ A c, C = .slice A t.l.length c) (hLn : t.l.length ≤ 1099511627776)
    (hm : ∀ W, Below w0.heap.size w W → Pw w0.heap.size b l W → Calls Try.prog 30 #[.pointer (some ⟨b, 0, none⟩), .int .u8 F, .int .u8 G, .int .i64 ((if K = 11 then t.l.length else t.l.length / 2 : Nat) : Int), C] W (ItP w0.heap.size b (l ++ pkB t) (sayL t.l) W)) :
    Calls Try.prog 15 #[.pointer (some ⟨b, 0, none⟩), vv t C] w (ItP w0.heap.size b (l ++ pkB t) (sayL t.l) w) := by
  obtain ⟨A, c, rfl⟩ := hC
  have HN := Lib.hid (Ip.new h hBw #[.int .i64 t.k, .bool t.g, .int .u64 (t.n : Int), .string t.s, .slice A t.l.length c])
  have H1 := Lib.hid ((hm _ HN.out.bl HN.out.wr).mono fun e w' ha => ItP.behind HN.out ha)
  obtain ⟨T, hT⟩ : ∃ T, l ++ pkB t = T := ⟨_, rfl⟩
  obtain ⟨X, hX⟩ : ∃ X, sayL t.l = X := ⟨_, rfl⟩
  rw [hT, hX] at H1 ⊢
  unfold vv
  obtain ⟨n, hn⟩ : ∃ n, t.l.length = n := ⟨_, rfl⟩
  rw [hk, hn] at HN H1
  rw [hn] at hLn
  rw [hk, hn]
  clear hm hT hX hk hn h
  rcases hKM with ⟨rfl, rfl, rfl⟩ | ⟨rfl, rfl, rfl⟩
  · rw [if_pos rfl] at H1
    go_enter Try.func15, Try.ntmps15
    go_wp2_with fail
    refine H1.out.mono ?_
    rintro e w2 ⟨h2a, ⟨hx, rfl, h2c⟩ | ⟨hx, rfl⟩⟩
    · have HZ := Lib.hid (And.intro h2a (And.intro hx h2c))
      clear h2a h2c hx
      go_wp2_with fail
      exact bodyPost_ret (v := .int .i64 0) (by simp [results, Try.results15, go_sem]) rfl ⟨HZ.out.1, .inl ⟨HZ.out.2.1, rfl, HZ.out.2.2⟩⟩
    · have HZ := Lib.hid (And.intro h2a hx)
      clear h2a hx
      go_wp2_with fail
      exact bodyPost_ret (v := .int .i64 10) (by simp [results, Try.results15, go_sem]) rfl ⟨HZ.out.1, .inr ⟨HZ.out.2, rfl⟩⟩
  · rw [if_neg (by decide)] at H1
    have q2 : (n : Int) / 2 = ((n / 2 : Nat) : Int) := by omega
    have q3 : (n : Int).tdiv 2 = ((n / 2 : Nat) : Int) := by rw [Int.tdiv_eq_ediv_of_nonneg (by omega)]; omega
    obtain ⟨m, hm⟩ : ∃ m, n / 2 = m := ⟨_, rfl⟩
    rw [hm] at H1 q2 q3
    clear hm
    go_enter Try.func15, Try.ntmps15
    go_wp2_with fail
    refine H1.out.mono ?_
    rintro e w2 ⟨h2a, ⟨hx, rfl, h2c⟩ | ⟨hx, rfl⟩⟩
    · have HZ := Lib.hid (And.intro h2a (And.intro hx h2c))
      clear h2a h2c hx
      go_wp2_with fail
      exact bodyPost_ret (v := .int .i64 0) (by simp [results, Try.results15, go_sem]) rfl ⟨HZ.out.1, .inl ⟨HZ.out.2.1, rfl, HZ.out.2.2⟩⟩
    · have HZ := Lib.hid (And.intro h2a hx)
      clear h2a hx
      go_wp2_with fail
      exact bodyPost_ret (v := .int .i64 10) (by simp [results, Try.results15, go_sem]) rfl ⟨HZ.out.1, .inr ⟨HZ.out.2, rfl⟩⟩
end
theorem prgtL_in {l : List VT} (h : rgtL l = true) : ∀ t, t ∈ l → rgt t = true := by
  induction l with
  | nil => intro t ht; cases ht
  | cons u r ih =>
    simp only [rgtL, Bool.and_eq_true] at h
    intro t ht
    rcases List.mem_cons.1 ht with rfl | ht
    · exact h.1
    · exact ih h.2 t ht
theorem pwfL_in {l : List VT} (h : wfL l) : ∀ t, t ∈ l → wfT t := by
  induction l with
  | nil => intro t ht; cases ht
  | cons u r ih =>
    intro t ht
    rcases List.mem_cons.1 ht with rfl | ht
    · exact h.1
    · exact ih h.2 t ht
theorem pcnt_in {l : List VT} : ∀ t, t ∈ l → cnt t ≤ cntL l := by
  induction l with
  | nil => intro t ht; cases ht
  | cons u r ih =>
    intro t ht
    rcases List.mem_cons.1 ht with rfl | ht
    · simp only [cntL]; omega
    · have := ih t ht; simp only [cntL]; omega
/-- of which kinds right values are -/
theorem poneB_kind {t : VT} (h : oneB t = true) : 0 ≤ t.k ∧ t.k ≤ 14 ∧ (t.k = 1 → t.n ≤ 1) := by
  unfold oneB at h
  by_cases h1 : t.k = 0 ∨ t.k = 2 ∨ t.k = 11
  · omega
  rw [if_neg h1] at h
  by_cases h2 : t.k = 1
  · rw [if_pos h2] at h
    simp only [Bool.and_eq_true, decide_eq_true_eq] at h
    omega
  rw [if_neg h2] at h
  by_cases h3 : t.k = 3
  · omega
  rw [if_neg h3] at h
  by_cases h4 : t.k = 4
  · omega
  rw [if_neg h4] at h
  by_cases h5 : t.k = 5
  · omega
  rw [if_neg h5] at h
  by_cases h6 : t.k = 6
  · omega
  rw [if_neg h6] at h
  by_cases h7 : t.k = 7
  · omega
  rw [if_neg h7] at h
  by_cases h8 : t.k = 8
  · omega
  rw [if_neg h8] at h
  by_cases h9 : t.k = 9
  · omega
  rw [if_neg h9] at h
  by_cases h10 : t.k = 10
  · omega
  rw [if_neg h10] at h
  by_cases h12 : t.k = 12
  · omega
  rw [if_neg h12] at h
  by_cases h13 : t.k = 13
  · omega
  rw [if_neg h13] at h
  by_cases h14 : t.k = 14
  · omega
  rw [if_neg h14] at h
  cases h
theorem plf_iff (k : Int) : lf k = true ↔ (k ≠ 11 ∧ k ≠ 12 ∧ k ≠ 13) := by unfold lf; exact decide_eq_true_iff
theorem itp_any (w0 : World) (b : Nat) (N : Nat) : ∀ t, cnt t ≤ N → cnt t ≤ 1099511627776 → rgt t = true → wfT t → Itp w0 b t := by
  induction N with
  | zero => intro t h; have := cnt_mk t; omega
  | succ N ih =>
    intro t hN hc hr hwf C l W hC hW h hle
    have hcm := cnt_mk t
    rw [rgt_mk] at hr
    simp only [Bool.and_eq_true] at hr
    obtain ⟨⟨h1, h2⟩, h3⟩ := hr
    obtain ⟨_, _, hn, hwl⟩ := (wfT_mk t).1 hwf
    have hkid : ∀ u, u ∈ t.l → Itp w0 b u := fun u hu => ih u (by have := pcnt_in u hu; omega) (by have := pcnt_in u hu; omega) (prgtL_in h3 u hu) (pwfL_in hwl u hu)
    have hB := hW.size
    obtain ⟨k1, k2, hn1⟩ := poneB_kind h1
    have hlen := len_cntL t.l
    by_cases hlf : lf t.k = true
    · rw [hlf] at h2
      have hl0 : t.l = [] := List.eq_nil_of_length_eq_zero (by simpa using h2)
      have hkk := (plf_iff _).1 hlf
      by_cases ka : t.k = 0 ∨ t.k = 1
      · exact pitem_a t C h ka hn1 hl0 (by omega) hB
      by_cases kb : t.k = 4
      · exact pitem_int t C h kb hn hl0 (by omega) hB
      by_cases kc : t.k = 7 ∨ t.k = 8
      · exact pitem_fl t C h kc hn hl0 (by omega) hB
      by_cases kd : t.k = 9
      · have h5 : pkB t = pbP t.s := by rw [pkB_mk, kd]; rfl
        have h6 := (pbP_le t.s).1
        rw [h5] at hle
        exact pitem_by t C h kd hl0 (by omega) hB
      by_cases ke : t.k = 10 ∨ t.k = 14
      · have h5 : pkB t = ptP t.s ∨ pkB t = pxP t.n t.s := by
          rcases ke with k | k
          · exact .inl (by rw [pkB_mk, k]; rfl)
          · exact .inr (by rw [pkB_mk, k]; rfl)
        have h6 := (ptP_le t.s).1
        have h7 := (pxP_le t.n t.s).1
        exact pitem_te t C h ke hn hl0 (by rcases h5 with e | e <;> rw [e] at hle <;> omega) hB
      · exact pitem_no t C h (by omega) hB
    · have hkk : t.k = 11 ∨ t.k = 12 ∨ t.k = 13 := by
        rcases Int.lt_or_le t.k 11 with h | h
        · exact absurd ((plf_iff _).2 ⟨by omega, by omega, by omega⟩) hlf
        · rcases Int.lt_or_le 13 t.k with h | h
          · exact absurd ((plf_iff _).2 ⟨by omega, by omega, by omega⟩) hlf
          · omega
      by_cases k13 : t.k = 13
      · exact pitem_no t C h (by omega) hB
      · have hsay : say t = sayL t.l := by
          rw [say_mk]
          unfold pkS
          rw [if_neg (by omega), decide_eq_false (by omega)]
          rfl
        rw [hsay]
        obtain ⟨A, c, hCe, _⟩ := hC.out
        rcases (show t.k = 11 ∨ t.k = 12 by omega) with k | k
        · have h5 : pkB t = pmP 144 220 t.l.length ++ pkL t.l := by rw [pkB_mk, k]; rfl
          refine pitem_many w0 b l t C W 11 144 220 (.inl ⟨rfl, rfl, rfl⟩) h k hB ⟨A, c, hCe⟩ (by omega) fun W' hW' hw' => ?_
          rw [if_pos rfl, h5]
          rw [h5, List.length_append] at hle
          exact pmany_any w0 b 144 220 t.l.length t.l C l W' hC (hW.trans hW') hw' (by decide) (by decide) (by omega) (by omega) (by omega) hkid
        · have h5 : pkB t = pmP 128 222 (t.l.length / 2) ++ pkL t.l := by rw [pkB_mk, k]; rfl
          refine pitem_many w0 b l t C W 12 128 222 (.inr ⟨rfl, rfl, rfl⟩) h k hB ⟨A, c, hCe⟩ (by omega) fun W' hW' hw' => ?_
          rw [if_neg (by decide), h5]
          rw [h5, List.length_append] at hle
          exact pmany_any w0 b 128 222 (t.l.length / 2) t.l C l W' hC (hW.trans hW') hw' (by decide) (by decide) (by omega) (by omega) (by omega) hkid
end Go.Proofs.Ytgadpmddbkimfaa.nn
namespace Go.Proofs.Ytgadpmddbkimfaa.nn
open Go.RowKit

/-- a path lies in a new block (from base on) that is not own -/
def RowAt (base : Nat) (w : World) (u : Value) (own : Option Nat) (p : List Nat) : Prop := ∃ B O c : Nat, u = .slice (some ⟨B, O, none⟩) p.length c ∧ p.length ≤ c ∧ B < w.heap.size ∧ base ≤ B ∧ some B ≠ own ∧ ∀ j (h : j < p.length), w.cell? ⟨B, O + j, none⟩ = some (.int .i64 (p[j] : Int))
/-- paths that are gathered in a slice -/
def Coll (base : Nat) (w : World) (v : Value) (P : List (List Nat)) : Prop := ∃ xs : List Value, w.ownsRow base 55 1 v P.length xs ∧ v ≠ .slice none 0 0 ∧ xs.length = P.length ∧ ∀ k (h : k < P.length), ∃ u, xs[k]? = some u ∧ RowAt base w u v.ownBlock P[k]
/-- paths that are read -/
def PR (base : Nat) (w : World) (own : Option Nat) (v : Value) (P : List (List Nat)) : Prop := ∃ b off c : Nat, v = .slice (some ⟨b, off, none⟩) P.length c ∧ P.length ≤ c ∧ b < w.heap.size ∧ base ≤ b ∧ some b ≠ own ∧ ∀ k (h : k < P.length), ∃ u, w.cell? ⟨b, off + k, none⟩ = some u ∧ RowAt base w u own P[k]
section
variable {w w' : World} {u v v' : Value} {own own' : Option Nat} {p : List Nat} {P : List (List Nat)} {base base' B : Nat}
theorem RowAt.keep (h : RowAt base w u own p) (hB : Below w.heap.size w w') : RowAt base w' u own p := by
  obtain ⟨b, o, c, h1, h2, h3, h0, h4, h5⟩ := h
  exact ⟨b, o, c, h1, h2, Nat.lt_of_lt_of_le h3 hB.size, h0, h4, fun j hj => (hB.cell (p := ⟨b, o + j, none⟩) h3).trans (h5 j hj)⟩
/-- block own was written, or a new one was made in its place -/
theorem RowAt.grown (h : RowAt base w u own p) (hg : w.grownBy w' own) (ho : own' = own ∨ own' = some w.heap.size) : RowAt base w' u own' p := by
  obtain ⟨b, o, c, h1, h2, h3, h0, h4, h5⟩ := h
  refine ⟨b, o, c, h1, h2, Nat.lt_of_lt_of_le h3 hg.size, h0, ?_, fun j hj => ?_⟩
  · rcases ho with rfl | rfl
    · exact h4
    · intro h; injection h with h; omega
  · have hb := hg.block b h3 h4
    rw [← h5 j hj]
    simp only [World.cell?, hb]
/-- new blocks aren't an elder one -/
theorem RowAt.other (h : RowAt base w u own p) {g : Nat} (hg : g < base) : RowAt base w u (some g) p := by
  obtain ⟨b, o, c, h1, h2, h3, h0, _, h5⟩ := h
  exact ⟨b, o, c, h1, h2, h3, h0, by intro h; injection h with h; omega, h5⟩
theorem PR.keep (h : PR base w own v P) (hB : Below w.heap.size w w') : PR base w' own v P := by
  obtain ⟨b, o, c, h1, h2, h3, h0, hn, h4⟩ := h
  refine ⟨b, o, c, h1, h2, Nat.lt_of_lt_of_le h3 hB.size, h0, hn, fun k hk => ?_⟩
  obtain ⟨u, hu, hr⟩ := h4 k hk
  exact ⟨u, (hB.cell (p := ⟨b, o + k, none⟩) h3).trans hu, hr.keep hB⟩
theorem PR.grown (h : PR base w own v P) (hg : w.grownBy w' own) (ho : own' = own ∨ own' = some w.heap.size) : PR base w' own' v P := by
  obtain ⟨b, o, c, h1, h2, h3, h0, hn, h4⟩ := h
  refine ⟨b, o, c, h1, h2, Nat.lt_of_lt_of_le h3 hg.size, h0, ?_, fun k hk => ?_⟩
  · rcases ho with rfl | rfl
    · exact hn
    · intro h; injection h with h; omega
  · obtain ⟨u, hu, hr⟩ := h4 k hk
    refine ⟨u, ?_, hr.grown hg ho⟩
    have hb := hg.block b h3 hn
    rw [← hu]
    simp only [World.cell?, hb]
theorem PR.other (h : PR base w own v P) {g : Nat} (hg : g < base) : PR base w (some g) v P := by
  obtain ⟨b, o, c, h1, h2, h3, h0, _, h4⟩ := h
  refine ⟨b, o, c, h1, h2, h3, h0, by intro h; injection h with h; omega, fun k hk => ?_⟩
  obtain ⟨u, hu, hr⟩ := h4 k hk
  exact ⟨u, hu, hr.other hg⟩
theorem Coll.keep (h : Coll base w v P) (hB : Below w.heap.size w w') : Coll base w' v P := by
  obtain ⟨xs, h1, h2, h3, h4⟩ := h
  refine ⟨xs, ⟨h1.1, ?_⟩, h2, h3, fun k hk => ?_⟩
  · rcases h1.2 with h5 | ⟨g, cap, cur, hv, hb, hg, h6⟩
    · exact .inl h5
    · exact .inr ⟨g, cap, cur, hv, hb, (hB.block g (Array.getElem?_eq_some_iff.1 hg).1).trans hg, h6⟩
  · obtain ⟨u, hu, hr⟩ := h4 k hk
    exact ⟨u, hu, hr.keep hB⟩
/-- the first ones alone -/
theorem PR.take {b off c m k : Nat} (h : PR base w own (.slice (some ⟨b, off, none⟩) m c) P) (hk : k = min P.length k) : PR base w own (.slice (some ⟨b, off, none⟩) k c) (P.take k) := by
  obtain ⟨b', o', c', e1, h2, h3, h0, hn, h4⟩ := h
  injection e1 with e1 e2 e3
  injection e1 with e1
  injection e1 with e1 e4 e5
  subst e1 e4 e3
  refine ⟨b, off, c, by rw [List.length_take]; congr 1; omega, by rw [List.length_take]; omega, h3, h0, hn, fun j hj => ?_⟩
  rw [List.length_take] at hj
  obtain ⟨u, hu, hr⟩ := h4 j (by omega)
  exact ⟨u, hu, by rw [List.getElem_take]; exact hr⟩
theorem PR.form (h : PR base w own v P) : ∃ b off c : Nat, v = .slice (some ⟨b, off, none⟩) P.length c ∧ P.length ≤ c := by
  obtain ⟨b, o, c, e1, e2, _⟩ := h
  exact ⟨b, o, c, e1, e2⟩
end
end Go.Proofs.Ytgadpmddbkimfaa.nn
namespace Go.Proofs.Ytgadpmddbkimfaa.nn
open Go.RowKit

/-- blocks of one's own lie from M on, and are there -/
def Wb (M : Nat) (O : Nat → Prop) (W : World) : Prop := ∀ b, O b → M ≤ b ∧ b < W.heap.size
/-- a step that turns one's own blocks alone (O, behind it O'), and blocks of which E holds -/
structure Mv (E : Nat → Prop) (O : Nat → Prop) (W : World) (O' : Nat → Prop) (W' : World) : Prop where
  os : W'.os = W.os
  tape : W'.tape = W.tape
  output : W'.output = W.output
  size : W.heap.size ≤ W'.heap.size
  more : ∀ b, O b → O' b
  new : ∀ b, O' b → O b ∨ (W.heap.size ≤ b ∧ b < W'.heap.size)
  kept : ∀ b, b < W.heap.size → ¬ O b → ¬ E b → W'.heap[b]? = W.heap[b]?
def No : Nat → Prop := fun _ => False
/-- what a round keeps -/
structure Kr (n₀ : Nat) (O : Nat → Prop) (W W' : World) : Prop where
  b : Below n₀ W W'
  o : ∀ b, O b → W'.heap[b]? = W.heap[b]?
theorem Kr.refl (n₀ : Nat) (O : Nat → Prop) (W : World) : Kr n₀ O W W := ⟨Below.refl _ _, fun _ _ => rfl⟩
theorem Kr.trans {n₀ : Nat} {O : Nat → Prop} {A B C : World} (h : Kr n₀ O A B) (k : Kr n₀ O B C) : Kr n₀ O A C := ⟨h.b.trans k.b, fun b hb => (k.o b hb).trans (h.o b hb)⟩
theorem Mv.trans {E O1 O2 O3 : Nat → Prop} {A B C : World} (h : Mv E O1 A O2 B) (k : Mv E O2 B O3 C) : Mv E O1 A O3 C where
  os := k.os.trans h.os
  tape := k.tape.trans h.tape
  output := k.output.trans h.output
  size := Nat.le_trans h.size k.size
  more := fun b hb => k.more b (h.more b hb)
  new := fun b hb => by
    rcases k.new b hb with h1 | h1
    · rcases h.new b h1 with h2 | h2
      · exact .inl h2
      · exact .inr ⟨h2.1, Nat.lt_of_lt_of_le h2.2 k.size⟩
    · exact .inr ⟨Nat.le_trans h.size h1.1, h1.2⟩
  kept := fun b hb hO hE => by
    have h2 : ¬ O2 b := fun h3 => by
      rcases h.new b h3 with h4 | h4
      · exact hO h4
      · omega
    exact (k.kept b (Nat.lt_of_lt_of_le hb h.size) h2 hE).trans (h.kept b hb hO hE)
theorem Mv.weak {E E' O O' : Nat → Prop} {W W' : World} (h : Mv E O W O' W') (hE : ∀ b, E b → E' b) : Mv E' O W O' W' :=
  ⟨h.os, h.tape, h.output, h.size, h.more, h.new, fun b hb hO hn => h.kept b hb hO fun he => hn (hE b he)⟩
theorem Mv.refl (E O : Nat → Prop) (W : World) : Mv E O W O W := ⟨rfl, rfl, rfl, Nat.le_refl _, fun _ h => h, fun _ h => .inl h, fun _ _ _ _ => rfl⟩
theorem Mv.drew (E O : Nat → Prop) (W : World) : Mv E O W O W.drew := ⟨rfl, rfl, rfl, Nat.le_refl _, fun _ h => h, fun _ h => .inl h, fun _ _ _ _ => rfl⟩
theorem Mv.alloc (E O : Nat → Prop) (W : World) (o : Obj) : Mv E O W (fun b => O b ∨ b = W.heap.size) (W.alloc o) :=
  ⟨rfl, rfl, rfl, by simp, fun _ h => .inl h, fun b h => h.elim .inl fun h => .inr (by subst h; simp), fun b hb _ _ => Below.heap_alloc _ _ _ hb⟩
theorem Mv.put {E O : Nat → Prop} (W : World) {l : Nat} (o : Obj) (hE : E l) : Mv E O W O (W.putObj l o) :=
  ⟨rfl, rfl, rfl, by simp, fun _ h => h, fun _ h => .inl h, fun b _ _ hb => World.putObj_heap_other (fun e => hb (e ▸ hE))⟩
/-- an append (or another step that turns one row) -/
theorem Mv.grown {E O : Nat → Prop} {W W' : World} {row : Option Nat} (hg : W.grownBy W' row) (hr : ∀ k, row = some k → O k) : Mv E O W (fun b => O b ∨ (W.heap.size ≤ b ∧ b < W'.heap.size)) W' :=
  ⟨hg.os, hg.tape, hg.output, hg.size, fun _ h => .inl h, fun _ h => h, fun b hb hO _ => hg.block b hb fun e => hO (hr b e.symm)⟩
theorem Mv.base {E O O' : Nat → Prop} {W W' : World} {M : Nat} (h : Mv E O W O' W') (hb : Wb M O W) (hM : M ≤ W.heap.size) : Wb M O' W' := fun b hO => by
  rcases h.new b hO with h1 | h1
  · have := hb b h1
    exact ⟨this.1, Nat.lt_of_lt_of_le this.2 h.size⟩
  · exact ⟨Nat.le_trans hM h1.1, h1.2⟩
theorem Wb.no (M : Nat) (W : World) : Wb M No W := fun _ h => h.elim
theorem Wb.keep {M : Nat} {O : Nat → Prop} {W W' : World} (h : Wb M O W) (hs : W.heap.size ≤ W'.heap.size) : Wb M O W' := fun b hb => ⟨(h b hb).1, Nat.lt_of_lt_of_le (h b hb).2 hs⟩

theorem RoundIn.any {m m' : Nat} {P : Program} {l : Nat} {f : FuncId} {tmps : Array Value} {assign body : Code} {w : World} {R : Ending → World → Prop}
    (h : RoundIn Fence.wide m P l f tmps assign body w R) : RoundIn Fence.wide m' P l f tmps assign body w R := ⟨h.1, fun c cs _ => h.2 c cs (room_wide _)⟩

/-- an iterator that tells xs, and writes blocks of its own alone -/
def Gives (P : Program) (g : Nat) (lb : Array Value) {α : Type} (Arg : α → (Nat → Prop) → World → Array Value → Prop) (xs : List α) (n₀ : Nat) (w : World) : Prop :=
  ∀ (l M : Nat) (J : List α → (Nat → Prop) → World → Prop) (Jx : List α → World → Prop) (W : World), Below w.heap.size w W → M = W.heap.size →
    (∀ pre O W1 O' W2, J pre O W1 → Wb M O W1 → Mv No O W1 O' W2 → J pre O' W2) →
    (∀ pre W1 O' W2, Jx pre W1 → Mv No No W1 O' W2 → Jx pre W2) →
    (∀ m pre x O W1 args, J pre O W1 → Wb M O W1 → Arg x O W1 args → (∃ q, xs = pre ++ x :: q) → YieldAt Fence.wide m P l args W1 fun e W2 =>
      (e = .returned (.bool true) ∧ J (pre ++ [x]) O W2 ∧ Kr n₀ O W1 W2) ∨ (e = .returned (.bool false) ∧ Jx (pre ++ [x]) W2)) →
    J [] No W →
    Calls P g (#[.func (.yield l) #[] #[]] ++ lb) W fun e W' => (∃ v, e = .returned v) ∧ ((∃ O', J xs O' W' ∧ Wb M O' W') ∨ (∃ pre, (∃ q, xs = pre ++ q) ∧ Jx pre W'))

/-- how a round's body may be left -/
def rfPost {α : Type} (n₀ D : Nat) (O : Nat → Prop) (I : List α → (Nat → Prop) → World → Prop) (Ix : Code → List α → World → Prop) (xs : List α) (W : World) : Exit → Act → World → Prop
  | .normal, _, W' => (Kr n₀ O W W' ∧ W'.heap[D]? = W.heap[D]? ∧ W'.heap[D + 1]? = W.heap[D + 1]?) ∧ I xs O W'
  | .ret, _, W' => (W'.heap[D]? = W.heap[D]? ∧ W'.heap[D + 1]? = W.heap[D + 1]?) ∧ Ix .ret xs W'
  | .exit id, _, W' => (W'.heap[D]? = W.heap[D]? ∧ W'.heap[D + 1]? = W.heap[D + 1]?) ∧ Ix (.exit id) xs W'
  | .goto _, _, _ => False
  | .panic _, _, _ => False
  | .outgrown, _, _ => False

def EE (D : Nat) : Nat → Prop := fun b => b = D ∨ b = D + 1

set_option maxHeartbeats 1000000 in
theorem rf_law {P : Program} {n : Nat} {g : Operand} {ps : Array Tmp} {assign body : Code} {Q : Exit → Act → World → Prop} {a : Act} {w : World} {gf : Nat} {lb : Array Value}
    (hg : a.eval g = .func (.func gf) #[] lb) (eg : ∀ args w, (callFunc gf args).run P w = .ok (.enter gf args) w)
    {α : Type} {Arg : α → (Nat → Prop) → World → Array Value → Prop} {xs : List α} {n₀ : Nat} (hseq : Gives P gf lb Arg xs n₀ w) (hn₀ : n₀ ≤ w.heap.size)
    (hps : ∀ x O W args, Arg x O W args → args.size = ps.size)
    (I : List α → (Nat → Prop) → World → Prop) (Ix : Code → List α → World → Prop)
    (hI : ∀ pre O W O' W', I pre O W → Wb (w.heap.size + 2) O W → Mv (EE w.heap.size) O W O' W' → I pre O' W')
    (hIx : ∀ c pre W O' W', Ix c pre W → Mv (EE w.heap.size) No W O' W' → Ix c pre W')
    (h0 : I [] No w) (Ax : α → (Nat → Prop) → Act → World → Prop)
    (hAx : ∀ x O a' W o, Ax x O a' W → Wb (w.heap.size + 2) O W → Ax x O a' (W.putObj (w.heap.size + 1) o))
    (hassign : ∀ l pre x O W args (K : Act → World → Prop), I pre O W → Wb (w.heap.size + 2) O W → w.heap.size + 2 ≤ W.heap.size → Arg x O W args →
      (∀ a' W', Kr n₀ O W W' → W'.heap[w.heap.size]? = W.heap[w.heap.size]? → W'.heap[w.heap.size + 1]? = W.heap[w.heap.size + 1]? → I pre O W' → Ax x O a' W' → K a' W') →
      assign.wpIn (Fence.wide.inRound l) 3 P (Exit.then K (fun _ _ _ => False)) { tmps := (ps.zip args).foldl (fun t (p, v) => t.setIfInBounds p v) a.tmps, defers := [] } W)
    (hbody : ∀ l pre x O a' W, I pre O W → Wb (w.heap.size + 2) O W → w.heap.size + 2 ≤ W.heap.size → Ax x O a' W → (∃ q, xs = pre ++ x :: q) → body.wpIn (Fence.wide.inRound l) 3 P (rfPost n₀ w.heap.size O I Ix (pre ++ [x]) W) a' W)
    (hdone : ∀ O W, I xs O W → W.heap[w.heap.size]? = some (.deferred (some [])) → Q .normal { a with defers := { target := .collected w.heap.size, args := #[] } :: a.defers } W)
    (hstop : ∀ c pre W, (∃ q, xs = pre ++ q) → Ix c pre W → W.heap[w.heap.size]? = some (.deferred (some [])) → c.wpIn Fence.wide n P Q { a with defers := { target := .collected w.heap.size, args := #[] } :: a.defers } W) :
    (Code.rangeFunc g ps assign body).wpIn Fence.wide n P Q a w := by
  refine wpIn_rangeFunc fun fn _ => ?_
  obtain ⟨D, hD⟩ : ∃ D, w.heap.size = D := ⟨_, rfl⟩
  obtain ⟨rec, hrec⟩ : ∃ rec : LoopState → Option Code → Loop, rec = fun st pe => { state := st, pending := pe, fn := fn, tmps := a.tmps, params := ps, assign := assign, body := body, defers := D } := ⟨_, rfl⟩
  have hrp : ∀ st pe, (rec st pe).params = ps := fun _ _ => by rw [hrec]
  have hrs : ∀ st pe, (rec st pe).state = st := fun _ _ => by rw [hrec]
  have hrr : ∀ st pe st' pe', ({ rec st pe with state := st', pending := pe' } : Loop) = rec st' pe' := fun _ _ _ _ => by rw [hrec]
  have hrb : ∀ st pe st', ({ rec st pe with state := st' } : Loop) = rec st' pe := fun _ _ _ => by rw [hrec]
  obtain ⟨W1, hW1⟩ : ∃ W1, (w.alloc (.deferred (some []))).alloc (.loop (rec .ready none)) = W1 := ⟨_, rfl⟩
  have hb1 : Below w.heap.size w W1 := by rw [← hW1]; exact ((Below.refl _ w).alloc (Nat.le_refl _) _).alloc (by simp) _
  have hz1 : W1.heap.size = D + 2 := by rw [← hW1, ← hD]; simp
  have hL1 : W1.heap[D + 1]? = some (.loop (rec .ready none)) := by
    have := World.alloc_heap_new (w.alloc (.deferred (some []))) (.loop (rec .ready none))
    rwa [World.size_alloc, hD, hW1] at this
  have hK1 : W1.heap[D]? = some (.deferred (some [])) := by
    rw [← hW1, ← hD]
    exact (Below.heap_alloc _ _ _ (by simp)).trans (World.alloc_heap_new w _)
  have hent : (Instr.enterLoop fn a.tmps ps assign body Fence.wide.round).run P w = .ok (D + 1, [{ target := .collected D, args := #[] }]) W1 := by
    rw [← hW1, hrec, ← hD]
    exact run_enterLoop_outer fn a.tmps ps assign body
  rw [hD] at hI hIx hAx hassign hbody hdone hstop
  refine ⟨D + 1, _, W1, { target := .fn (.func gf) lb, args := #[.func (.yield (D + 1)) #[] #[]] }, W1, gf, #[.func (.yield (D + 1)) #[] #[]] ++ lb, W1, hent, ?_, fun _ _ => trivial, ?_, (fun h => by cases h), callsIn_wide.2 ?_⟩
  · simp only [resolve, hg]
    simp [go_sem]
  · simp [invoke, go_sem, eg]
  -- the iterator, at the caller's word and the two blocks of the loop
  refine (hseq (D + 1) (D + 2) (fun pre O W => I pre O W ∧ W.heap[D + 1]? = some (.loop (rec .ready none)) ∧ W.heap[D]? = some (.deferred (some [])))
    (fun pre W => ∃ c, Ix c pre W ∧ W.heap[D + 1]? = some (.loop (rec .done (some c))) ∧ W.heap[D]? = some (.deferred (some []))) W1 hb1 hz1.symm ?_ ?_ ?_ ?_).mono ?_
  · rintro pre O A O' B ⟨hi, hl, hk⟩ hbs hm
    have e1 := hm.kept (D + 1) (Array.getElem?_eq_some_iff.1 hl).1 (fun h => by have := (hbs _ h).1; omega) (fun h => h)
    have e2 := hm.kept D (Array.getElem?_eq_some_iff.1 hk).1 (fun h => by have := (hbs _ h).1; omega) (fun h => h)
    exact ⟨hI _ _ _ _ _ hi hbs (hm.weak fun _ h => h.elim), e1.trans hl, e2.trans hk⟩
  · rintro pre A O' B ⟨c, hc, hl, hk⟩ hm
    have e1 := hm.kept (D + 1) (Array.getElem?_eq_some_iff.1 hl).1 (fun h => h) (fun h => h)
    have e2 := hm.kept D (Array.getElem?_eq_some_iff.1 hk).1 (fun h => h) (fun h => h)
    exact ⟨c, hIx _ _ _ _ _ hc (hm.weak fun _ h => h.elim), e1.trans hl, e2.trans hk⟩
  · rintro m pre x O W args ⟨hi, hl, hk⟩ hbs harg hx
    have hlt := (Array.getElem?_eq_some_iff.1 hl).1
    have hy := run_yield (P := P) (args := args) hl (by rw [hrp]; exact hps _ _ _ _ harg)
    refine ⟨_, _, _, _, hy, RoundIn.any (m := 3) (roundIn_of_wpIn trivial ?_)⟩
    rw [show (rec .ready none).tmps = a.tmps by rw [hrec], show (rec .ready none).params = ps by rw [hrec], show (rec .ready none).assign = assign by rw [hrec], show (rec .ready none).body = body by rw [hrec]]
    refine hassign (D + 1) pre x O W args _ hi hbs (by omega) harg fun a' W' hk' hd' hl' hi' hax => ?_
    rw [hl] at hl'
    rw [hk] at hd'
    refine ⟨_, run_beginRound hl' (hrs _ _), ?_⟩
    rw [hrb]
    obtain ⟨V, hV⟩ : ∃ V, W'.putObj (D + 1) (.loop (rec .busy none)) = V := ⟨_, rfl⟩
    have hlt' := (Array.getElem?_eq_some_iff.1 hl').1
    have hVl : V.heap[D + 1]? = some (.loop (rec .busy none)) := by rw [← hV]; exact World.putObj_heap_same hlt'
    have hVk : V.heap[D]? = some (.deferred (some [])) := by rw [← hV]; exact (World.putObj_heap_other (by omega)).trans hd'
    have hbs' : Wb (D + 2) O W' := hbs.keep hk'.b.size
    have hmv : ∀ (X : World) (o : Obj), Mv (EE D) O X O (X.putObj (D + 1) o) := fun X o => Mv.put X o (.inr rfl)
    have hkr : ∀ (X : World) (o : Obj), Wb (D + 2) O X → n₀ ≤ X.heap.size → Kr n₀ O X (X.putObj (D + 1) o) := fun X o hX hn =>
      ⟨(Below.refl n₀ X).grown (grownBy_putObj' X (D + 1) o) hn (fun k e => by cases e; omega), fun b hb => World.putObj_heap_other (by have := (hX b hb).1; omega)⟩
    have hVi : I pre O V := by rw [← hV]; exact hI _ _ _ _ _ hi' hbs' (hmv _ _)
    have hVa : Ax x O a' V := by rw [← hV]; exact hAx _ _ _ _ _ hax hbs'
    have hVb : Wb (D + 2) O V := by rw [← hV]; exact hbs'.keep (by simp)
    have hWV : Kr n₀ O W V := by rw [← hV]; exact hk'.trans (hkr _ _ hbs' (by omega))
    rw [hV]
    refine wpIn_mono (hbody (D + 1) pre x O a' V hVi hVb (by rw [← hV]; simp; omega) hVa hx) ?_
    have fin : ∀ (jump : Option Code) (X : World), X.heap[D]? = V.heap[D]? → X.heap[D + 1]? = V.heap[D + 1]? →
        (Instr.endRound (D + 1) jump).run P X = .ok (.bool jump.isNone) (X.putObj (D + 1) (.loop (rec (if jump.isNone then .ready else .done) jump))) ∧
        (X.putObj (D + 1) (.loop (rec (if jump.isNone then .ready else .done) jump))).heap[D + 1]? = some (.loop (rec (if jump.isNone then .ready else .done) jump)) ∧
        (X.putObj (D + 1) (.loop (rec (if jump.isNone then .ready else .done) jump))).heap[D]? = some (.deferred (some [])) := fun jump X e1 e2 => by
      have hl3 := e2.trans hVl
      have h := run_endRound (P := P) jump hl3
      rw [hrr] at h
      exact ⟨h, World.putObj_heap_same (Array.getElem?_eq_some_iff.1 hl3).1, (World.putObj_heap_other (by omega)).trans (e1.trans hVk)⟩
    rintro e a3 X hp
    cases e with
    | normal =>
      obtain ⟨⟨k3, d3, l3⟩, i3⟩ := hp
      obtain ⟨r, hl4, hk4⟩ := fin none X d3 l3
      have hXb : Wb (D + 2) O X := hVb.keep k3.b.size
      exact ⟨_, _, r, .inl ⟨rfl, ⟨hI _ _ _ _ _ i3 hXb (hmv _ _), hl4, hk4⟩, (hWV.trans k3).trans (hkr _ _ hXb (by have := (Array.getElem?_eq_some_iff.1 (l3.trans hVl)).1; omega))⟩⟩
    | ret =>
      obtain ⟨⟨d3, l3⟩, i3⟩ := hp
      obtain ⟨r, hl4, hk4⟩ := fin (some .ret) X d3 l3
      exact ⟨_, _, r, .inr ⟨rfl, .ret, hIx _ _ _ _ _ i3 (Mv.put _ _ (.inr rfl)), hl4, hk4⟩⟩
    | exit id =>
      obtain ⟨⟨d3, l3⟩, i3⟩ := hp
      obtain ⟨r, hl4, hk4⟩ := fin (some (.exit id)) X d3 l3
      exact ⟨_, _, r, .inr ⟨rfl, .exit id, hIx _ _ _ _ _ i3 (Mv.put _ _ (.inr rfl)), hl4, hk4⟩⟩
    | goto t => exact hp.elim
    | panic ch => exact hp.elim
    | outgrown => exact hp.elim
  · exact ⟨hI _ _ _ _ _ h0 (Wb.no _ _) ⟨hb1.os, hb1.tape, hb1.output, hb1.size, fun _ h => h, fun _ h => .inl h, fun b hb _ _ => hb1.block b hb⟩, hL1, hK1⟩
  · rintro e W2 ⟨⟨v, rfl⟩, (⟨O, ⟨hi, hl, hk⟩, hbO⟩ | ⟨pre, hq, c, hi, hl, hk⟩)⟩
    · have h := run_endLoop (P := P) hl (by rw [hrs]; simp)
      rw [show (rec .ready none).pending = none by rw [hrec]] at h
      refine ⟨none, _, h, hdone O _ (hI _ _ _ _ _ hi hbO (Mv.put _ _ (.inr rfl))) ((World.putObj_heap_other (by omega)).trans hk)⟩
    · have h := run_endLoop (P := P) hl (by rw [hrs]; simp)
      rw [show (rec .done (some c)).pending = some c by rw [hrec]] at h
      exact ⟨some c, _, h, hstop c pre _ hq (hIx _ _ _ _ _ hi (Mv.put _ _ (.inr rfl))) ((World.putObj_heap_other (by omega)).trans hk)⟩
end Go.Proofs.Ytgadpmddbkimfaa.nn
namespace Go.Proofs.Ytgadpmddbkimfaa.nn
open Go.RowKit

mutual
/-- all values and their paths, each ahead of those within it -/
def rws : List Nat → VT → List (List Nat × VT) | zs, .mk k g n s l => (zs, .mk k g n s l) :: rwsL zs 0 l
def rwsL : List Nat → Nat → List VT → List (List Nat × VT) | _, _, [] => [] | zs, i, t :: r => rws (zs ++ [i]) t ++ rwsL zs (i + 1) r
end
theorem rws_mk (zs : List Nat) (t : VT) : rws zs t = (zs, t) :: rwsL zs 0 t.l := by cases t; rfl
theorem rwsL_app (zs : List Nat) (a b : List VT) (i : Nat) : rwsL zs i (a ++ b) = rwsL zs i a ++ rwsL zs (i + a.length) b := by
  induction a generalizing i with
  | nil => simp [rwsL]
  | cons t r ih => simp only [List.cons_append, rwsL, ih, List.length_cons, List.append_assoc, Nat.add_assoc, Nat.add_comm 1]
theorem rwsL_take (zs : List Nat) {l : List VT} {i : Nat} (h : i < l.length) : rwsL zs 0 (l.take (i + 1)) = rwsL zs 0 (l.take i) ++ rws (zs ++ [i]) l[i] := by
  rw [List.take_succ_eq_append_getElem h, rwsL_app]
  simp [rwsL, Nat.min_eq_left (Nat.le_of_lt h)]
theorem rwsL_cut (zs : List Nat) {l : List VT} {i : Nat} (h : i < l.length) : rwsL zs 0 l = rwsL zs 0 (l.take i) ++ rws (zs ++ [i]) l[i] ++ rwsL zs (i + 1) (l.drop (i + 1)) := by
  rw [← rwsL_take zs h]
  conv => lhs; rw [← List.take_append_drop (i + 1) l]
  rw [rwsL_app, List.length_take, Nat.zero_add, Nat.min_eq_left (by omega)]
mutual
theorem rws_len : ∀ (zs : List Nat) (t : VT), (rws zs t).length = cnt t
  | zs, .mk _ _ _ _ l => by have := rwsL_len zs 0 l; simp only [rws, cnt, List.length_cons]; omega
theorem rwsL_len : ∀ (zs : List Nat) (i : Nat) (l : List VT), (rwsL zs i l).length = cntL l
  | _, _, [] => rfl
  | zs, i, t :: r => by have h1 := rws_len (zs ++ [i]) t; have h2 := rwsL_len zs (i + 1) r; simp only [rwsL, cntL, List.length_append]; omega
end
/-- places as values -/
def ivs (zs : List Nat) : List Value := zs.map fun (j : Nat) => Value.int .i64 (j : Int)
theorem ivs_snoc (zs : List Nat) (i : Nat) : ivs (zs ++ [i]) = ivs zs ++ [.int .i64 (i : Int)] := by simp [ivs]
theorem ivs_len (zs : List Nat) : (ivs zs).length = zs.length := by simp [ivs]
/-- a path lies in memory, and may be appended to -/
def Pa (w : World) (v : Value) (zs : List Nat) : Prop := w.ownsRow 0 3 1 v zs.length (ivs zs)
theorem Pa.nil_ (w : World) : Pa w (.slice none 0 0) [] := World.ownsRow_nil _ _ _ _
theorem Pa.low {w : World} {g n m c : Nat} {xs ys : List Value} (h : w.ownsRow 0 3 1 (.slice (some ⟨g, 0, none⟩) m c) m ys) (hn : n ≤ m) (hx : xs = ys.take n) : w.ownsRow 0 3 1 (.slice (some ⟨g, 0, none⟩) n c) n xs := by
  have hl := h.1
  refine ⟨by rw [hx, List.length_take]; omega, ?_⟩
  rcases h.2 with ⟨h5, _⟩ | ⟨g', cap, cur, e, hb, hg, hc, hm, hs, ht⟩
  · cases h5
  · injection e with e1 e2 e3
    injection e1 with e1
    injection e1 with e1
    subst e1 e3
    refine .inr ⟨g, c, cur, rfl, hb, hg, by omega, hm, hs, ?_⟩
    rw [hx, ← ht, List.take_take, Nat.mul_one, Nat.mul_one, Nat.min_eq_left hn]
theorem Pa.same {w w' : World} {v : Value} {zs : List Nat} (h : Pa w v zs) (hb : ∀ b, v.ownBlock = some b → w'.heap[b]? = w.heap[b]?) : Pa w' v zs := by
  refine ⟨h.1, ?_⟩
  rcases h.2 with h5 | ⟨g, cap, cur, rfl, hb', hg, h6⟩
  · exact .inl h5
  · exact .inr ⟨g, cap, cur, rfl, hb', (hb g rfl).trans hg, h6⟩
/-- one place more: in its block, or in a new one -/
structure Pu (w : World) (v : Value) (zs : List Nat) (i g cap : Nat) (w' : World) : Prop where
  own : Pa w' (.slice (some ⟨g, 0, none⟩) (zs.length + 1) cap) (zs ++ [i])
  grow : w.grownBy w' v.ownBlock
  back : v = .slice (some ⟨g, 0, none⟩) zs.length cap ∨ (g = w.heap.size ∧ w.grownBy w' none)
theorem info_int3 : (Try.prog.info? 3).map (fun i => (i.zero, i.size, i.bytes)) = some (some (.int .i64 0), 1, 8) := by kernel_rfl
theorem run_path (w : World) (ty : TypeId) (v : Value) (zs : List Nat) (hown : Pa w v zs) (b c i : Nat) (hc : w.cell? ⟨b, 0, none⟩ = some (.int .i64 (i : Int))) (hz : zs.length + 1 ≤ 1099511627776) :
    ∃ g cap w', (Builtin.append_ #[55, 55] ty #[v, .slice (some ⟨b, 0, none⟩) 1 c]).run Try.prog w = .ok (.slice (some ⟨g, 0, none⟩) (zs.length + 1) cap) w' ∧ Pu w v zs i g cap w' := by
  obtain ⟨i0, hi, hz0, hz1, hz2⟩ : ∃ i0, Try.prog.info? 3 = some i0 ∧ i0.zero = some (.int .i64 0) ∧ i0.size = 1 ∧ i0.bytes = 8 := info_parts info_int3
  have hnews : ∀ j u, [Value.int .i64 (i : Int)][j]? = some u → w.cell? ((⟨b, 0, none⟩ : Addr).add j) = some u := by
    intro j u hu
    cases j with
    | zero =>
      have : u = .int .i64 (i : Int) := by simpa using hu.symm
      subst this
      simpa [Addr.add] using hc
    | succ j => simp at hu
  obtain ⟨v', w', hr, ho, hg, _⟩ := run_append_own (P := Try.prog) w 0 55 ty 3 i0 (.int .i64 0) 1 8 Try.underlying55 hi hz0 hz1 hz2 rfl (by decide) v zs.length (ivs zs) hown ⟨b, 0, none⟩ 1 c [.int .i64 (i : Int)] rfl hnews
    (fun u hu => by simp at hu; subst hu; rfl) (by unfold maxLen; omega) (by omega) (Nat.zero_le _)
  have hsn : ivs (zs ++ [i]) = ivs zs ++ [.int .i64 (i : Int)] := ivs_snoc zs i
  have hln : (zs ++ [i]).length = zs.length + 1 := by simp
  rcases hown.2 with ⟨rfl, h0⟩ | ⟨g, cap, cur, rfl, _, hgg, hcc, _, hcs, htk⟩
  · have h2 := run_append_nil (P := Try.prog) w 55 ty 3 i0 (.int .i64 0) Try.underlying55 hi hz0 ⟨b, 0, none⟩ 1 c [.int .i64 (i : Int)] (by rw [hz1]; rfl) hnews (by omega) (by omega) (by rw [hz2]; omega)
    rw [hr] at h2
    injection h2 with h2 h3
    subst h2 h3
    rw [h0] at ho ⊢
    refine ⟨_, _, _, hr, by unfold Pa; rw [hln, h0, hsn]; exact ho, hg, .inr ⟨rfl, hg⟩⟩
  · by_cases hroom : zs.length + 1 ≤ cap
    · have h2 := run_append_room (P := Try.prog) w 55 ty 3 i0 Try.underlying55 hi g zs.length cap cur hgg ⟨b, 0, none⟩ 1 c [.int .i64 (i : Int)] (by rw [hz1]; rfl) hnews (fun u hu => by simp at hu; subst hu; rfl) hroom (by rw [hz1]; simp; omega)
      rw [hr] at h2
      injection h2 with h2 h3
      subst h2
      refine ⟨_, _, _, hr, by unfold Pa; rw [hln, hsn]; exact ho, hg, .inl rfl⟩
    · have holds := hown.cells (g := g) rfl
      have h2 := run_append_grow (P := Try.prog) w 55 ty 3 i0 (.int .i64 0) Try.underlying55 hi hz0 ⟨g, 0, none⟩ zs.length cap (ivs zs) (by rw [hz1, ivs_len]; omega) holds ⟨b, 0, none⟩ 1 c [.int .i64 (i : Int)] (by rw [hz1]; rfl) hnews (by omega) (by omega) (growslice_fits (by omega) (by rw [hz2]; omega))
      rw [hr] at h2
      injection h2 with h2 h3
      subst h2 h3
      exact ⟨_, _, _, hr, by unfold Pa; rw [hln, hsn]; exact ho, hg, .inr ⟨rfl, ⟨rfl, rfl, rfl, by simp, fun k hk _ => Below.heap_alloc w.drew _ k hk⟩⟩⟩
theorem step_path {ops : Array Oper} {o : Oper} {a : Act} {w : World} {K : Act → World → Prop} {Q : Exit → Act → World → Prop} {E : Prop} (hgd : o.guard = none) (s x : Operand)
    (ho : o.op = .call { callee := .builtin .append, args := #[s, x], argTypes := #[55, 55] })
    (v : Value) (zs : List Nat) (hs : a.eval s = v) (hown : Pa w v zs) (b c i : Nat) (hx : a.eval x = .slice (some ⟨b, 0, none⟩) 1 c) (hc : w.cell? ⟨b, 0, none⟩ = some (.int .i64 (i : Int))) (hz : zs.length + 1 ≤ 1099511627776)
    (h : ∀ g cap w', Pu w v zs i g cap w' → K (a.put o.dst (.slice (some ⟨g, 0, none⟩) (zs.length + 1) cap)) w') :
    if Region.wanted o (yielded ops a.tmps) = true then Oper.wp Try.prog o a w K Q else E := by
  have hw : Region.wanted o (yielded ops a.tmps) = true := by simp [Region.wanted, hgd]
  rw [if_pos hw]
  obtain ⟨g, cap, w', hr, hp⟩ := run_path w o.type v zs hown b c i hc hz
  unfold Oper.wp execOp
  simp only [ho, resolve, invoke, builtin, Sem.run_bind, Sem.run_pure, Result.andThen_ok, List.map_toArray, List.map_cons, List.map_nil, hs, hx, hr]
  exact h _ _ _ hp
end Go.Proofs.Ytgadpmddbkimfaa.nn
