/- Joined texts, what is wanted of them: ValuePartsW. -/
import Derived.Test.YthpaipjfkhjblaaProg
import Derived.WalkKit
import Derived.Lib.Hide
import Derived.Deep.QuietTactic
import Derived.BigQuiet
import Derived.IntWalk
import Derived.Test.YthpaipjfkhjblaaJe
import Derived.Test.YthpaipjfkhjblaaJa
import Derived.Test.YthpaipjfkhjblaaJh
import Derived.Test.YthpaipjfkhjblaaJb
import Derived.Test.YthpaipjfkhjblaaJd
import Derived.Test.YthpaipjfkhjblaaJc
namespace Go.Proofs.Ythpaipjfkhjblaa.nn
open Go.RowKit

/-- a list of trees, as a tree -/
def lv (l : List VT) : VT := .mk 11 false 0 ⟨#[]⟩ l
theorem lv_one (l : List VT) : oneB (lv l) = true := by
  unfold oneB
  rw [if_pos (.inr (.inr rfl))]
  show ((⟨#[]⟩ : ByteArray).toList.isEmpty && _ && _) = true
  rw [ByteArray.toList_eq]
  rfl
theorem lv_rgt (l : List VT) : rgt (lv l) = rgtL l := by
  rw [rgt_mk, lv_one, show lf (lv l).k = false from (show lf 11 = false by decide)]
  simp [lv, VT.l]
theorem lv_cnt (l : List VT) : cnt (lv l) = cntL l + 1 := rfl
theorem lv_dep (l : List VT) : dep (lv l) = depL l + 1 := by rw [dep_mk, if_neg (by show ¬ (11 : Int) = 5; decide), show lf (lv l).k = false from (show lf 11 = false by decide)]; rfl
theorem dep_at {l : List VT} {i : Nat} (h : i < l.length) : dep l[i] ≤ depL l := by
  have h1 := depL_take_succ h
  have h2 := depL_app (l.take (i + 1)) (l.drop (i + 1))
  rw [List.take_append_drop] at h2
  omega
theorem rgt_all {l : List VT} (h : ∀ j (hj : j < l.length), rgt l[j] = true) : rgtL l = true := by
  induction l with
  | nil => rfl
  | cons t r ih =>
    simp only [rgtL]
    have h0 := h 0 (by simp)
    simp only [List.getElem_cons_zero] at h0
    rw [h0, ih fun j hj => by
      have h1 := h (j + 1) (by simp; omega)
      simp only [List.getElem_cons_succ] at h1
      exact h1]
    rfl
/-- one that may not be within it: it may not be -/
theorem lv_bad {l : List VT} {i : Nat} (h : i < l.length) (hc : chk l[i] ≠ 0) : chk (lv l) ≠ 0 := by
  have h1 := dep_at h
  have h2 := cnt_at h
  have h3 := lv_cnt l
  have h4 := lv_dep l
  have h5 := lv_rgt l
  unfold chk at hc ⊢
  by_cases c1 : 64 < dep l[i] ∨ 65536 < cnt l[i]
  · rw [if_pos (by omega)]; decide
  · rw [if_neg c1] at hc
    cases hr : rgt l[i] with
    | true => rw [hr] at hc; simp at hc
    | false =>
      rw [h5, rgtL_no h hr]
      split
      · decide
      · simp
theorem lv_good {l : List VT} (h : ∀ j (hj : j < l.length), chk l[j] = 0) : chk (lv l) = if depL l < 64 ∧ cntL l + 1 ≤ 65536 then 0 else 2 := by
  have h3 := lv_cnt l
  have h4 := lv_dep l
  have h5 : rgt (lv l) = true := by
    rw [lv_rgt]
    refine rgt_all fun j hj => ?_
    have := h j hj
    unfold chk at this
    split at this
    · cases this
    · cases hr : rgt l[j] with
      | true => rfl
      | false => rw [hr] at this; simp at this
  unfold chk
  rw [h5, h3, h4]
  by_cases c : depL l < 64 ∧ cntL l + 1 ≤ 65536
  · rw [if_pos c, if_neg (by omega)]; rfl
  · rw [if_neg c, if_pos (by omega)]
theorem vv_lv (l : List VT) (C : Value) : vv (lv l) C = .agg #[.int .i64 11, .bool false, .int .u64 0, .string ⟨#[]⟩, C] := rfl
set_option maxRecDepth 100000 in
set_option maxHeartbeats 4000000 in
theorem parts8_any (l : List VT) (C : Value) (w : World) (hC : Lst w C l) (hB : blkL l ≤ 1048576) (hwl : wfL l) :
    Calls Try.prog 6 #[C] w fun r w' => r = .returned (.bool true) ∧ Below w.heap.size w w' := by
  have hcb := cntL_blkL l
  have hsb := smxL_blkL l
  have HWL := Lib.hid hwl
  have hll := len_cntL l
  have hdl := depL_le _ l (Nat.le_refl _)
  have hmx : (1048576 : Nat) ≤ maxLen := by simp [maxLen]
  have hcv := lv_cnt l
  have hdv := lv_dep l
  have hsv : smx (lv l) ≤ maxLen := by
    have h := smx_mk (lv l)
    rw [show (lv l).s.size = 0 from rfl, show (lv l).l = l from rfl] at h
    omega
  have H1 : Hid (∀ W, Box w (lv l) C W → Calls Try.prog 8 #[vv (lv l) C] W fun e w' => e = .returned (.int .i64 (chk (lv l) : Int)) ∧ Box w (lv l) C w') := Lib.hid fun W hW =>
    (vcheck_any (lv l) C W (by omega) hsv (hC.keep hW.b (Nat.le_refl _)) ⟨by decide, by decide, by decide, hwl⟩).mono fun e w' ⟨he, hb⟩ => ⟨he, hW.on hb⟩
  have H2 : Hid (∀ W, Box w (lv l) C W → Calls Try.prog 10 #[vv (lv l) C] W fun e w' => e = .returned (.int .i64 (dep (lv l) : Int)) ∧ Box w (lv l) C w') := Lib.hid fun W hW =>
    (vdepth_any (lv l) C W (by omega) (hC.keep hW.b (Nat.le_refl _))).mono fun e w' ⟨he, hb⟩ => ⟨he, hW.on hb⟩
  have H3 : Hid (∀ W, Box w (lv l) C W → Calls Try.prog 12 #[vv (lv l) C] W fun e w' => e = .returned (.int .i64 (cnt (lv l) : Int)) ∧ Box w (lv l) C w') := Lib.hid fun W hW =>
    (vcount_any (lv l) C W (by omega) (hC.keep hW.b (Nat.le_refl _))).mono fun e w' ⟨he, hb⟩ => ⟨he, hW.on hb⟩
  rw [hdv] at H2
  rw [hcv] at H3
  rw [vv_lv] at H1 H2 H3
  have HBAD := Lib.hid (fun (i : Nat) (h : i < l.length) => @lv_bad l i h)
  have HGOOD := Lib.hid (@lv_good l)
  have HSB : Hid (∀ i (h : i < l.length), smx l[i] ≤ maxLen) := Lib.hid fun i h => by have := smx_at h; omega
  obtain ⟨K, hK⟩ : ∃ K, chk (lv l) = K := ⟨_, rfl⟩
  rw [hK] at H1 HBAD HGOOD
  have HB0 := Lib.hid (Box.new w (lv l) C 25)
  obtain ⟨A, c, rfl, hlc, hA⟩ := hC.out
  clear hcv hdv hsv hK hC
  go_enter Try.func6, Try.ntmps6
  go_wp2_with fail
  go_loopw [4, 5, 6] (fun s4 s5 s6 wr => ∃ i d m : Nat, i ≤ l.length ∧ d ≤ 1048576 ∧ m ≤ 1048577 ∧ s4 = .int .i64 (d : Int) ∧ s5 = .int .i64 (m : Int) ∧ s6 = .int .i64 (i : Int) ∧ Hid (d = depL (l.take i) ∧ m = cntL (l.take i) + 1 ∧ ∀ j (hj : j < l.length), j < i → chk l[j] = 0) ∧ Hid (Box w (lv l) (.slice A l.length c) wr)) (fun _ _ s6 _ => l.length - (intOf s6).toNat)
  case atStart => exact ⟨0, 0, 1, Nat.zero_le _, by omega, by omega, rfl, rfl, rfl, Lib.hid ⟨rfl, rfl, fun j _ h => absurd h (by omega)⟩, HB0⟩
  case round =>
    obtain ⟨i, d, m, hi, hd, hm, rfl, rfl, rfl, hI, hk⟩ := hrel
    by_cases hlt : i < l.length
    · rcases hA with ⟨_, h0, _⟩ | ⟨b, off, DD, rfl, hb, hrow, hkid⟩
      · rw [h0] at hlt; exact absurd hlt (by simp)
      obtain ⟨t', ht'⟩ : ∃ t', l[i] = t' := ⟨_, rfl⟩
      obtain ⟨C', hC'⟩ : ∃ C', DD i = C' := ⟨_, rfl⟩
      have hr := hrow i hlt
      have hkl := hkid i hlt
      have hcn := cnt_at hlt
      have hsm := HSB.out i hlt
      have hwt := wfL_at hlt HWL.out
      have hbad := fun h => HBAD.out i hlt h
      have hs1 := depL_take_succ hlt
      have hs2 := cntL_take_succ hlt
      have hl1 := cntL_take_le l (i + 1)
      have hl2 := depL_le _ (l.take (i + 1)) (Nat.le_refl _)
      rw [ht', hC'] at hr hkl
      rw [ht'] at hcn hsm hbad hs1 hs2 hwt
      rw [← hI.out.1] at hs1
      have HX : Hid (∀ W, Box w (lv l) (.slice (some ⟨b, off, none⟩) l.length c) W → Row W b (off + i * 5) t' C') := Lib.hid fun W hW => hr.below hW.b hb
      have C1 : Hid (∀ W, Box w (lv l) (.slice (some ⟨b, off, none⟩) l.length c) W → Calls Try.prog 8 #[vv t' C'] W fun e w' => e = .returned (.int .i64 (chk t' : Int)) ∧ Box w (lv l) (.slice (some ⟨b, off, none⟩) l.length c) w') := Lib.hid fun W hW =>
        (vcheck_any t' C' W (by omega) hsm (hkl.keep hW.b (Nat.le_refl _)) hwt).mono fun e w' ⟨he, hb⟩ => ⟨he, hW.on hb⟩
      have C2 : Hid (∀ W, Box w (lv l) (.slice (some ⟨b, off, none⟩) l.length c) W → Calls Try.prog 10 #[vv t' C'] W fun e w' => e = .returned (.int .i64 (dep t' : Int)) ∧ Box w (lv l) (.slice (some ⟨b, off, none⟩) l.length c) w') := Lib.hid fun W hW =>
        (vdepth_any t' C' W (by omega) (hkl.keep hW.b (Nat.le_refl _))).mono fun e w' ⟨he, hb⟩ => ⟨he, hW.on hb⟩
      have C3 : Hid (∀ W, Box w (lv l) (.slice (some ⟨b, off, none⟩) l.length c) W → Calls Try.prog 12 #[vv t' C'] W fun e w' => e = .returned (.int .i64 (cnt t' : Int)) ∧ Box w (lv l) (.slice (some ⟨b, off, none⟩) l.length c) w') := Lib.hid fun W hW =>
        (vcount_any t' C' W (by omega) (hkl.keep hW.b (Nat.le_refl _))).mono fun e w' ⟨he, hb⟩ => ⟨he, hW.on hb⟩
      unfold vv at C1 C2 C3
      have hr0 := HX.out _ hk.out
      have q0 := hr0.k
      have q1 := hr0.g
      have q2 := hr0.n
      have q3 := hr0.s
      have q4 := hr0.l
      by_cases hch : chk t' = 0
      · rw [hch] at C1
        obtain ⟨x, hx⟩ : ∃ x, dep t' = x := ⟨_, rfl⟩
        obtain ⟨y, hy⟩ : ∃ y, cnt t' = y := ⟨_, rfl⟩
        rw [hx] at C2 hs1
        rw [hy] at C3 hs2 hcn
        have emax : max (d : Int) (x : Int) = ((max d x : Nat) : Int) := by omega
        obtain ⟨z, hz⟩ : ∃ z, max d x = z := ⟨_, rfl⟩
        rw [hz] at emax hs1
        have hzb : z ≤ 1048576 := by omega
        have hxb : x ≤ 1048576 := by omega
        have hyb : y ≤ 1048576 := by omega
        have hmb : m + y ≤ 1048577 := by have := hI.out.2.1; omega
        have hI2 : Hid (z = depL (l.take (i + 1)) ∧ m + y = cntL (l.take (i + 1)) + 1 ∧ ∀ j (hj : j < l.length), j < i + 1 → chk l[j] = 0) := Lib.hid ⟨hs1.symm, by rw [hs2, hI.out.2.1]; omega, fun j hj h => by
          by_cases e : j = i
          · subst e; rw [ht']; exact hch
          · exact hI.out.2.2 j hj (by omega)⟩
        clear hr hkl hrow hkid hC' hcn hsm hbad hs1 hs2 hl1 hl2 hr0 hch hx hy hz
        go_wp2_with fail
        refine (C1.out _ hk.out).mono ?_
        rintro e w1 ⟨rfl, b1⟩
        clear q0 q1 q2 q3 q4
        have hr1 := HX.out _ b1
        have q0 := hr1.k
        have q1 := hr1.g
        have q2 := hr1.n
        have q3 := hr1.s
        have q4 := hr1.l
        clear hr1
        go_wp2_with fail
        refine (C2.out _ b1).mono ?_
        rintro e w2 ⟨rfl, b2⟩
        clear q0 q1 q2 q3 q4
        have hr1 := HX.out _ b2
        have q0 := hr1.k
        have q1 := hr1.g
        have q2 := hr1.n
        have q3 := hr1.s
        have q4 := hr1.l
        clear hr1
        go_wp2_with fail
        refine (C3.out _ b2).mono ?_
        rintro e w3 ⟨rfl, b3⟩
        clear q0 q1 q2 q3 q4
        go_wp2_with fail
        go_roundw
        case rel => exact ⟨i + 1, z, m + y, hlt, hzb, hmb, by go_num, by go_num, by go_num, hI2, Lib.hid b3⟩
        case measure => simp [intOf]; omega
      · have hK0 := hbad hch
        have e1 : ((chk t' : Int) != 0) = true := by simp; omega
        have e2 : ((K : Int) != 0) = true := by simp; omega
        clear hr hkl hrow hkid hC' hcn hsm hbad hs1 hs2 hl1 hl2 hr0 hch hK0 C2 C3
        obtain ⟨x, hx⟩ : ∃ x, chk t' = x := ⟨_, rfl⟩
        rw [hx] at C1 e1
        clear hx
        go_wp2_with fail
        refine (C1.out _ hk.out).mono ?_
        rintro e w1 ⟨rfl, b1⟩
        clear q0 q1 q2 q3 q4
        have r0' : w1.cell? ⟨w.heap.size, 0, none⟩ = some (.int .i64 11) := b1.r.k
        have r1' : w1.cell? ⟨w.heap.size, 1, none⟩ = some (.bool false) := b1.r.g
        have r2' : w1.cell? ⟨w.heap.size, 2, none⟩ = some (.int .u64 0) := b1.r.n
        have r3' : w1.cell? ⟨w.heap.size, 3, none⟩ = some (.string ⟨#[]⟩) := b1.r.s
        have r4' : w1.cell? ⟨w.heap.size, 4, none⟩ = some (.slice (some ⟨b, off, none⟩) l.length c) := b1.r.l
        go_wp2_with fail
        refine (H1.out _ b1).mono ?_
        rintro e w2 ⟨rfl, b2⟩
        clear r0' r1' r2' r3' r4'
        go_wp2_with fail
        refine (awake8_any _).mono ?_
        rintro e w4 ⟨rfl, b4⟩
        have b5 := Lib.hid (b2.on b4)
        clear b4
        go_wp2_with fail
        go_ret
        exact ⟨rfl, b5.out.b⟩
    · obtain rfl : i = l.length := by omega
      have hg := HGOOD.out fun j hj => hI.out.2.2 j hj hj
      have hI1 := hI.out.1
      have hI2 := hI.out.2.1
      rw [List.take_length] at hI1 hI2
      rw [← hI1, ← hI2] at hg
      rw [← hI1] at H2
      rw [← hI2] at H3
      clear hI1 hI2
      have hkk := hk.out
      have q0 : wr.cell? ⟨w.heap.size, 0, none⟩ = some (.int .i64 11) := hkk.r.k
      have q1 : wr.cell? ⟨w.heap.size, 1, none⟩ = some (.bool false) := hkk.r.g
      have q2 : wr.cell? ⟨w.heap.size, 2, none⟩ = some (.int .u64 0) := hkk.r.n
      have q3 : wr.cell? ⟨w.heap.size, 3, none⟩ = some (.string ⟨#[]⟩) := hkk.r.s
      have q4 : wr.cell? ⟨w.heap.size, 4, none⟩ = some (.slice A l.length c) := hkk.r.l
      clear hkk
      by_cases f1 : d < 64
      · by_cases f2 : m ≤ 65536
        · rw [if_pos ⟨f1, f2⟩] at hg
          subst hg
          go_wp2_with fail
          refine (H1.out _ hk.out).mono ?_
          rintro e w1 ⟨rfl, b1⟩
          have r0' : w1.cell? ⟨w.heap.size, 0, none⟩ = some (.int .i64 11) := b1.r.k
          have r1' : w1.cell? ⟨w.heap.size, 1, none⟩ = some (.bool false) := b1.r.g
          have r2' : w1.cell? ⟨w.heap.size, 2, none⟩ = some (.int .u64 0) := b1.r.n
          have r3' : w1.cell? ⟨w.heap.size, 3, none⟩ = some (.string ⟨#[]⟩) := b1.r.s
          have r4' : w1.cell? ⟨w.heap.size, 4, none⟩ = some (.slice A l.length c) := b1.r.l
          go_wp2_with fail
          refine (H2.out _ b1).mono ?_
          rintro e w2 ⟨rfl, b2⟩
          clear r0' r1' r2' r3' r4'
          have r0' : w2.cell? ⟨w.heap.size, 0, none⟩ = some (.int .i64 11) := b2.r.k
          have r1' : w2.cell? ⟨w.heap.size, 1, none⟩ = some (.bool false) := b2.r.g
          have r2' : w2.cell? ⟨w.heap.size, 2, none⟩ = some (.int .u64 0) := b2.r.n
          have r3' : w2.cell? ⟨w.heap.size, 3, none⟩ = some (.string ⟨#[]⟩) := b2.r.s
          have r4' : w2.cell? ⟨w.heap.size, 4, none⟩ = some (.slice A l.length c) := b2.r.l
          go_wp2_with fail
          refine (H3.out _ b2).mono ?_
          rintro e w3 ⟨rfl, b3⟩
          clear r0' r1' r2' r3' r4'
          go_wp2_with fail
          refine (awake8_any _).mono ?_
          rintro e w4 ⟨rfl, b4⟩
          have b5 := Lib.hid (b3.on b4)
          clear b4
          go_wp2_with fail
          go_ret
          exact ⟨rfl, b5.out.b⟩
        · rw [if_neg (by omega)] at hg
          subst hg
          have q5 : decide ((m : Int) ≤ 65536) = false := by simp; omega
          clear f2
          go_wp2_with fail
          refine (H1.out _ hk.out).mono ?_
          rintro e w1 ⟨rfl, b1⟩
          have r0' : w1.cell? ⟨w.heap.size, 0, none⟩ = some (.int .i64 11) := b1.r.k
          have r1' : w1.cell? ⟨w.heap.size, 1, none⟩ = some (.bool false) := b1.r.g
          have r2' : w1.cell? ⟨w.heap.size, 2, none⟩ = some (.int .u64 0) := b1.r.n
          have r3' : w1.cell? ⟨w.heap.size, 3, none⟩ = some (.string ⟨#[]⟩) := b1.r.s
          have r4' : w1.cell? ⟨w.heap.size, 4, none⟩ = some (.slice A l.length c) := b1.r.l
          go_wp2_with fail
          refine (H2.out _ b1).mono ?_
          rintro e w2 ⟨rfl, b2⟩
          clear r0' r1' r2' r3' r4'
          have r0' : w2.cell? ⟨w.heap.size, 0, none⟩ = some (.int .i64 11) := b2.r.k
          have r1' : w2.cell? ⟨w.heap.size, 1, none⟩ = some (.bool false) := b2.r.g
          have r2' : w2.cell? ⟨w.heap.size, 2, none⟩ = some (.int .u64 0) := b2.r.n
          have r3' : w2.cell? ⟨w.heap.size, 3, none⟩ = some (.string ⟨#[]⟩) := b2.r.s
          have r4' : w2.cell? ⟨w.heap.size, 4, none⟩ = some (.slice A l.length c) := b2.r.l
          go_wp2_with fail
          refine (H3.out _ b2).mono ?_
          rintro e w3 ⟨rfl, b3⟩
          clear r0' r1' r2' r3' r4'
          go_wp2_with fail
          refine (awake8_any _).mono ?_
          rintro e w4 ⟨rfl, b4⟩
          have b5 := Lib.hid (b3.on b4)
          clear b4
          go_wp2_with fail
          go_ret
          exact ⟨rfl, b5.out.b⟩
      · rw [if_neg (by omega)] at hg
        subst hg
        go_wp2_with fail
        refine (H1.out _ hk.out).mono ?_
        rintro e w1 ⟨rfl, b1⟩
        have r0' : w1.cell? ⟨w.heap.size, 0, none⟩ = some (.int .i64 11) := b1.r.k
        have r1' : w1.cell? ⟨w.heap.size, 1, none⟩ = some (.bool false) := b1.r.g
        have r2' : w1.cell? ⟨w.heap.size, 2, none⟩ = some (.int .u64 0) := b1.r.n
        have r3' : w1.cell? ⟨w.heap.size, 3, none⟩ = some (.string ⟨#[]⟩) := b1.r.s
        have r4' : w1.cell? ⟨w.heap.size, 4, none⟩ = some (.slice A l.length c) := b1.r.l
        go_wp2_with fail
        refine (H2.out _ b1).mono ?_
        rintro e w2 ⟨rfl, b2⟩
        clear r0' r1' r2' r3' r4'
        have r0' : w2.cell? ⟨w.heap.size, 0, none⟩ = some (.int .i64 11) := b2.r.k
        have r1' : w2.cell? ⟨w.heap.size, 1, none⟩ = some (.bool false) := b2.r.g
        have r2' : w2.cell? ⟨w.heap.size, 2, none⟩ = some (.int .u64 0) := b2.r.n
        have r3' : w2.cell? ⟨w.heap.size, 3, none⟩ = some (.string ⟨#[]⟩) := b2.r.s
        have r4' : w2.cell? ⟨w.heap.size, 4, none⟩ = some (.slice A l.length c) := b2.r.l
        go_wp2_with fail
        refine (H3.out _ b2).mono ?_
        rintro e w3 ⟨rfl, b3⟩
        clear r0' r1' r2' r3' r4'
        go_wp2_with fail
        refine (awake8_any _).mono ?_
        rintro e w4 ⟨rfl, b4⟩
        have b5 := Lib.hid (b3.on b4)
        clear b4
        go_wp2_with fail
        go_ret
        exact ⟨rfl, b5.out.b⟩
end Go.Proofs.Ythpaipjfkhjblaa.nn
