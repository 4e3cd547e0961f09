/- The walk of Digits: the decimal digits of a number. The table of the powers of ten is asked for. -/
import Derived.Test.YtnikoojgoiobjaaDoorDecNum
import Derived.Test.YtnikoojgoiobjaaDoorBuilder
import Derived.Test.YtnikoojgoiobjaaDoorRepeat
import Derived.Deep.WholeRow
namespace Go.Proofs.YtnikoojgoiobjaaDoor.nn
open Go.RowKit

theorem fmtUint_any (u : Nat) (w : World) (hu : u < 18446744073709551616) (ht : Pow10 w) :
    Calls Tryd.prog 31 #[.int .u64 (u : Int), .int .i64 10] w fun e w' => e = .returned (.string ⟨(Lib.decDigits u).toArray⟩) ∧ Below w.heap.size w w' := by
  have H := Lib.hid (fmt_any u w hu ht)
  clear ht
  go_enter Tryd.func31, Tryd.ntmps31
  go_wp2_with fail
  refine H.out.mono ?_
  rintro e w' ⟨rfl, hb⟩
  go_wp2_with fail
  go_ret
  exact ⟨rfl, hb⟩

theorem Pow10.at_ {w : World} (h : Pow10 w) : 2 < w.heap.size := by
  unfold Pow10 Lib.TabIs World.var? at h
  rw [show Tryd.prog.globalNamed "internal/strconv.uint64pow10" = some 2 by kernel_rfl] at h
  rcases Nat.lt_or_ge 2 w.heap.size with h1 | h1
  · exact h1
  · exfalso
    have : w.heap[2]? = none := Array.getElem?_eq_none h1
    simp [this] at h
theorem Pow10.below {B : Nat} {w w' : World} (h : Pow10 w) (hb : Below B w w') (hB : 2 < B) : Pow10 w' := by
  unfold Pow10 Lib.TabIs World.var? at h ⊢
  rw [show Tryd.prog.globalNamed "internal/strconv.uint64pow10" = some 2 by kernel_rfl] at h ⊢
  simp only [Option.bind_some] at h ⊢
  rw [hb.block _ hB]
  exact h

theorem Bld.below {B b C : Nat} {l : List UInt8} {w w' : World} (h : Bld B b l w) (hb : Below C w w') (hC : w.heap.size ≤ C) : Bld B b l w' := by
  have key : ∀ p, Lib.BuilderAt 59 5 B b p (Lib.byteCells l) w → Lib.BuilderAt 59 5 B b p (Lib.byteCells l) w' := by
    rintro p ⟨h1, v, h2, ⟨h3, h4⟩, h5⟩
    have hlt : b < w.heap.size := (Array.getElem?_eq_some_iff.1 h2).1
    refine ⟨h1, v, (hb.block b (by omega)).trans h2, ⟨h3, h4.imp id ?_⟩, h5⟩
    rintro ⟨g, cap, cur, e1, e2, e3, e4⟩
    have hg : g < w.heap.size := (Array.getElem?_eq_some_iff.1 e3).1
    exact ⟨g, cap, cur, e1, e2, (hb.block g (by omega)).trans e3, e4⟩
  exact h.imp (key _) (key _)
theorem Bld.new (w : World) : Bld w.heap.size w.heap.size [] (w.alloc (.cells #[.pointer none, .slice none 0 0] 59)) :=
  .inl ⟨Nat.le_refl _, .slice none 0 0, heap_alloc_last _ _, ⟨rfl, .inl ⟨rfl, rfl⟩⟩, by simp [Value.ownBlock]⟩

/-- the digits, or nothing beside the error -/
def dgT (n : Nat) (f : Nat → Nat) : List UInt8 := if 4096 < tr f n then [] else Lib.decDigits (sm (2 ^ 32) f n)
def dgE (n : Nat) (f : Nat → Nat) : Nat := if 4096 < tr f n then 2 else 0

set_option maxRecDepth 100000 in
set_option maxHeartbeats 2000000 in
theorem digits_any (A : Option Addr) (n c : Nat) (f : Nat → Nat) (w : World) (hA : Rd w .u32 A n f) (lf : Lt (2 ^ 32) f n) (hn : n ≤ c) (hc : c ≤ maxLen) (ht : Pow10 w) :
    Calls Tryd.prog 12 #[.slice A n c] w fun e w' => e = .returned (.tuple #[.string ⟨(dgT n f).toArray⟩, .int .i64 (dgE n f : Int)]) ∧ Below w.heap.size w w' := by
  have HB := Lib.hid (fun o => (Below.refl w.heap.size w).alloc (Nat.le_refl _) o)
  by_cases hl : 4096 < tr f n
  · have e1 : dgT n f = [] := by unfold dgT; rw [if_pos hl]
    have e2 : dgE n f = 2 := by unfold dgE; rw [if_pos hl]
    rw [e1, e2]
    have HL := Lib.hid (long_one w A n c f 22 hA hn hc true (decide_eq_true hl))
    clear hA ht e1 e2 hl lf
    go_enter Tryd.func12, Tryd.ntmps12
    go_wp2_with fail
    refine HL.out.mono ?_
    rintro e w1 ⟨rfl, rfl⟩
    go_wp2_with fail
    go_ret2
    exact ⟨rfl, HB.out _⟩
  · have hle := tr_le f n
    obtain ⟨V, hV⟩ : ∃ V, sm (2 ^ 32) f n = V := ⟨_, rfl⟩
    have e1 : dgT n f = Lib.decDigits V := by unfold dgT; rw [if_neg hl, hV]
    have e2 : dgE n f = 0 := by unfold dgE; rw [if_neg hl]
    rw [e1, e2]
    have HL := Lib.hid (long_one w A n c f 22 hA hn hc false (decide_eq_false hl))
    have HTR := Lib.hid (fun o => trim_any A n c f (w.alloc o) (hA.alloc o) hn hc)
    have HWI := Lib.hid (fun o => widen_any A (tr f n) c f (w.alloc o) ((hA.mono hle).alloc o) (lf.mono hle) (by omega))
    obtain ⟨m, hm⟩ : ∃ m, tr f n = m := ⟨_, rfl⟩
    rw [sm_tr, hV, hm] at HWI
    rw [hm] at HTR hl
    have HP := Lib.hid ht
    have HPA := Lib.hid ht.at_
    clear hA e1 e2 lf hle hV hm ht
    go_enter Tryd.func12, Tryd.ntmps12
    go_wp2_with fail
    refine HL.out.mono ?_
    rintro e w1 ⟨rfl, rfl⟩
    go_wp2_with fail
    refine (HTR.out _).mono ?_
    rintro e w1 ⟨rfl, rfl⟩
    go_wp2_with fail
    refine (HWI.out _).mono ?_
    rintro e w2 ⟨g, cur, f2, rfl, hg, hbk, hcs, hin, lf2, hv2, hb2⟩
    have HCH := chunks_any w.heap.size g ((m + 1) / 2) ((m + 1) / 2) cur f2 w2 hbk hin lf2 (by simp at hg; omega) (Nat.le_refl _) (by omega)
    rw [hv2] at HCH
    have HCC := Lib.hid HCH
    have HB2 := Lib.hid ((HB.out _).trans (hb2.mono (by simp)))
    clear HCH hbk hin lf2 hv2 hb2 hg hcs
    go_wp2_with fail
    refine HCC.out.mono ?_
    rintro e w3 ⟨v, k, ch, rfl, hown, hch, hk1, hkM, hlast, hend, hb3⟩
    obtain ⟨A', c', rfl, hkc, hcm, hrd⟩ := Rd.of_own hown
    have HR := Lib.hid hrd
    have hB3 := HB2.out.trans hb3
    have HB3 := Lib.hid hB3
    have HCHS := Lib.hid hch
    have HLE := Lib.hid (And.intro hlast hend)
    have hkb : k ≤ 1000000 := by omega
    have HP3 := Lib.hid (HP.out.below hB3 HPA.out)
    have hz3 : w.heap.size ≤ w3.heap.size := hB3.size
    clear hown hch hlast hend hb3 hrd hB3
    go_wp2_with fail
    go_loopw [6] (fun s6 wr => ∃ (t : Nat) (l : List UInt8), t ≤ k ∧ s6 = .int .i64 ((t : Int) - 1) ∧ l.length ≤ 19 * (k - t) ∧ Hid ((t = k ∧ l = []) ∨ (t < k ∧ l = Lib.decDigits (V / D19 ^ t))) ∧ Hid (Bld w3.heap.size w3.heap.size l wr ∧ Below w3.heap.size w3 wr)) (fun s6 _ => (intOf s6 + 1).toNat)
    case atStart => exact ⟨k, [], Nat.le_refl _, rfl, Nat.zero_le _, Lib.hid (.inl ⟨rfl, rfl⟩), Lib.hid ⟨Bld.new w3, (Below.refl _ _).alloc (Nat.le_refl _) _⟩⟩
    case round =>
      obtain ⟨t, l, htk, rfl, hlen, hl2, hW⟩ := hrel
      have hzr : w3.heap.size ≤ wr.heap.size := hW.out.2.size
      by_cases h1 : 0 < t
      · obtain ⟨s, rfl⟩ : ∃ s, t = s + 1 := ⟨t - 1, by omega⟩
        have hs0 : (((s + 1 : Nat) : Int) - 1) = (s : Int) := by omega
        obtain ⟨bb, off, hA', hbl, hcell⟩ := HR.out (by omega)
        subst hA'
        have hx : wr.cell? ⟨bb, off + s, none⟩ = some (.int .u64 (ch s : Int)) := (hW.out.2.cell (p := ⟨bb, off + s, none⟩) hbl).trans (hcell s (by omega))
        have hu := HCHS.out s (by omega)
        obtain ⟨u, huu⟩ : ∃ u, ch s = u := ⟨_, rfl⟩
        rw [huu] at hx hu
        have hu19 : u < 10 ^ 19 := by rw [hu]; exact Nat.mod_lt _ (by decide)
        have hnd : Lib.nDigits u ≤ 19 := nd_le 19 u (by decide) hu19
        have hF := fmtUint_any u wr (Nat.lt_trans hu19 (by decide)) (HP3.out.below hW.out.2 (Nat.lt_of_lt_of_le HPA.out hz3))
        have HF := Lib.hid hF
        have HU := Lib.hid (And.intro hu hu19)
        obtain ⟨T, hT⟩ : ∃ T : ByteArray, (⟨(Lib.decDigits u).toArray⟩ : ByteArray) = T := ⟨_, rfl⟩
        have hTs : T.size = Lib.nDigits u := by rw [← hT, ← Lib.decDigits_length]; rfl
        have hTd : T.data.toList = Lib.decDigits u := by rw [← hT]
        rw [hT] at HF
        have HT := Lib.hid (And.intro hTs hTd)
        have hT19 : T.size ≤ 19 := by omega
        have hz' : Hid (Lib.nDigits u ≤ 19) := Lib.hid hnd
        clear hcell hF hu hu19 huu hT hTs hTd hnd
        rw [hs0]
        clear hs0
        go_wp2_with fail
        refine HF.out.mono ?_
        rintro e w4 ⟨rfl, hb4⟩
        have HW4 := Lib.hid (And.intro (hW.out.1.below hb4 (Nat.le_refl _)) (hW.out.2.trans (hb4.mono hzr)))
        have hzr4 : w3.heap.size ≤ w4.heap.size := Nat.le_trans hzr hb4.size
        clear hb4
        by_cases hlast : s + 1 < k
        · have hl3 : l = Lib.decDigits (V / D19 ^ (s + 1)) := by
            rcases hl2.out with ⟨h, _⟩ | ⟨_, h⟩
            · omega
            · exact h
          obtain ⟨q, hq⟩ : ∃ q, 19 - T.size = q := ⟨_, rfl⟩
          have hq' : (19 : Int) - (T.size : Int) = (q : Int) := by omega
          have hq18 : q ≤ 18 := by have := HT.out.1; have := Lib.nDigits_pos u; omega
          have HRE := Lib.hid (repeat_zero q w4 hq18)
          have HWS := Lib.hid (writeString_any w3.heap.size w3.heap.size l (zs q) w4 HW4.out.1 (by
            have : (zs q).size = q := by simp [zs, ByteArray.size]
            omega) hzr4)
          have HL3 := Lib.hid hl3
          have HQ := Lib.hid hq
          clear hl3 hq
          go_wp2_with fail
          refine HRE.out.mono ?_
          rintro e w5 ⟨rfl, rfl⟩
          go_wp2_with fail
          refine HWS.out.mono ?_
          rintro e w5 ⟨rfl, hbl5, hb5⟩
          have hzr5 : w3.heap.size ≤ w5.heap.size := Nat.le_trans hzr4 hb5.size
          have hzq : (zs q).data.toList = List.replicate q 48 := by simp [zs]
          rw [hzq] at hbl5
          have HWT := Lib.hid (writeString_any w3.heap.size w3.heap.size _ T w5 hbl5 (by rw [List.length_append, List.length_replicate]; omega) hzr5)
          have HB5 := Lib.hid (HW4.out.2.trans hb5)
          clear hbl5 hb5 hzq
          go_wp2_with fail
          refine HWT.out.mono ?_
          rintro e w6 ⟨rfl, hbl6, hb6⟩
          have hnew : l ++ List.replicate q 48 ++ T.data.toList = Lib.decDigits (V / D19 ^ s) := by
            rw [HT.out.2, HL3.out, ← HQ.out, HT.out.1, List.append_assoc]
            refine dec_next ?_ HU.out.1
            rcases HLE.out.1 with h | h
            · omega
            · exact div_mono h (by omega) d19_pos
          have hlen6 : (l ++ List.replicate q 48 ++ T.data.toList).length ≤ 19 * (k - s) := by
            have e : T.data.toList.length = T.size := rfl
            rw [List.length_append, List.length_append, List.length_replicate, e]
            omega
          have H6 := Lib.hid (And.intro hbl6 (HB5.out.trans hb6))
          have HN : Hid ((s = k ∧ l ++ List.replicate q 48 ++ T.data.toList = []) ∨ (s < k ∧ l ++ List.replicate q 48 ++ T.data.toList = Lib.decDigits (V / D19 ^ s))) := Lib.hid (.inr ⟨by omega, hnew⟩)
          clear hbl6 hb6 hnew
          go_wp2_with fail
          go_roundw
          case rel => exact ⟨s, _, by omega, by go_num, hlen6, HN, H6⟩
          case measure => simp [intOf]
        · have hks : s + 1 = k := by omega
          have hl3 : l = [] := by
            rcases hl2.out with ⟨_, h⟩ | ⟨h, _⟩
            · exact h
            · omega
          subst hl3
          have HWT := Lib.hid (writeString_any w3.heap.size w3.heap.size [] T w4 HW4.out.1 (by simp; omega) hzr4)
          have HKS := Lib.hid hks
          clear hks
          go_wp2_with fail
          refine HWT.out.mono ?_
          rintro e w6 ⟨rfl, hbl6, hb6⟩
          rw [List.nil_append] at hbl6
          have hnew : T.data.toList = Lib.decDigits (V / D19 ^ s) := by
            rw [HT.out.2]
            refine dec_first ?_ HU.out.1
            rw [HKS.out]
            exact HLE.out.2
          have hlen6 : T.data.toList.length ≤ 19 * (k - s) := by
            have e : T.data.toList.length = T.size := rfl
            rw [e]; omega
          have H6 := Lib.hid (And.intro hbl6 (HW4.out.2.trans hb6))
          have HN : Hid ((s = k ∧ T.data.toList = []) ∨ (s < k ∧ T.data.toList = Lib.decDigits (V / D19 ^ s))) := Lib.hid (.inr ⟨by omega, hnew⟩)
          clear hbl6 hb6 hnew
          go_wp2_with fail
          go_roundw
          case rel => exact ⟨s, _, by omega, by go_num, hlen6, HN, H6⟩
          case measure => simp [intOf]
      · obtain rfl : t = 0 := by omega
        have hl3 : l = Lib.decDigits V := by
          rcases hl2.out with ⟨h, _⟩ | ⟨_, h⟩
          · omega
          · rw [h, Nat.pow_zero, Nat.div_one]
        subst hl3
        have HST := Lib.hid (Tryd.Builder_String_any w3.heap.size w3.heap.size (Lib.decDigits V) wr hW.out.1 hzr)
        go_wp2_with fail
        refine HST.out.mono ?_
        rintro e w6 ⟨rfl, hb6⟩
        go_wp2_with fail
        go_ret2
        exact ⟨rfl, HB3.out.trans ((hW.out.2.trans hb6).mono hz3)⟩
end Go.Proofs.YtnikoojgoiobjaaDoor.nn
