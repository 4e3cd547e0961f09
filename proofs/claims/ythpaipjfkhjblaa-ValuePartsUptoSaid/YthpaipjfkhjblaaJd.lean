/- Joined texts, what is wanted of them: RefEqual, VaEqual, Same8. -/
import Derived.Lib.Hide
import Derived.Deep.QuietTactic
import Derived.BigQuiet
import Derived.IntWalk
import Derived.Deep.RegionHeld3
import Derived.Test.YthpaipjfkhjblaaProg
import Derived.WalkKit
import Derived.Test.YthpaipjfkhjblaaJa
import Derived.Test.YthpaipjfkhjblaaJc
namespace Go.Proofs.Ythpaipjfkhjblaa.nn
open Go.RowKit

theorem toList_inj {s t : ByteArray} (h : s.toList = t.toList) : s = t := by
  rw [ByteArray.toList_eq, ByteArray.toList_eq] at h
  exact ByteArray.ext (Array.toList_inj.1 h)
end Go.Proofs.Ythpaipjfkhjblaa.nn
namespace Go.Proofs.Ythpaipjfkhjblaa.nn
open Go.RowKit

/-- are two lists of trees the same -/
noncomputable def eqvL (a b : List VT) : Bool := @decide (a = b) (Classical.propDecidable _)
theorem eqvL_iff (a b : List VT) : eqvL a b = true ↔ a = b := by unfold eqvL; rw [@decide_eq_true_iff _ (Classical.propDecidable _)]
theorem eqvL_no {a b : List VT} (h : a ≠ b) : eqvL a b = false := by
  cases hh : eqvL a b
  · rfl
  · exact absurd ((eqvL_iff a b).1 hh) h
/-- what Equal promises, up to a size -/
def EqUp (N : Nat) : Prop := ∀ (t u : VT) (C D : Value) (w : World), cnt t ≤ N → cnt u ≤ 4611686018427387904 → Lst w C t.l → Lst w D u.l →
    Calls Try.prog 22 #[vv t C, vv u D] w fun e w' => e = .returned (.bool (eqv t u)) ∧ Below w.heap.size w w'
set_option maxRecDepth 100000 in
set_option maxHeartbeats 2000000 in
theorem eqf_any (N : Nat) (hN : N ≤ 4611686018427387904) (hE : EqUp N) (l1 l2 : List VT) (C D : Value) (w : World) (h1 : cntL l1 ≤ N) (h2 : cntL l2 ≤ 4611686018427387904) (hC : Lst w C l1) (hD : Lst w D l2) :
    Calls Try.prog 31 #[C, D, .func (.func 22) #[] #[]] w fun e w' => e = .returned (.bool (eqvL l1 l2)) ∧ Below w.heap.size w w' := by
  obtain ⟨A1, c1, rfl, _, hA⟩ := hC.out
  obtain ⟨A2, c2, rfl, _, hA2⟩ := hD.out
  have hll1 := len_cntL l1
  have hll2 := len_cntL l2
  by_cases hl : l1.length = l2.length
  · obtain ⟨m, hm⟩ : ∃ m, l1.length = m := ⟨_, rfl⟩
    have hm2 : l2.length = m := by omega
    have HM := Lib.hid (And.intro hm hm2)
    have hmb : m ≤ 4611686018427387904 := by omega
    rw [hm, hm2]
    have HA := Lib.hid (And.intro hA hA2)
    have HB := Lib.hid (And.intro h1 h2)
    clear hA hA2 h1 h2 hC hD hll1 hll2 hl hm hm2
    go_enter Try.func31, Try.ntmps31
    go_wp2_with fail
    go_loopw [17] (fun s17 wr => ∃ i : Nat, i ≤ m ∧ s17 = .int .i64 (i : Int) ∧ Hid (l1.take i = l2.take i) ∧ Hid (Below w.heap.size w wr)) (fun s17 _ => m - (intOf s17).toNat)
    case atStart => exact ⟨0, Nat.zero_le _, rfl, Lib.hid rfl, Lib.hid (Below.refl _ _)⟩
    case round =>
      obtain ⟨i, hi, rfl, hp, hb⟩ := hrel
      by_cases hlt : i < m
      · have hi1 : i < l1.length := by rw [HM.out.1]; exact hlt
        have hi2 : i < l2.length := by rw [HM.out.2]; exact hlt
        obtain ⟨hA, hA2⟩ := HA.out
        rcases hA with ⟨_, h0, _⟩ | ⟨b, off, E, rfl, hbl, hrow, hkid⟩
        · rw [h0] at hi1; exact absurd hi1 (by simp)
        rcases hA2 with ⟨_, h0, _⟩ | ⟨b2, off2, E2, rfl, hbl2, hrow2, hkid2⟩
        · rw [h0] at hi2; exact absurd hi2 (by simp)
        have hr := (hrow i hi1).below hb.out hbl
        have hkl := hkid i hi1
        have hr2 := (hrow2 i hi2).below hb.out hbl2
        have hkl2 := hkid2 i hi2
        obtain ⟨A', c', hC', _⟩ := hkl.out
        obtain ⟨n', hn'⟩ : ∃ n', l1[i].l.length = n' := ⟨_, rfl⟩
        rw [hn'] at hC'
        obtain ⟨A'', c'', hC'', _⟩ := hkl2.out
        obtain ⟨n'', hn''⟩ : ∃ n', l2[i].l.length = n' := ⟨_, rfl⟩
        rw [hn''] at hC''
        have hcn := cnt_at hi1
        have hcn2 := cnt_at hi2
        obtain ⟨t, ht⟩ : ∃ t', l1[i] = t' := ⟨_, rfl⟩
        obtain ⟨u, hu⟩ : ∃ t', l2[i] = t' := ⟨_, rfl⟩
        have HNO : Hid (eqv t u = false → eqvL l1 l2 = false) := Lib.hid fun h => eqvL_no fun e => by
          subst e
          rw [← ht, ← hu] at h
          have := (eqv_iff l1[i] l1[i]).2 rfl
          rw [h] at this
          cases this
        have HYES : Hid (eqv t u = true → l1.take (i + 1) = l2.take (i + 1)) := Lib.hid fun h => by
          rw [List.take_succ_eq_append_getElem hi1, List.take_succ_eq_append_getElem hi2, hp.out, ht, hu, (eqv_iff t u).1 h]
        rw [ht, hC'] at hr hkl
        rw [hu, hC''] at hr2 hkl2
        rw [ht] at hcn
        rw [hu] at hcn2
        have HI := Lib.hid (fun W (hW : Below w.heap.size w W) => hE t u (.slice A' n' c') (.slice A'' n'' c'') W (by have := HB.out.1; omega) (by have := HB.out.2; omega) (hkl.keep hW (Nat.le_refl _)) (hkl2.keep hW (Nat.le_refl _)))
        have r0 := hr.k
        have r1 := hr.g
        have r2 := hr.n
        have r3 := hr.s
        have r4 := hr.l
        have s0 : ∀ o, (wr.alloc o).cell? ⟨b2, off2 + i * 5, none⟩ = some (.int .i64 u.k) := fun o => (((Below.refl wr.heap.size wr).alloc (Nat.le_refl _) o).cell (p := ⟨b2, off2 + i * 5, none⟩) (Nat.lt_of_lt_of_le hbl2 hb.out.size)).trans hr2.k
        have s1 : ∀ o, (wr.alloc o).cell? ⟨b2, off2 + i * 5 + 1, none⟩ = some (.bool u.g) := fun o => (((Below.refl wr.heap.size wr).alloc (Nat.le_refl _) o).cell (p := ⟨b2, off2 + i * 5 + 1, none⟩) (Nat.lt_of_lt_of_le hbl2 hb.out.size)).trans hr2.g
        have s2 : ∀ o, (wr.alloc o).cell? ⟨b2, off2 + i * 5 + 2, none⟩ = some (.int .u64 (u.n : Int)) := fun o => (((Below.refl wr.heap.size wr).alloc (Nat.le_refl _) o).cell (p := ⟨b2, off2 + i * 5 + 2, none⟩) (Nat.lt_of_lt_of_le hbl2 hb.out.size)).trans hr2.n
        have s3 : ∀ o, (wr.alloc o).cell? ⟨b2, off2 + i * 5 + 3, none⟩ = some (.string u.s) := fun o => (((Below.refl wr.heap.size wr).alloc (Nat.le_refl _) o).cell (p := ⟨b2, off2 + i * 5 + 3, none⟩) (Nat.lt_of_lt_of_le hbl2 hb.out.size)).trans hr2.s
        have s4 : ∀ o, (wr.alloc o).cell? ⟨b2, off2 + i * 5 + 4, none⟩ = some (.slice A'' n'' c'') := fun o => (((Below.refl wr.heap.size wr).alloc (Nat.le_refl _) o).cell (p := ⟨b2, off2 + i * 5 + 4, none⟩) (Nat.lt_of_lt_of_le hbl2 hb.out.size)).trans hr2.l
        obtain ⟨R, hR⟩ : ∃ R, eqv t u = R := ⟨_, rfl⟩
        rw [hR] at HI HNO HYES
        have HAL : Hid (∀ o o', Below w.heap.size w ((wr.alloc o).alloc o')) := Lib.hid fun o o' => (hb.out.alloc hb.out.size o).alloc (by have := hb.out.size; simp; omega) o'
        unfold vv at HI
        clear hr hr2 hkl hkl2 hrow hrow2 hkid hkid2 ht hu hC' hC'' hn' hn'' hcn hcn2 hR hp hb
        go_wp2_with fail
        refine (HI.out _ (HAL.out _ _)).mono ?_
        rintro e w3 ⟨rfl, hb3⟩
        have B3 := Lib.hid ((HAL.out _ _).trans (hb3.mono (HAL.out _ _).size))
        clear hb3 r0 r1 r2 r3 r4 s0 s1 s2 s3 s4
        cases R
        · have HN2 := Lib.hid (HNO.out rfl)
          clear HNO HYES
          go_wp2_with fail
          go_ret
          exact ⟨by rw [HN2.out]; rfl, B3.out⟩
        · have HP := Lib.hid (HYES.out rfl)
          go_wp2_with fail
          go_roundw
          case rel => exact ⟨i + 1, hlt, by go_num, HP, B3⟩
          case measure => simp [intOf]; omega
      · obtain rfl : i = m := by omega
        have HEQ : Hid (eqvL l1 l2 = true) := Lib.hid ((eqvL_iff _ _).2 (by
          have := hp.out
          rwa [List.take_of_length_le (by rw [HM.out.1]; exact Nat.le_refl _), List.take_of_length_le (by rw [HM.out.2]; exact Nat.le_refl _)] at this))
        go_wp2_with fail
        go_ret
        exact ⟨by rw [HEQ.out]; rfl, hb.out⟩
  · have hq : ((l1.length : Int) != (l2.length : Int)) = true := by simp; omega
    have HN : Hid (eqvL l1 l2 = false) := Lib.hid (eqvL_no fun e => hl (by rw [e]))
    clear hA hA2 hC hD hl
    go_enter Try.func31, Try.ntmps31
    go_wp2_with fail
    go_ret
    exact ⟨by rw [HN.out]; rfl, Below.refl _ _⟩
set_option maxRecDepth 100000 in
set_option maxHeartbeats 4000000 in
theorem equp_any (N : Nat) (hM : N ≤ 4611686018427387904) : EqUp N := by
  induction N with
  | zero => intro t u C D w h; have := cnt_mk t; omega
  | succ N ih =>
    intro t u C D w hN hM2 hC hD
    have ht := cnt_mk t
    have hu := cnt_mk u
    have HL := Lib.hid (fun W (h : Below w.heap.size w W) => eqf_any N (by omega) (ih (by omega)) t.l u.l C D W (by omega) (by omega) (hC.keep h (Nat.le_refl _)) (hD.keep h (Nat.le_refl _)))
    obtain ⟨A1, c1, rfl, _, _⟩ := hC.out
    obtain ⟨A2, c2, rfl, _, _⟩ := hD.out
    obtain ⟨m1, hm1⟩ : ∃ m, t.l.length = m := ⟨_, rfl⟩
    obtain ⟨m2, hm2⟩ : ∃ m, u.l.length = m := ⟨_, rfl⟩
    have HB0 := Lib.hid (Box2.new w t (.slice A1 m1 c1) u (.slice A2 m2 c2) 25)
    have HE := Lib.hid (eqv_parts t u)
    have HQL := Lib.hid (eqvL_iff t.l u.l)
    obtain ⟨E, hE⟩ : ∃ E, eqv t u = E := ⟨_, rfl⟩
    obtain ⟨Q, hQ⟩ : ∃ Q, eqvL t.l u.l = Q := ⟨_, rfl⟩
    rw [hE] at HE
    rw [hQ] at HQL
    rw [hQ, hm1, hm2] at HL
    rw [hE, hm1, hm2]
    obtain ⟨k, hk⟩ : ∃ k, t.k = k := ⟨_, rfl⟩
    obtain ⟨g, hg⟩ : ∃ k, t.g = k := ⟨_, rfl⟩
    obtain ⟨n, hn⟩ : ∃ k, t.n = k := ⟨_, rfl⟩
    obtain ⟨s, hs⟩ : ∃ k, t.s = k := ⟨_, rfl⟩
    obtain ⟨k2, hk2⟩ : ∃ k, u.k = k := ⟨_, rfl⟩
    obtain ⟨g2, hg2⟩ : ∃ k, u.g = k := ⟨_, rfl⟩
    obtain ⟨n2, hn2⟩ : ∃ k, u.n = k := ⟨_, rfl⟩
    obtain ⟨s2, hs2⟩ : ∃ k, u.s = k := ⟨_, rfl⟩
    unfold vv
    rw [hk, hg, hn, hs, hk2, hg2, hn2, hs2] at HE HB0 ⊢
    clear hE hQ hm1 hm2 hC hD ih hk hg hn hs hk2 hg2 hn2 hs2 ht hu
    have HF : Hid (k ≠ k2 ∨ g ≠ g2 ∨ n ≠ n2 ∨ s ≠ s2 → E = false) := Lib.hid fun h => by
      cases E with
      | false => rfl
      | true =>
        obtain ⟨e1, e2, e3, e4, e5⟩ := HE.out.1 rfl
        rcases h with h | h | h | h
        · exact absurd e1 h
        · exact absurd e2 h
        · exact absurd e3 h
        · exact absurd e4 h
    by_cases h1 : k = k2
    · subst h1
      by_cases h2 : g = g2
      · subst h2
        by_cases h3 : n = n2
        · subst h3
          by_cases h4 : s = s2
          · subst h4
            have HT : Hid (E = Q) := Lib.hid (by
              have h1 := HE.out
              have h2 := HQL.out
              cases E <;> cases Q
              · rfl
              · exact absurd (h1.2 ⟨rfl, rfl, rfl, rfl, h2.1 rfl⟩) (by decide)
              · exact absurd (h2.2 (h1.1 rfl).2.2.2.2) (by decide)
              · rfl)
            clear HE HF HQL
            go_enter Try.func22, Try.ntmps22
            go_wp2_with fail
            refine (HL.out _ HB0.out.b).mono ?_
            rintro e w2 ⟨rfl, hb2⟩
            have hk2 := Lib.hid (HB0.out.on hb2)
            clear hb2
            go_wp2_with fail
            go_ret
            exact ⟨by rw [HT.out]; rfl, hk2.out.b⟩
          · have h5 : ¬ s.toList = s2.toList := fun h => h4 (toList_inj h)
            have q1 : (s.toList == s2.toList) = false := by simpa using h5
            have q2 : (s.toList != s2.toList) = true := by simpa using h5
            have HT : Hid (E = false) := Lib.hid (HF.out (.inr (.inr (.inr h4))))
            clear HE HF HQL h4
            go_enter Try.func22, Try.ntmps22
            go_wp2_with fail
            go_ret
            exact ⟨by rw [HT.out]; rfl, HB0.out.b⟩
        · have q1 := ne_int8 (c := (n : Int)) (k := (n2 : Int)) (by omega)
          have HT : Hid (E = false) := Lib.hid (HF.out (.inr (.inr (.inl h3))))
          clear HE HF HQL h3
          go_enter Try.func22, Try.ntmps22
          go_wp2_with fail
          go_ret
          exact ⟨by rw [HT.out]; rfl, HB0.out.b⟩
      · have HT : Hid (E = false) := Lib.hid (HF.out (.inr (.inl h2)))
        clear HE HF HQL
        cases g <;> cases g2
        all_goals
          first
            | exact absurd rfl h2
            | (clear h2
               go_enter Try.func22, Try.ntmps22
               go_wp2_with fail
               go_ret
               exact ⟨by rw [HT.out]; rfl, HB0.out.b⟩)
    · have q1 := ne_int8 h1
      have HT : Hid (E = false) := Lib.hid (HF.out (.inl h1))
      clear HE HF HQL h1
      go_enter Try.func22, Try.ntmps22
      go_wp2_with fail
      go_ret
      exact ⟨by rw [HT.out]; rfl, HB0.out.b⟩
theorem vequal_any (t u : VT) (C D : Value) (w : World) (hN : cnt t ≤ 4611686018427387904) (hM : cnt u ≤ 4611686018427387904) (hC : Lst w C t.l) (hD : Lst w D u.l) :
    Calls Try.prog 22 #[vv t C, vv u D] w fun e w' => e = .returned (.bool (eqv t u)) ∧ Below w.heap.size w w' :=
  equp_any 4611686018427387904 (Nat.le_refl _) t u C D w hN hM hC hD
end Go.Proofs.Ythpaipjfkhjblaa.nn
namespace Go.Proofs.Ythpaipjfkhjblaa.nn
open Go.RowKit

set_option maxRecDepth 100000 in
set_option maxHeartbeats 2000000 in
theorem same_any (N : Nat) : ∀ (t u : VT) (C D : Value) (w : World), cnt t ≤ N → N ≤ 4611686018427387904 → cnt u ≤ 4611686018427387904 → Lst w C t.l → Lst w D u.l →
    Calls Try.prog 23 #[vv t C, vv u D] w fun e w' => e = .returned (.bool (eqv t u)) ∧ Below w.heap.size w w' := by
  induction N with
  | zero => intro t u C D w h _ _ _ _; have := cnt_mk t; omega
  | succ N ih =>
    intro t u C D w hN hM hM2 hC hD
    have hcm := cnt_mk t
    have hll := len_cntL t.l
    have hcm2 := cnt_mk u
    have hll2 := len_cntL u.l
    have HB0 := Lib.hid (Box2.new w t C u D 25)
    have HE := Lib.hid (eqv_parts t u)
    obtain ⟨E, hE⟩ : ∃ E, eqv t u = E := ⟨_, rfl⟩
    rw [hE] at HE ⊢
    obtain ⟨A, c, rfl, hlc, hA⟩ := hC.out
    obtain ⟨A2, c2, rfl, hlc2, hA2⟩ := hD.out
    obtain ⟨l, hl⟩ : ∃ l, t.l = l := ⟨_, rfl⟩
    obtain ⟨l2, hl2⟩ : ∃ l, u.l = l := ⟨_, rfl⟩
    rw [hl] at hlc hA hcm hll HE HB0 ⊢
    rw [hl2] at hlc2 hA2 hcm2 hll2 HE HB0 ⊢
    obtain ⟨k, hk⟩ : ∃ k, t.k = k := ⟨_, rfl⟩
    obtain ⟨g, hg⟩ : ∃ k, t.g = k := ⟨_, rfl⟩
    obtain ⟨n, hn⟩ : ∃ k, t.n = k := ⟨_, rfl⟩
    obtain ⟨s, hs⟩ : ∃ k, t.s = k := ⟨_, rfl⟩
    obtain ⟨k2, hk2⟩ : ∃ k, u.k = k := ⟨_, rfl⟩
    obtain ⟨g2, hg2⟩ : ∃ k, u.g = k := ⟨_, rfl⟩
    obtain ⟨n2, hn2⟩ : ∃ k, u.n = k := ⟨_, rfl⟩
    obtain ⟨s2, hs2⟩ : ∃ k, u.s = k := ⟨_, rfl⟩
    unfold vv
    rw [hk, hg, hn, hs, hk2, hg2, hn2, hs2] at HE HB0 ⊢
    clear hE hC hD hl hl2 hk hg hn hs hk2 hg2 hn2 hs2
    have HF : Hid (k ≠ k2 ∨ g ≠ g2 ∨ n ≠ n2 ∨ s ≠ s2 ∨ l ≠ l2 → E = false) := Lib.hid fun h => by
      cases E with
      | false => rfl
      | true =>
        obtain ⟨e1, e2, e3, e4, e5⟩ := HE.out.1 rfl
        rcases h with h | h | h | h | h
        · exact absurd e1 h
        · exact absurd e2 h
        · exact absurd e3 h
        · exact absurd e4 h
        · exact absurd e5 h
    by_cases h1 : k = k2
    · subst h1
      by_cases h2 : g = g2
      · subst h2
        by_cases h3 : n = n2
        · subst h3
          by_cases h4 : s = s2
          · subst h4
            by_cases h5 : l.length = l2.length
            · have HT : Hid (E = true ↔ l = l2) := Lib.hid ⟨fun h => (HE.out.1 h).2.2.2.2, fun h => HE.out.2 ⟨rfl, rfl, rfl, rfl, h⟩⟩
              have H5 := Lib.hid h5
              rw [h5] at hlc hll HB0 ⊢
              clear h5 HE HF
              go_enter Try.func23, Try.ntmps23
              go_wp2_with fail
              go_loopw [5] (fun s5 wr => ∃ i : Nat, i ≤ l2.length ∧ s5 = .int .i64 (i : Int) ∧ Hid (l.take i = l2.take i) ∧ Hid (Box2 w t (.slice A l2.length c) u (.slice A2 l2.length c2) wr)) (fun s5 _ => l2.length - (intOf s5).toNat)
              case atStart => exact ⟨0, Nat.zero_le _, rfl, Lib.hid rfl, HB0⟩
              case round =>
                obtain ⟨i, hi, rfl, hm, hk⟩ := hrel
                have h4 : wr.cell? ⟨w.heap.size, 4, none⟩ = some (.slice A l2.length c) := hk.out.r.l
                have h4' : wr.cell? ⟨w.heap.size + 1, 4, none⟩ = some (.slice A2 l2.length c2) := hk.out.r2.l
                by_cases hlt : i < l2.length
                · have hlt1 : i < l.length := by rw [H5.out]; exact hlt
                  rcases hA with ⟨_, h0, _⟩ | ⟨b, off, DD, rfl, hb, hrow, hkid⟩
                  · rw [h0] at hlt1; exact absurd hlt1 (by simp)
                  rcases hA2 with ⟨_, h0, _⟩ | ⟨b2, off2, DD2, rfl, hb2, hrow2, hkid2⟩
                  · rw [h0] at hlt; exact absurd hlt (by simp)
                  obtain ⟨t', ht'⟩ : ∃ t', l[i] = t' := ⟨_, rfl⟩
                  obtain ⟨C', hC'⟩ : ∃ C', DD i = C' := ⟨_, rfl⟩
                  obtain ⟨u', hu'⟩ : ∃ t', l2[i] = t' := ⟨_, rfl⟩
                  obtain ⟨D', hD'⟩ : ∃ C', DD2 i = C' := ⟨_, rfl⟩
                  have hr := hrow i hlt1
                  have hkl := hkid i hlt1
                  have hr2 := hrow2 i hlt
                  have hkl2 := hkid2 i hlt
                  rw [ht', hC'] at hr hkl
                  rw [hu', hD'] at hr2 hkl2
                  have hcn := cnt_at hlt1
                  have hcn2 := cnt_at hlt
                  have ht1 := List.take_succ_eq_append_getElem hlt1
                  have ht2 := List.take_succ_eq_append_getElem hlt
                  rw [ht'] at hcn ht1
                  rw [hu'] at hcn2 ht2
                  have HX : Hid (∀ W, Box2 w t (.slice (some ⟨b, off, none⟩) l2.length c) u (.slice (some ⟨b2, off2, none⟩) l2.length c2) W → W.cell? ⟨w.heap.size, 4, none⟩ = some (.slice (some ⟨b, off, none⟩) l2.length c) ∧ W.cell? ⟨w.heap.size + 1, 4, none⟩ = some (.slice (some ⟨b2, off2, none⟩) l2.length c2) ∧
                      W.cell? ⟨b, off + i * 5, none⟩ = some (.int .i64 t'.k) ∧ W.cell? ⟨b, off + i * 5 + 1, none⟩ = some (.bool t'.g) ∧ W.cell? ⟨b, off + i * 5 + 2, none⟩ = some (.int .u64 (t'.n : Int)) ∧ W.cell? ⟨b, off + i * 5 + 3, none⟩ = some (.string t'.s) ∧ W.cell? ⟨b, off + i * 5 + 4, none⟩ = some C' ∧
                      W.cell? ⟨b2, off2 + i * 5, none⟩ = some (.int .i64 u'.k) ∧ W.cell? ⟨b2, off2 + i * 5 + 1, none⟩ = some (.bool u'.g) ∧ W.cell? ⟨b2, off2 + i * 5 + 2, none⟩ = some (.int .u64 (u'.n : Int)) ∧ W.cell? ⟨b2, off2 + i * 5 + 3, none⟩ = some (.string u'.s) ∧ W.cell? ⟨b2, off2 + i * 5 + 4, none⟩ = some D' ∧ Box2 w t (.slice (some ⟨b, off, none⟩) l2.length c) u (.slice (some ⟨b2, off2, none⟩) l2.length c2) W) := Lib.hid fun W hW =>
                    have r1 := hr.below hW.b hb
                    have r2 := hr2.below hW.b hb2
                    ⟨hW.r.l, hW.r2.l, r1.k, r1.g, r1.n, r1.s, r1.l, r2.k, r2.g, r2.n, r2.s, r2.l, hW⟩
                  have HI : Hid (∀ W, Box2 w t (.slice (some ⟨b, off, none⟩) l2.length c) u (.slice (some ⟨b2, off2, none⟩) l2.length c2) W → Calls Try.prog 23 #[vv t' C', vv u' D'] W fun e w' => e = .returned (.bool (eqv t' u')) ∧ Box2 w t (.slice (some ⟨b, off, none⟩) l2.length c) u (.slice (some ⟨b2, off2, none⟩) l2.length c2) w') := Lib.hid fun W hW =>
                    (ih t' u' C' D' W (by omega) (by omega) (by omega) (hkl.keep hW.b (Nat.le_refl _)) (hkl2.keep hW.b (Nat.le_refl _))).mono fun e w' ⟨he, hb⟩ => ⟨he, hW.on hb⟩
                  have HQ := Lib.hid (eqv_iff t' u')
                  obtain ⟨Q, hQ⟩ : ∃ Q, eqv t' u' = Q := ⟨_, rfl⟩
                  rw [hQ] at HI HQ
                  have HT1 := Lib.hid ht1
                  have HT2 := Lib.hid ht2
                  unfold vv at HI
                  clear hr hr2 hkl hkl2 hrow hrow2 hkid hkid2 ht' hC' hu' hD' hcn hcn2 ht1 ht2 ih hQ
                  cases Q with
                  | false =>
                    have HN : Hid (E = false) := Lib.hid (by
                      cases E with
                      | false => rfl
                      | true =>
                        have hll := HT.out.1 rfl
                        have h1 := HT1.out
                        rw [hll, HT2.out] at h1
                        have h2 : [u'] = [t'] := List.append_cancel_left h1
                        injection h2 with h3 _
                        exact absurd (HQ.out.2 h3.symm) (by decide))
                    have hk0 := hk.out.drew
                    have hx0 := HX.out _ hk0
                    go_wp2_with fail
                    go_region_held3 (fun W => W.cell? ⟨w.heap.size, 4, none⟩ = some (.slice (some ⟨b, off, none⟩) l2.length c) ∧ W.cell? ⟨w.heap.size + 1, 4, none⟩ = some (.slice (some ⟨b2, off2, none⟩) l2.length c2) ∧
                        W.cell? ⟨b, off + i * 5, none⟩ = some (.int .i64 t'.k) ∧ W.cell? ⟨b, off + i * 5 + 1, none⟩ = some (.bool t'.g) ∧ W.cell? ⟨b, off + i * 5 + 2, none⟩ = some (.int .u64 (t'.n : Int)) ∧ W.cell? ⟨b, off + i * 5 + 3, none⟩ = some (.string t'.s) ∧ W.cell? ⟨b, off + i * 5 + 4, none⟩ = some C' ∧
                        W.cell? ⟨b2, off2 + i * 5, none⟩ = some (.int .i64 u'.k) ∧ W.cell? ⟨b2, off2 + i * 5 + 1, none⟩ = some (.bool u'.g) ∧ W.cell? ⟨b2, off2 + i * 5 + 2, none⟩ = some (.int .u64 (u'.n : Int)) ∧ W.cell? ⟨b2, off2 + i * 5 + 3, none⟩ = some (.string u'.s) ∧ W.cell? ⟨b2, off2 + i * 5 + 4, none⟩ = some D' ∧ Box2 w t (.slice (some ⟨b, off, none⟩) l2.length c) u (.slice (some ⟨b2, off2, none⟩) l2.length c2) W) (first | exact HX.out _ ‹_› | exact HX.out _ (And.right ‹_›))
                      (first | (go_at_call 23; refine (HI.out _ ?_).mono ?_; (first | assumption | exact And.right ‹_›); rintro e w' ⟨rfl, hk5⟩))
                    clear h4 h4' hx0
                    go_wp2_with fail
                    go_ret
                    exact ⟨by rw [HN.out]; rfl, hk5.b⟩
                  | true =>
                    have hm2 : Hid (l.take (i + 1) = l2.take (i + 1)) := Lib.hid (by rw [HT1.out, HT2.out, hm.out, HQ.out.1 rfl])
                    have hk0 := hk.out.drew
                    have hx0 := HX.out _ hk0
                    go_wp2_with fail
                    go_region_held3 (fun W => W.cell? ⟨w.heap.size, 4, none⟩ = some (.slice (some ⟨b, off, none⟩) l2.length c) ∧ W.cell? ⟨w.heap.size + 1, 4, none⟩ = some (.slice (some ⟨b2, off2, none⟩) l2.length c2) ∧
                        W.cell? ⟨b, off + i * 5, none⟩ = some (.int .i64 t'.k) ∧ W.cell? ⟨b, off + i * 5 + 1, none⟩ = some (.bool t'.g) ∧ W.cell? ⟨b, off + i * 5 + 2, none⟩ = some (.int .u64 (t'.n : Int)) ∧ W.cell? ⟨b, off + i * 5 + 3, none⟩ = some (.string t'.s) ∧ W.cell? ⟨b, off + i * 5 + 4, none⟩ = some C' ∧
                        W.cell? ⟨b2, off2 + i * 5, none⟩ = some (.int .i64 u'.k) ∧ W.cell? ⟨b2, off2 + i * 5 + 1, none⟩ = some (.bool u'.g) ∧ W.cell? ⟨b2, off2 + i * 5 + 2, none⟩ = some (.int .u64 (u'.n : Int)) ∧ W.cell? ⟨b2, off2 + i * 5 + 3, none⟩ = some (.string u'.s) ∧ W.cell? ⟨b2, off2 + i * 5 + 4, none⟩ = some D' ∧ Box2 w t (.slice (some ⟨b, off, none⟩) l2.length c) u (.slice (some ⟨b2, off2, none⟩) l2.length c2) W) (first | exact HX.out _ ‹_› | exact HX.out _ (And.right ‹_›))
                      (first | (go_at_call 23; refine (HI.out _ ?_).mono ?_; (first | assumption | exact And.right ‹_›); rintro e w' ⟨rfl, hk5⟩))
                    clear h4 h4' hx0
                    go_wp2_with fail
                    go_roundw
                    case rel => exact ⟨i + 1, hlt, by go_num, hm2, Lib.hid hk5⟩
                    case measure => simp [intOf]; omega
                · obtain rfl : i = l2.length := by omega
                  have HN : Hid (E = true) := Lib.hid (HT.out.2 (by have := hm.out; rwa [List.take_length, ← H5.out, List.take_length] at this))
                  go_wp2_with fail
                  go_ret
                  exact ⟨by rw [HN.out]; rfl, hk.out.b⟩
            · have HN : Hid (E = false) := Lib.hid (HF.out (.inr (.inr (.inr (.inr fun h => h5 (by rw [h]))))))
              have q5 : ((l.length : Int) != (l2.length : Int)) = true := by simp; omega
              clear h5
              go_enter Try.func23, Try.ntmps23
              go_wp2_with fail
              go_ret
              exact ⟨by rw [HN.out]; rfl, HB0.out.b⟩
          · have HN : Hid (E = false) := Lib.hid (HF.out (.inr (.inr (.inr (.inl h4)))))
            have q4 : ¬ s.toList = s2.toList := fun h => h4 (toList_inj h)
            have q4' : (s.toList == s2.toList) = false := by simpa using q4
            have q4'' : (s.toList != s2.toList) = true := by simpa using q4
            clear h4
            go_enter Try.func23, Try.ntmps23
            go_wp2_with fail
            go_ret
            exact ⟨by rw [HN.out]; rfl, HB0.out.b⟩
        · have HN : Hid (E = false) := Lib.hid (HF.out (.inr (.inr (.inl h3))))
          have q3 : ((n : Int) != (n2 : Int)) = true := by simp; omega
          clear h3
          go_enter Try.func23, Try.ntmps23
          go_wp2_with fail
          go_ret
          exact ⟨by rw [HN.out]; rfl, HB0.out.b⟩
      · have HN : Hid (E = false) := Lib.hid (HF.out (.inr (.inl h2)))
        have hgg : (g = true ∧ g2 = false) ∨ (g = false ∧ g2 = true) := by cases g <;> cases g2 <;> simp_all
        clear h2 HE HF
        rcases hgg with ⟨rfl, rfl⟩ | ⟨rfl, rfl⟩
        all_goals
          go_enter Try.func23, Try.ntmps23
          go_wp2_with fail
          go_ret
          exact ⟨by rw [HN.out]; rfl, HB0.out.b⟩
    · have HN : Hid (E = false) := Lib.hid (HF.out (.inl h1))
      have q1 : (k != k2) = true := by simp [h1]
      clear h1
      go_enter Try.func23, Try.ntmps23
      go_wp2_with fail
      go_ret
      exact ⟨by rw [HN.out]; rfl, HB0.out.b⟩
end Go.Proofs.Ythpaipjfkhjblaa.nn
