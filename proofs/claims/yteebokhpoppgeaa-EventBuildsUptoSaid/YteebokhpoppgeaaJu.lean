/- Joined texts, what is wanted of them: RbVal, RbTree, Same9. -/
import Derived.Lib.Hide
import Derived.Deep.QuietTactic
import Derived.BigQuiet
import Derived.IntWalk
import Derived.Deep.RegionHeld3
import Derived.StillTailTactics
import Derived.Test.YteebokhpoppgeaaProg
import Derived.WalkKit
import Derived.Test.YteebokhpoppgeaaJh
import Derived.Test.YteebokhpoppgeaaJk
import Derived.Test.YteebokhpoppgeaaJb
import Derived.Test.YteebokhpoppgeaaJq
import Derived.Test.YteebokhpoppgeaaJo
import Derived.Test.YteebokhpoppgeaaJa
import Derived.Test.YteebokhpoppgeaaJg
import Derived.Test.YteebokhpoppgeaaJp
import Derived.Test.YteebokhpoppgeaaJe
import Derived.Test.YteebokhpoppgeaaJc
import Derived.Test.YteebokhpoppgeaaJn
import Derived.Test.YteebokhpoppgeaaJr
import Derived.Test.YteebokhpoppgeaaJd
namespace Go.Proofs.Yteebokhpoppgeaa.nn
open Go.RowKit

/-- what lies at the bottom of a build -/
structure Bo (w : World) (g gs m c qb : Nat) (Ab : Option Addr) (cb : Nat) (S : Bst) : Prop where
  lg : g < w.heap.size
  lgs : gs < w.heap.size
  lq : qb < w.heap.size
  c2 : w.cell? ⟨g, 2, none⟩ = some (.slice (some ⟨gs, 0, none⟩) (m + 1) c)
  c1 : w.cell? ⟨g, 1, none⟩ = some (.int .i64 (S.n : Int))
  s0 : w.cell? ⟨gs, 0, none⟩ = some (.pointer (some ⟨qb, 0, none⟩))
  l : w.cell? ⟨qb, 4, none⟩ = some (.slice Ab S.v.toList.length cb)
  v : Lst w (.slice Ab S.v.toList.length cb) S.v.toList
theorem Bo.on {w w' : World} {g gs m c qb : Nat} {Ab : Option Addr} {cb : Nat} {S : Bst} (h : Bo w g gs m c qb Ab cb S) (hB : Below w.heap.size w w') : Bo w' g gs m c qb Ab cb S :=
  ⟨Nat.lt_of_lt_of_le h.lg hB.size, Nat.lt_of_lt_of_le h.lgs hB.size, Nat.lt_of_lt_of_le h.lq hB.size, (hB.cell (p := ⟨g, 2, none⟩) h.lg).trans h.c2, (hB.cell (p := ⟨g, 1, none⟩) h.lg).trans h.c1, (hB.cell (p := ⟨gs, 0, none⟩) h.lgs).trans h.s0, (hB.cell (p := ⟨qb, 4, none⟩) h.lq).trans h.l, h.v.keep hB (Nat.le_refl _)⟩
theorem Rb.bo {w : World} {g : Nat} {O : Nat → Prop} {S : Bst} (h : Rb w g O S) : ∃ gs m c qb Ab cb, Bo w g gs m c qb Ab cb S := by
  obtain ⟨K, sv, r, D, h1, h2, hDl⟩ := h.tops
  obtain ⟨gs, c, rfl, hgs, _, _⟩ := h1.top
  obtain ⟨D', rb, hD⟩ : ∃ D' rb, r :: D = D' ++ [rb] := ⟨(r :: D).dropLast, (r :: D).getLast (by simp), (List.dropLast_concat_getLast (by simp)).symm⟩
  have hr := h1.r
  rw [hD] at hr h2
  have hb := hr.last
  have hp : rb.p = bot S.v := by
    rw [List.map_append] at h2
    have := (List.append_inj' h2 rfl).2
    simpa using this
  obtain ⟨A, cb, hv⟩ := vo_form hb.v
  have hl : rb.p.l = S.v.toList := by rw [hp]; rfl
  have hvo := hb.v
  have hbb := hb.b
  rw [hv, hl] at hvo hbb
  have hs0 : w.cell? ⟨gs, 0, none⟩ = some (.pointer (some ⟨rb.q, 0, none⟩)) := by
    have := h1.s.cellAt 0 (by omega)
    rw [this, hD]
    exact stC_first D' rb
  exact ⟨gs, D.length, c, rb.q, A, cb, h1.lo _ h1.o.1, hgs, h1.lo _ hb.o.1, h1.b.cell 2, h1.b.cell 1, hs0, hbb.cell 4, hvo.lsf.lst⟩
set_option maxRecDepth 100000 in
set_option maxHeartbeats 1000000 in
theorem done_any {w : World} {g gs m c qb : Nat} {Ab : Option Addr} {cb : Nat} {S : Bst} (h : Bo w g gs m c qb Ab cb S) : Calls Try.prog 8 #[.pointer (some ⟨g, 0, none⟩)] w fun e w' => e = .returned (.bool S.v.isSome) ∧ Below w.heap.size w w' := by
  have HM : Hid (∀ W, Bo W g gs m c qb Ab cb S → Calls Try.prog 15 #[.pointer (some ⟨g, 0, none⟩)] W fun e w' => e = .returned (.bool true) ∧ Below W.heap.size W w' ∧ Bo w' g gs m c qb Ab cb S) := Lib.hid fun W hW => (made_yes g m c (some ⟨gs, 0, none⟩) W hW.c2).mono fun e w' ⟨he, hb⟩ => ⟨he, hb, hW.on hb⟩
  have HB := Lib.hid h
  clear h
  obtain ⟨v, hv⟩ : ∃ v, S.v = v := ⟨_, rfl⟩
  have HV := Lib.hid hv
  rw [hv]
  clear hv
  cases v with
  | none =>
    go_enter Try.func8, Try.ntmps8
    go_wp2_with fail
    refine (HM.out _ HB.out).mono ?_
    rintro e w1 ⟨rfl, hb, h1⟩
    have HB1 := Lib.hid hb
    have c2 := h1.c2
    have s0 := h1.s0
    have l := h1.l
    rw [HV.out] at l
    have hl0 : (none : Option VT).toList.length = 0 := rfl
    rw [hl0] at l
    clear hb h1
    go_wp2_with fail
    go_ret
    exact ⟨rfl, HB1.out⟩
  | some t =>
    go_enter Try.func8, Try.ntmps8
    go_wp2_with fail
    refine (HM.out _ HB.out).mono ?_
    rintro e w1 ⟨rfl, hb, h1⟩
    have HB1 := Lib.hid hb
    have c2 := h1.c2
    have s0 := h1.s0
    have l := h1.l
    rw [HV.out] at l
    have hl0 : (some t : Option VT).toList.length = 1 := rfl
    rw [hl0] at l
    clear hb h1
    go_wp2_with fail
    go_ret
    exact ⟨rfl, HB1.out⟩
set_option maxRecDepth 100000 in
theorem count_any {w : World} {g gs m c qb : Nat} {Ab : Option Addr} {cb : Nat} {S : Bst} (h : Bo w g gs m c qb Ab cb S) : Calls Try.prog 10 #[.pointer (some ⟨g, 0, none⟩)] w fun e w' => e = .returned (.int .i64 (S.n : Int)) ∧ Below w.heap.size w w' := by
  have HM : Hid (∀ W, Bo W g gs m c qb Ab cb S → Calls Try.prog 15 #[.pointer (some ⟨g, 0, none⟩)] W fun e w' => e = .returned (.bool true) ∧ Below W.heap.size W w' ∧ Bo w' g gs m c qb Ab cb S) := Lib.hid fun W hW => (made_yes g m c (some ⟨gs, 0, none⟩) W hW.c2).mono fun e w' ⟨he, hb⟩ => ⟨he, hb, hW.on hb⟩
  have HB := Lib.hid h
  clear h
  go_enter Try.func10, Try.ntmps10
  go_wp2_with fail
  refine (HM.out _ HB.out).mono ?_
  rintro e w1 ⟨rfl, hb, h1⟩
  have HB1 := Lib.hid hb
  have c1 := h1.c1
  clear hb h1
  go_wp2_with fail
  go_ret
  exact ⟨rfl, HB1.out⟩
/-- what Value answers -/
def ValAns (S : Bst) (w : World) (x : Ending) (w' : World) : Prop := ∃ C, x = .returned (.tuple #[vv (S.v.getD emp) C, .int .i64 (if S.v.isSome then 0 else 3)]) ∧ Lsb w.heap.size w' C (S.v.getD emp).l ∧ Below w.heap.size w w'
set_option maxRecDepth 100000 in
set_option maxHeartbeats 2000000 in
theorem value_any {w : World} {g gs m c qb : Nat} {Ab : Option Addr} {cb : Nat} {S : Bst} (h : Bo w g gs m c qb Ab cb S) (hn : ∀ t, S.v = some t → cnt t ≤ 1099511627776) : Calls Try.prog 11 #[.pointer (some ⟨g, 0, none⟩)] w (ValAns S w) := by
  have HM : Hid (∀ W, Bo W g gs m c qb Ab cb S → Calls Try.prog 15 #[.pointer (some ⟨g, 0, none⟩)] W fun e w' => e = .returned (.bool true) ∧ Below W.heap.size W w' ∧ Bo w' g gs m c qb Ab cb S) := Lib.hid fun W hW => (made_yes g m c (some ⟨gs, 0, none⟩) W hW.c2).mono fun e w' ⟨he, hb⟩ => ⟨he, hb, hW.on hb⟩
  have HD : Hid (∀ W, Bo W g gs m c qb Ab cb S → Calls Try.prog 8 #[.pointer (some ⟨g, 0, none⟩)] W fun e w' => e = .returned (.bool S.v.isSome) ∧ Below W.heap.size W w' ∧ Bo w' g gs m c qb Ab cb S) := Lib.hid fun W hW => (done_any hW).mono fun e w' ⟨he, hb⟩ => ⟨he, hb, hW.on hb⟩
  obtain ⟨W1, hW1⟩ : ∃ W1, w.alloc (.cells #[.int .i64 0, .bool false, .int .u64 0, .string ⟨#[]⟩, .slice none 0 0] 36) = W1 := ⟨_, rfl⟩
  have HB : Hid (Below w.heap.size w W1) := Lib.hid (by rw [← hW1]; exact (Below.refl _ _).alloc (Nat.le_refl _) _)
  have HK : Hid (Bk W1 w.heap.size 36 #[.int .i64 0, .bool false, .int .u64 0, .string ⟨#[]⟩, .slice none 0 0]) := Lib.hid (by rw [← hW1]; exact heap_alloc_last _ _)
  have HB0 : Hid (Bo W1 g gs m c qb Ab cb S) := Lib.hid (h.on HB.out)
  unfold ValAns
  cases hv : S.v with
  | none =>
    rw [hv] at HD
    have e0 : (none : Option VT).isSome = false := rfl
    rw [e0] at HD
    clear hn h
    go_enter Try.func11, Try.ntmps11
    go_wp2_with fail
    refine (HM.out _ HB0.out).mono ?_
    rintro e w1 ⟨rfl, hb1, h1⟩
    have H1 := Lib.hid (And.intro hb1 h1)
    clear hb1 h1
    go_wp2_with fail
    refine (HD.out _ H1.out.2).mono ?_
    rintro e w2 ⟨rfl, hb2, h2⟩
    have hk := (HK.out.below H1.out.1 HK.out.lt).below hb2 (Nat.lt_of_lt_of_le HK.out.lt H1.out.1.size)
    obtain ⟨f0, f1, f2, f3, f4⟩ := hk.c5
    obtain ⟨ff0, ff1, ff2, ff3, ff4⟩ := hk.f5
    have HB2 : Hid (Below w.heap.size w w2) := Lib.hid ((HB.out.trans (H1.out.1.mono HB.out.size)).trans (hb2.mono (Nat.le_trans HB.out.size H1.out.1.size)))
    clear hb2 h2 hk HK hW1
    go_wp2_with fail
    exact bodyPost_ret (v := .tuple #[.agg #[.int .i64 0, .bool false, .int .u64 0, .string ⟨#[]⟩, .slice none 0 0], .int .i64 3]) (by simp [results, Try.results11, go_sem, f0, f1, f2, f3, f4]) rfl ⟨.slice none 0 0, rfl, .nil_, below_set5 HB2.out (Nat.le_refl _) _ _ _ _ _⟩
  | some t =>
    rw [hv] at HD
    have e0 : (some t : Option VT).isSome = true := rfl
    rw [e0] at HD
    have hct := hn t hv
    have HA : Hid (∀ W C, Lst W C t.l → Calls Try.prog 25 #[vv t C, .slice none 0 0] W fun x w' => ∃ A' c', x = .returned (.tuple #[vv t (.slice A' t.l.length c'), .int .i64 0]) ∧ Lsb W.heap.size w' (.slice A' t.l.length c') t.l ∧ Below W.heap.size W w') := Lib.hid fun W C hC => (vat0_any W t C none [] 0 W (Below.refl _ _) hC (.inl rfl) (by simp) (Nat.le_refl _) hct).mono fun x w' ⟨C', h1, h2, h3⟩ => by
      have h2' : Lsb W.heap.size w' C' t.l := h2
      obtain ⟨A', c', rfl, _⟩ := h2'.lst.out
      exact ⟨A', c', h1, h2', h3⟩
    have HL : Hid (∀ W, Bo W g gs m c qb Ab cb S → ∃ b off AC cC, Ab = some ⟨b, off, none⟩ ∧ Row W b off t (.slice AC t.l.length cC) ∧ Lst W (.slice AC t.l.length cC) t.l ∧ W.cell? ⟨qb, 4, none⟩ = some (.slice Ab 1 cb)) := Lib.hid fun W hW => by
      have h5 := hW.v
      have h6 := hW.l
      rw [hv] at h5 h6
      have e1 : (some t : Option VT).toList = [t] := rfl
      rw [e1] at h5 h6
      obtain ⟨A2, c2, e2, _, h7⟩ := h5.out
      injection e2 with e2 e3 e4
      subst e2
      rcases h7 with ⟨_, h8, _⟩ | ⟨b, off, C, h8, _, hr, hk⟩
      · cases h8
      · have hr0 := hr 0 (by simp)
        have hk0 := hk 0 (by simp)
        simp only [List.getElem_cons_zero, Nat.zero_mul, Nat.add_zero] at hr0 hk0
        obtain ⟨AC, cC, hc, _⟩ := hk0.out
        rw [hc] at hr0 hk0
        exact ⟨b, off, AC, cC, h8, hr0, hk0, h6⟩
    clear hn h hct
    unfold vv at HA
    go_enter Try.func11, Try.ntmps11
    go_wp2_with fail
    refine (HM.out _ HB0.out).mono ?_
    rintro e w1 ⟨rfl, hb1, h1⟩
    have H1 := Lib.hid (And.intro hb1 h1)
    clear hb1 h1
    go_wp2_with fail
    refine (HD.out _ H1.out.2).mono ?_
    rintro e w2 ⟨rfl, hb2, h2⟩
    have HK2 : Hid (Bk w2 w.heap.size 36 #[.int .i64 0, .bool false, .int .u64 0, .string ⟨#[]⟩, .slice none 0 0]) := Lib.hid ((HK.out.below H1.out.1 HK.out.lt).below hb2 (Nat.lt_of_lt_of_le HK.out.lt H1.out.1.size))
    have HB2 : Hid (Below w.heap.size w w2) := Lib.hid ((HB.out.trans (H1.out.1.mono HB.out.size)).trans (hb2.mono (Nat.le_trans HB.out.size H1.out.1.size)))
    obtain ⟨b, off, AC, cC, rfl, hr, hl, hq⟩ := HL.out _ h2
    have c2 := h2.c2
    have s0 := h2.s0
    have r0 := hr.k
    have r1 := hr.g
    have r2 := hr.n
    have r3 := hr.s
    have r4 := hr.l
    have HL2 := Lib.hid hl
    clear hb2 h2 HK hW1 hr hl HL HD HM
    go_wp2_with fail
    refine (HA.out _ _ HL2.out).mono ?_
    rintro e w3 ⟨A3, c3, rfl, hl3, hb3⟩
    have hk := HK2.out.below hb3 HK2.out.lt
    obtain ⟨f0, f1, f2, f3, f4⟩ := hk.c5
    obtain ⟨ff0, ff1, ff2, ff3, ff4⟩ := hk.f5
    have HB3 : Hid (Below w.heap.size w w3) := Lib.hid (HB2.out.trans (hb3.mono HB2.out.size))
    have HL3 := Lib.hid hl3
    clear hb3 hk hl3 r0 r1 r2 r3 r4 c2 s0 hq
    go_wp2_with fail
    refine bodyPost_ret (v := .tuple #[.agg #[.int .i64 t.k, .bool t.g, .int .u64 (t.n : Int), .string t.s, .slice A3 t.l.length c3], .int .i64 0]) (by simp [results, Try.results11, go_sem, f0, f1, f2, f3, f4]) rfl ⟨.slice A3 t.l.length c3, rfl, ?_, below_set5 HB3.out (Nat.le_refl _) _ _ _ _ _⟩
    have hlt : w.heap.size < w2.heap.size := HK2.out.lt
    exact (HL3.out.keep (by simp only [setCell_sz]; exact Nat.le_refl _) fun b hb _ => by rw [off_g (by omega), off_g (by omega), off_g (by omega), off_g (by omega), off_g (by omega)]).low (Nat.le_of_lt hlt)
end Go.Proofs.Yteebokhpoppgeaa.nn
namespace Go.Proofs.Yteebokhpoppgeaa.nn
open Go.RowKit

theorem good_new (d : Int) : GoodW (newB d) := ⟨⟨[], ⟨⟨rfl, fun t ht => (by cases ht), fun _ => ⟨trivial, rfl⟩⟩, Nat.zero_le _⟩⟩, fun p hp => (by cases hp), by show (min (max d 0) 64).toNat ≤ 64; omega⟩
theorem good_cnt {S : Bst} (h : GoodW S) : ∀ t, S.v = some t → cnt t ≤ 65536 := by
  intro t ht
  obtain ⟨L, ⟨_, h2, _⟩, h4⟩ := h.g
  have := (h2 t ht).2.2.2
  have h5 : cnt t = S.n := this
  omega
/-- the state behind the first i events -/
def stB (L : List Ev) (i : Nat) : Bst := (runB (newB 64) (L.take i)).1
structure Ts (w : World) (g : Nat) (L : List Ev) (i : Nat) (W : World) : Prop where
  r : ∃ O, Rb W g O (stB L i) ∧ ∀ b, O b → w.heap.size < b
  e : (runB (newB 64) (L.take i)).2.2 = 0
  b : Below w.heap.size w W
  k : Bk W w.heap.size 36 #[.int .i64 0, .bool false, .int .u64 0, .string ⟨#[]⟩, .slice none 0 0]
end Go.Proofs.Yteebokhpoppgeaa.nn
namespace Go.Proofs.Yteebokhpoppgeaa.nn
open Go.RowKit

set_option maxRecDepth 100000 in
set_option maxHeartbeats 2000000 in
theorem same9_any (N : Nat) : ∀ (t u : VT) (C D : Value) (w : World), cnt t ≤ N → N ≤ 4611686018427387904 → cnt u ≤ 4611686018427387904 → Lst w C t.l → Lst w D u.l →
    Calls Try.prog 12 #[vv t C, vv u D] w fun e w' => e = .returned (.bool (eqv t u)) ∧ Below w.heap.size w w' := by
  induction N with
  | zero => intro t u C D w h _ _ _ _; have := cnt_mk t; omega
  | succ N ih =>
    intro t u C D w hN hM hM2 hC hD
    have hcm := cnt_mk t
    have hll := len_cntL t.l
    have hcm2 := cnt_mk u
    have hll2 := len_cntL u.l
    have HB0 := Lib.hid (Box2.new w t C u D 36)
    have HE := Lib.hid (eqv_parts t u)
    obtain ⟨E, hE⟩ : ∃ E, eqv t u = E := ⟨_, rfl⟩
    rw [hE] at HE ⊢
    obtain ⟨A, c, rfl, hlc, hA⟩ := hC.out
    obtain ⟨A2, c2, rfl, hlc2, hA2⟩ := hD.out
    obtain ⟨l, hl⟩ : ∃ l, t.l = l := ⟨_, rfl⟩
    obtain ⟨l2, hl2⟩ : ∃ l, u.l = l := ⟨_, rfl⟩
    rw [hl] at hlc hA hcm hll HE HB0 ⊢
    rw [hl2] at hlc2 hA2 hcm2 hll2 HE HB0 ⊢
    obtain ⟨k, hk⟩ : ∃ k, t.k = k := ⟨_, rfl⟩
    obtain ⟨g, hg⟩ : ∃ k, t.g = k := ⟨_, rfl⟩
    obtain ⟨n, hn⟩ : ∃ k, t.n = k := ⟨_, rfl⟩
    obtain ⟨s, hs⟩ : ∃ k, t.s = k := ⟨_, rfl⟩
    obtain ⟨k2, hk2⟩ : ∃ k, u.k = k := ⟨_, rfl⟩
    obtain ⟨g2, hg2⟩ : ∃ k, u.g = k := ⟨_, rfl⟩
    obtain ⟨n2, hn2⟩ : ∃ k, u.n = k := ⟨_, rfl⟩
    obtain ⟨s2, hs2⟩ : ∃ k, u.s = k := ⟨_, rfl⟩
    unfold vv
    rw [hk, hg, hn, hs, hk2, hg2, hn2, hs2] at HE HB0 ⊢
    clear hE hC hD hl hl2 hk hg hn hs hk2 hg2 hn2 hs2
    have HF : Hid (k ≠ k2 ∨ g ≠ g2 ∨ n ≠ n2 ∨ s ≠ s2 ∨ l ≠ l2 → E = false) := Lib.hid fun h => by
      cases E with
      | false => rfl
      | true =>
        obtain ⟨e1, e2, e3, e4, e5⟩ := HE.out.1 rfl
        rcases h with h | h | h | h | h
        · exact absurd e1 h
        · exact absurd e2 h
        · exact absurd e3 h
        · exact absurd e4 h
        · exact absurd e5 h
    by_cases h1 : k = k2
    · subst h1
      by_cases h2 : g = g2
      · subst h2
        by_cases h3 : n = n2
        · subst h3
          by_cases h4 : s = s2
          · subst h4
            by_cases h5 : l.length = l2.length
            · have HT : Hid (E = true ↔ l = l2) := Lib.hid ⟨fun h => (HE.out.1 h).2.2.2.2, fun h => HE.out.2 ⟨rfl, rfl, rfl, rfl, h⟩⟩
              have H5 := Lib.hid h5
              rw [h5] at hlc hll HB0 ⊢
              clear h5 HE HF
              go_enter Try.func12, Try.ntmps12
              go_wp2_with fail
              go_loopw [5] (fun s5 wr => ∃ i : Nat, i ≤ l2.length ∧ s5 = .int .i64 (i : Int) ∧ Hid (l.take i = l2.take i) ∧ Hid (Box2 w t (.slice A l2.length c) u (.slice A2 l2.length c2) wr)) (fun s5 _ => l2.length - (intOf s5).toNat)
              case atStart => exact ⟨0, Nat.zero_le _, rfl, Lib.hid rfl, HB0⟩
              case round =>
                obtain ⟨i, hi, rfl, hm, hk⟩ := hrel
                have h4 : wr.cell? ⟨w.heap.size, 4, none⟩ = some (.slice A l2.length c) := hk.out.r.l
                have h4' : wr.cell? ⟨w.heap.size + 1, 4, none⟩ = some (.slice A2 l2.length c2) := hk.out.r2.l
                by_cases hlt : i < l2.length
                · have hlt1 : i < l.length := by rw [H5.out]; exact hlt
                  rcases hA with ⟨_, h0, _⟩ | ⟨b, off, DD, rfl, hb, hrow, hkid⟩
                  · rw [h0] at hlt1; exact absurd hlt1 (by simp)
                  rcases hA2 with ⟨_, h0, _⟩ | ⟨b2, off2, DD2, rfl, hb2, hrow2, hkid2⟩
                  · rw [h0] at hlt; exact absurd hlt (by simp)
                  obtain ⟨t', ht'⟩ : ∃ t', l[i] = t' := ⟨_, rfl⟩
                  obtain ⟨C', hC'⟩ : ∃ C', DD i = C' := ⟨_, rfl⟩
                  obtain ⟨u', hu'⟩ : ∃ t', l2[i] = t' := ⟨_, rfl⟩
                  obtain ⟨D', hD'⟩ : ∃ C', DD2 i = C' := ⟨_, rfl⟩
                  have hr := hrow i hlt1
                  have hkl := hkid i hlt1
                  have hr2 := hrow2 i hlt
                  have hkl2 := hkid2 i hlt
                  rw [ht', hC'] at hr hkl
                  rw [hu', hD'] at hr2 hkl2
                  have hcn := cnt_at hlt1
                  have hcn2 := cnt_at hlt
                  have ht1 := List.take_succ_eq_append_getElem hlt1
                  have ht2 := List.take_succ_eq_append_getElem hlt
                  rw [ht'] at hcn ht1
                  rw [hu'] at hcn2 ht2
                  have HX : Hid (∀ W, Box2 w t (.slice (some ⟨b, off, none⟩) l2.length c) u (.slice (some ⟨b2, off2, none⟩) l2.length c2) W → W.cell? ⟨w.heap.size, 4, none⟩ = some (.slice (some ⟨b, off, none⟩) l2.length c) ∧ W.cell? ⟨w.heap.size + 1, 4, none⟩ = some (.slice (some ⟨b2, off2, none⟩) l2.length c2) ∧
                      W.cell? ⟨b, off + i * 5, none⟩ = some (.int .i64 t'.k) ∧ W.cell? ⟨b, off + i * 5 + 1, none⟩ = some (.bool t'.g) ∧ W.cell? ⟨b, off + i * 5 + 2, none⟩ = some (.int .u64 (t'.n : Int)) ∧ W.cell? ⟨b, off + i * 5 + 3, none⟩ = some (.string t'.s) ∧ W.cell? ⟨b, off + i * 5 + 4, none⟩ = some C' ∧
                      W.cell? ⟨b2, off2 + i * 5, none⟩ = some (.int .i64 u'.k) ∧ W.cell? ⟨b2, off2 + i * 5 + 1, none⟩ = some (.bool u'.g) ∧ W.cell? ⟨b2, off2 + i * 5 + 2, none⟩ = some (.int .u64 (u'.n : Int)) ∧ W.cell? ⟨b2, off2 + i * 5 + 3, none⟩ = some (.string u'.s) ∧ W.cell? ⟨b2, off2 + i * 5 + 4, none⟩ = some D' ∧ Box2 w t (.slice (some ⟨b, off, none⟩) l2.length c) u (.slice (some ⟨b2, off2, none⟩) l2.length c2) W) := Lib.hid fun W hW =>
                    have r1 := hr.below hW.b hb
                    have r2 := hr2.below hW.b hb2
                    ⟨hW.r.l, hW.r2.l, r1.k, r1.g, r1.n, r1.s, r1.l, r2.k, r2.g, r2.n, r2.s, r2.l, hW⟩
                  have HI : Hid (∀ W, Box2 w t (.slice (some ⟨b, off, none⟩) l2.length c) u (.slice (some ⟨b2, off2, none⟩) l2.length c2) W → Calls Try.prog 12 #[vv t' C', vv u' D'] W fun e w' => e = .returned (.bool (eqv t' u')) ∧ Box2 w t (.slice (some ⟨b, off, none⟩) l2.length c) u (.slice (some ⟨b2, off2, none⟩) l2.length c2) w') := Lib.hid fun W hW =>
                    (ih t' u' C' D' W (by omega) (by omega) (by omega) (hkl.keep hW.b (Nat.le_refl _)) (hkl2.keep hW.b (Nat.le_refl _))).mono fun e w' ⟨he, hb⟩ => ⟨he, hW.on hb⟩
                  have HQ := Lib.hid (eqv_iff t' u')
                  obtain ⟨Q, hQ⟩ : ∃ Q, eqv t' u' = Q := ⟨_, rfl⟩
                  rw [hQ] at HI HQ
                  have HT1 := Lib.hid ht1
                  have HT2 := Lib.hid ht2
                  unfold vv at HI
                  clear hr hr2 hkl hkl2 hrow hrow2 hkid hkid2 ht' hC' hu' hD' hcn hcn2 ht1 ht2 ih hQ
                  cases Q with
                  | false =>
                    have HN : Hid (E = false) := Lib.hid (by
                      cases E with
                      | false => rfl
                      | true =>
                        have hll := HT.out.1 rfl
                        have h1 := HT1.out
                        rw [hll, HT2.out] at h1
                        have h2 : [u'] = [t'] := List.append_cancel_left h1
                        injection h2 with h3 _
                        exact absurd (HQ.out.2 h3.symm) (by decide))
                    have hk0 := hk.out.drew
                    have hx0 := HX.out _ hk0
                    go_wp2_with fail
                    go_region_held3 (fun W => W.cell? ⟨w.heap.size, 4, none⟩ = some (.slice (some ⟨b, off, none⟩) l2.length c) ∧ W.cell? ⟨w.heap.size + 1, 4, none⟩ = some (.slice (some ⟨b2, off2, none⟩) l2.length c2) ∧
                        W.cell? ⟨b, off + i * 5, none⟩ = some (.int .i64 t'.k) ∧ W.cell? ⟨b, off + i * 5 + 1, none⟩ = some (.bool t'.g) ∧ W.cell? ⟨b, off + i * 5 + 2, none⟩ = some (.int .u64 (t'.n : Int)) ∧ W.cell? ⟨b, off + i * 5 + 3, none⟩ = some (.string t'.s) ∧ W.cell? ⟨b, off + i * 5 + 4, none⟩ = some C' ∧
                        W.cell? ⟨b2, off2 + i * 5, none⟩ = some (.int .i64 u'.k) ∧ W.cell? ⟨b2, off2 + i * 5 + 1, none⟩ = some (.bool u'.g) ∧ W.cell? ⟨b2, off2 + i * 5 + 2, none⟩ = some (.int .u64 (u'.n : Int)) ∧ W.cell? ⟨b2, off2 + i * 5 + 3, none⟩ = some (.string u'.s) ∧ W.cell? ⟨b2, off2 + i * 5 + 4, none⟩ = some D' ∧ Box2 w t (.slice (some ⟨b, off, none⟩) l2.length c) u (.slice (some ⟨b2, off2, none⟩) l2.length c2) W) (first | exact HX.out _ ‹_› | exact HX.out _ (And.right ‹_›))
                      (first | (go_at_call 12; refine (HI.out _ ?_).mono ?_; (first | assumption | exact And.right ‹_›); rintro e w' ⟨rfl, hk5⟩))
                    clear h4 h4' hx0
                    go_wp2_with fail
                    go_ret
                    exact ⟨by rw [HN.out]; rfl, hk5.b⟩
                  | true =>
                    have hm2 : Hid (l.take (i + 1) = l2.take (i + 1)) := Lib.hid (by rw [HT1.out, HT2.out, hm.out, HQ.out.1 rfl])
                    have hk0 := hk.out.drew
                    have hx0 := HX.out _ hk0
                    go_wp2_with fail
                    go_region_held3 (fun W => W.cell? ⟨w.heap.size, 4, none⟩ = some (.slice (some ⟨b, off, none⟩) l2.length c) ∧ W.cell? ⟨w.heap.size + 1, 4, none⟩ = some (.slice (some ⟨b2, off2, none⟩) l2.length c2) ∧
                        W.cell? ⟨b, off + i * 5, none⟩ = some (.int .i64 t'.k) ∧ W.cell? ⟨b, off + i * 5 + 1, none⟩ = some (.bool t'.g) ∧ W.cell? ⟨b, off + i * 5 + 2, none⟩ = some (.int .u64 (t'.n : Int)) ∧ W.cell? ⟨b, off + i * 5 + 3, none⟩ = some (.string t'.s) ∧ W.cell? ⟨b, off + i * 5 + 4, none⟩ = some C' ∧
                        W.cell? ⟨b2, off2 + i * 5, none⟩ = some (.int .i64 u'.k) ∧ W.cell? ⟨b2, off2 + i * 5 + 1, none⟩ = some (.bool u'.g) ∧ W.cell? ⟨b2, off2 + i * 5 + 2, none⟩ = some (.int .u64 (u'.n : Int)) ∧ W.cell? ⟨b2, off2 + i * 5 + 3, none⟩ = some (.string u'.s) ∧ W.cell? ⟨b2, off2 + i * 5 + 4, none⟩ = some D' ∧ Box2 w t (.slice (some ⟨b, off, none⟩) l2.length c) u (.slice (some ⟨b2, off2, none⟩) l2.length c2) W) (first | exact HX.out _ ‹_› | exact HX.out _ (And.right ‹_›))
                      (first | (go_at_call 12; refine (HI.out _ ?_).mono ?_; (first | assumption | exact And.right ‹_›); rintro e w' ⟨rfl, hk5⟩))
                    clear h4 h4' hx0
                    go_wp2_with fail
                    go_roundw
                    case rel => exact ⟨i + 1, hlt, by go_num, hm2, Lib.hid hk5⟩
                    case measure => simp [intOf]; omega
                · obtain rfl : i = l2.length := by omega
                  have HN : Hid (E = true) := Lib.hid (HT.out.2 (by have := hm.out; rwa [List.take_length, ← H5.out, List.take_length] at this))
                  go_wp2_with fail
                  go_ret
                  exact ⟨by rw [HN.out]; rfl, hk.out.b⟩
            · have HN : Hid (E = false) := Lib.hid (HF.out (.inr (.inr (.inr (.inr fun h => h5 (by rw [h]))))))
              have q5 : ((l.length : Int) != (l2.length : Int)) = true := by simp; omega
              clear h5
              go_enter Try.func12, Try.ntmps12
              go_wp2_with fail
              go_ret
              exact ⟨by rw [HN.out]; rfl, HB0.out.b⟩
          · have HN : Hid (E = false) := Lib.hid (HF.out (.inr (.inr (.inr (.inl h4)))))
            have q4 : ¬ s.toList = s2.toList := fun h => h4 (toList_inj h)
            have q4' : (s.toList == s2.toList) = false := by simpa using q4
            have q4'' : (s.toList != s2.toList) = true := by simpa using q4
            clear h4
            go_enter Try.func12, Try.ntmps12
            go_wp2_with fail
            go_ret
            exact ⟨by rw [HN.out]; rfl, HB0.out.b⟩
        · have HN : Hid (E = false) := Lib.hid (HF.out (.inr (.inr (.inl h3))))
          have q3 : ((n : Int) != (n2 : Int)) = true := by simp; omega
          clear h3
          go_enter Try.func12, Try.ntmps12
          go_wp2_with fail
          go_ret
          exact ⟨by rw [HN.out]; rfl, HB0.out.b⟩
      · have HN : Hid (E = false) := Lib.hid (HF.out (.inr (.inl h2)))
        have hgg : (g = true ∧ g2 = false) ∨ (g = false ∧ g2 = true) := by cases g <;> cases g2 <;> simp_all
        clear h2 HE HF
        rcases hgg with ⟨rfl, rfl⟩ | ⟨rfl, rfl⟩
        all_goals
          go_enter Try.func12, Try.ntmps12
          go_wp2_with fail
          go_ret
          exact ⟨by rw [HN.out]; rfl, HB0.out.b⟩
    · have HN : Hid (E = false) := Lib.hid (HF.out (.inl h1))
      have q1 : (k != k2) = true := by simp [h1]
      clear h1
      go_enter Try.func12, Try.ntmps12
      go_wp2_with fail
      go_ret
      exact ⟨by rw [HN.out]; rfl, HB0.out.b⟩
end Go.Proofs.Yteebokhpoppgeaa.nn
