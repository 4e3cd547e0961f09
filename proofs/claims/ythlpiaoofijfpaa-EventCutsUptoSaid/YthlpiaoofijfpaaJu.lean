/- Joined texts, what is wanted of them: RbVal, RbTree, EvWf. -/
import Derived.Test.YthlpiaoofijfpaaProg
import Derived.WalkKit
import Derived.Lib.Hide
import Derived.Deep.CutBlock
import Derived.Lib.MinMax
import Derived.IntWalk
import Derived.BigQuiet
import Derived.Deep.QuietTactic
import Derived.StillTailTactics
import Derived.Deep.RegionHeld3
import Derived.Test.YthlpiaoofijfpaaJb
import Derived.Test.YthlpiaoofijfpaaJe
import Derived.Test.YthlpiaoofijfpaaJq
import Derived.Test.YthlpiaoofijfpaaJa
import Derived.Test.YthlpiaoofijfpaaJo
import Derived.Test.YthlpiaoofijfpaaJg
import Derived.Test.YthlpiaoofijfpaaJk
import Derived.Test.YthlpiaoofijfpaaJc
import Derived.Test.YthlpiaoofijfpaaJn
import Derived.Test.YthlpiaoofijfpaaJh
import Derived.Test.YthlpiaoofijfpaaJr
import Derived.Test.YthlpiaoofijfpaaJp
namespace Go.Proofs.Ythlpiaoofijfpaa.nn
open Go.RowKit

/-- what lies at the bottom of a build -/
structure Bo (w : World) (g gs m c qb : Nat) (Ab : Option Addr) (cb : Nat) (S : Bst) : Prop where
  lg : g < w.heap.size
  lgs : gs < w.heap.size
  lq : qb < w.heap.size
  c2 : w.cell? ⟨g, 2, none⟩ = some (.slice (some ⟨gs, 0, none⟩) (m + 1) c)
  c1 : w.cell? ⟨g, 1, none⟩ = some (.int .i64 (S.n : Int))
  s0 : w.cell? ⟨gs, 0, none⟩ = some (.pointer (some ⟨qb, 0, none⟩))
  l : w.cell? ⟨qb, 4, none⟩ = some (.slice Ab S.v.toList.length cb)
  v : Lst w (.slice Ab S.v.toList.length cb) S.v.toList
theorem Bo.on {w w' : World} {g gs m c qb : Nat} {Ab : Option Addr} {cb : Nat} {S : Bst} (h : Bo w g gs m c qb Ab cb S) (hB : Below w.heap.size w w') : Bo w' g gs m c qb Ab cb S :=
  ⟨Nat.lt_of_lt_of_le h.lg hB.size, Nat.lt_of_lt_of_le h.lgs hB.size, Nat.lt_of_lt_of_le h.lq hB.size, (hB.cell (p := ⟨g, 2, none⟩) h.lg).trans h.c2, (hB.cell (p := ⟨g, 1, none⟩) h.lg).trans h.c1, (hB.cell (p := ⟨gs, 0, none⟩) h.lgs).trans h.s0, (hB.cell (p := ⟨qb, 4, none⟩) h.lq).trans h.l, h.v.keep hB (Nat.le_refl _)⟩
theorem Rb.bo {w : World} {g : Nat} {O : Nat → Prop} {S : Bst} (h : Rb w g O S) : ∃ gs m c qb Ab cb, Bo w g gs m c qb Ab cb S := by
  obtain ⟨K, sv, r, D, h1, h2, hDl⟩ := h.tops
  obtain ⟨gs, c, rfl, hgs, _, _⟩ := h1.top
  obtain ⟨D', rb, hD⟩ : ∃ D' rb, r :: D = D' ++ [rb] := ⟨(r :: D).dropLast, (r :: D).getLast (by simp), (List.dropLast_concat_getLast (by simp)).symm⟩
  have hr := h1.r
  rw [hD] at hr h2
  have hb := hr.last
  have hp : rb.p = bot S.v := by
    rw [List.map_append] at h2
    have := (List.append_inj' h2 rfl).2
    simpa using this
  obtain ⟨A, cb, hv⟩ := vo_form hb.v
  have hl : rb.p.l = S.v.toList := by rw [hp]; rfl
  have hvo := hb.v
  have hbb := hb.b
  rw [hv, hl] at hvo hbb
  have hs0 : w.cell? ⟨gs, 0, none⟩ = some (.pointer (some ⟨rb.q, 0, none⟩)) := by
    have := h1.s.cellAt 0 (by omega)
    rw [this, hD]
    exact stC_first D' rb
  exact ⟨gs, D.length, c, rb.q, A, cb, h1.lo _ h1.o.1, hgs, h1.lo _ hb.o.1, h1.b.cell 2, h1.b.cell 1, hs0, hbb.cell 4, hvo.lsf.lst⟩
set_option maxRecDepth 100000 in
set_option maxHeartbeats 1000000 in
theorem done_any {w : World} {g gs m c qb : Nat} {Ab : Option Addr} {cb : Nat} {S : Bst} (h : Bo w g gs m c qb Ab cb S) : Calls Try.prog 21 #[.pointer (some ⟨g, 0, none⟩)] w fun e w' => e = .returned (.bool S.v.isSome) ∧ Below w.heap.size w w' := by
  have HM : Hid (∀ W, Bo W g gs m c qb Ab cb S → Calls Try.prog 32 #[.pointer (some ⟨g, 0, none⟩)] W fun e w' => e = .returned (.bool true) ∧ Below W.heap.size W w' ∧ Bo w' g gs m c qb Ab cb S) := Lib.hid fun W hW => (made_yes g m c (some ⟨gs, 0, none⟩) W hW.c2).mono fun e w' ⟨he, hb⟩ => ⟨he, hb, hW.on hb⟩
  have HB := Lib.hid h
  clear h
  obtain ⟨v, hv⟩ : ∃ v, S.v = v := ⟨_, rfl⟩
  have HV := Lib.hid hv
  rw [hv]
  clear hv
  cases v with
  | none =>
    go_enter Try.func21, Try.ntmps21
    go_wp2_with fail
    refine (HM.out _ HB.out).mono ?_
    rintro e w1 ⟨rfl, hb, h1⟩
    have HB1 := Lib.hid hb
    have c2 := h1.c2
    have s0 := h1.s0
    have l := h1.l
    rw [HV.out] at l
    have hl0 : (none : Option VT).toList.length = 0 := rfl
    rw [hl0] at l
    clear hb h1
    go_wp2_with fail
    go_ret
    exact ⟨rfl, HB1.out⟩
  | some t =>
    go_enter Try.func21, Try.ntmps21
    go_wp2_with fail
    refine (HM.out _ HB.out).mono ?_
    rintro e w1 ⟨rfl, hb, h1⟩
    have HB1 := Lib.hid hb
    have c2 := h1.c2
    have s0 := h1.s0
    have l := h1.l
    rw [HV.out] at l
    have hl0 : (some t : Option VT).toList.length = 1 := rfl
    rw [hl0] at l
    clear hb h1
    go_wp2_with fail
    go_ret
    exact ⟨rfl, HB1.out⟩
/-- what Value answers -/
def ValAns (S : Bst) (w : World) (x : Ending) (w' : World) : Prop := ∃ C, x = .returned (.tuple #[vv (S.v.getD emp) C, .int .i64 (if S.v.isSome then 0 else 3)]) ∧ Lsb w.heap.size w' C (S.v.getD emp).l ∧ Below w.heap.size w w'
set_option maxRecDepth 100000 in
set_option maxHeartbeats 2000000 in
theorem value_any {w : World} {g gs m c qb : Nat} {Ab : Option Addr} {cb : Nat} {S : Bst} (h : Bo w g gs m c qb Ab cb S) (hn : ∀ t, S.v = some t → cnt t ≤ 1099511627776) : Calls Try.prog 24 #[.pointer (some ⟨g, 0, none⟩)] w (ValAns S w) := by
  have HM : Hid (∀ W, Bo W g gs m c qb Ab cb S → Calls Try.prog 32 #[.pointer (some ⟨g, 0, none⟩)] W fun e w' => e = .returned (.bool true) ∧ Below W.heap.size W w' ∧ Bo w' g gs m c qb Ab cb S) := Lib.hid fun W hW => (made_yes g m c (some ⟨gs, 0, none⟩) W hW.c2).mono fun e w' ⟨he, hb⟩ => ⟨he, hb, hW.on hb⟩
  have HD : Hid (∀ W, Bo W g gs m c qb Ab cb S → Calls Try.prog 21 #[.pointer (some ⟨g, 0, none⟩)] W fun e w' => e = .returned (.bool S.v.isSome) ∧ Below W.heap.size W w' ∧ Bo w' g gs m c qb Ab cb S) := Lib.hid fun W hW => (done_any hW).mono fun e w' ⟨he, hb⟩ => ⟨he, hb, hW.on hb⟩
  obtain ⟨W1, hW1⟩ : ∃ W1, w.alloc (.cells #[.int .i64 0, .bool false, .int .u64 0, .string ⟨#[]⟩, .slice none 0 0] 25) = W1 := ⟨_, rfl⟩
  have HB : Hid (Below w.heap.size w W1) := Lib.hid (by rw [← hW1]; exact (Below.refl _ _).alloc (Nat.le_refl _) _)
  have HK : Hid (Bk W1 w.heap.size 25 #[.int .i64 0, .bool false, .int .u64 0, .string ⟨#[]⟩, .slice none 0 0]) := Lib.hid (by rw [← hW1]; exact heap_alloc_last _ _)
  have HB0 : Hid (Bo W1 g gs m c qb Ab cb S) := Lib.hid (h.on HB.out)
  unfold ValAns
  cases hv : S.v with
  | none =>
    rw [hv] at HD
    have e0 : (none : Option VT).isSome = false := rfl
    rw [e0] at HD
    clear hn h
    go_enter Try.func24, Try.ntmps24
    go_wp2_with fail
    refine (HM.out _ HB0.out).mono ?_
    rintro e w1 ⟨rfl, hb1, h1⟩
    have H1 := Lib.hid (And.intro hb1 h1)
    clear hb1 h1
    go_wp2_with fail
    refine (HD.out _ H1.out.2).mono ?_
    rintro e w2 ⟨rfl, hb2, h2⟩
    have hk := (HK.out.below H1.out.1 HK.out.lt).below hb2 (Nat.lt_of_lt_of_le HK.out.lt H1.out.1.size)
    obtain ⟨f0, f1, f2, f3, f4⟩ := hk.c5
    obtain ⟨ff0, ff1, ff2, ff3, ff4⟩ := hk.f5
    have HB2 : Hid (Below w.heap.size w w2) := Lib.hid ((HB.out.trans (H1.out.1.mono HB.out.size)).trans (hb2.mono (Nat.le_trans HB.out.size H1.out.1.size)))
    clear hb2 h2 hk HK hW1
    go_wp2_with fail
    exact bodyPost_ret (v := .tuple #[.agg #[.int .i64 0, .bool false, .int .u64 0, .string ⟨#[]⟩, .slice none 0 0], .int .i64 3]) (by simp [results, Try.results24, go_sem, f0, f1, f2, f3, f4]) rfl ⟨.slice none 0 0, rfl, .nil_, below_set5 HB2.out (Nat.le_refl _) _ _ _ _ _⟩
  | some t =>
    rw [hv] at HD
    have e0 : (some t : Option VT).isSome = true := rfl
    rw [e0] at HD
    have hct := hn t hv
    have HA : Hid (∀ W C, Lst W C t.l → Calls Try.prog 42 #[vv t C, .slice none 0 0] W fun x w' => ∃ A' c', x = .returned (.tuple #[vv t (.slice A' t.l.length c'), .int .i64 0]) ∧ Lsb W.heap.size w' (.slice A' t.l.length c') t.l ∧ Below W.heap.size W w') := Lib.hid fun W C hC => (vat0_any W t C none [] 0 W (Below.refl _ _) hC (.inl rfl) (by simp) (Nat.le_refl _) hct).mono fun x w' ⟨C', h1, h2, h3⟩ => by
      have h2' : Lsb W.heap.size w' C' t.l := h2
      obtain ⟨A', c', rfl, _⟩ := h2'.lst.out
      exact ⟨A', c', h1, h2', h3⟩
    have HL : Hid (∀ W, Bo W g gs m c qb Ab cb S → ∃ b off AC cC, Ab = some ⟨b, off, none⟩ ∧ Row W b off t (.slice AC t.l.length cC) ∧ Lst W (.slice AC t.l.length cC) t.l ∧ W.cell? ⟨qb, 4, none⟩ = some (.slice Ab 1 cb)) := Lib.hid fun W hW => by
      have h5 := hW.v
      have h6 := hW.l
      rw [hv] at h5 h6
      have e1 : (some t : Option VT).toList = [t] := rfl
      rw [e1] at h5 h6
      obtain ⟨A2, c2, e2, _, h7⟩ := h5.out
      injection e2 with e2 e3 e4
      subst e2
      rcases h7 with ⟨_, h8, _⟩ | ⟨b, off, C, h8, _, hr, hk⟩
      · cases h8
      · have hr0 := hr 0 (by simp)
        have hk0 := hk 0 (by simp)
        simp only [List.getElem_cons_zero, Nat.zero_mul, Nat.add_zero] at hr0 hk0
        obtain ⟨AC, cC, hc, _⟩ := hk0.out
        rw [hc] at hr0 hk0
        exact ⟨b, off, AC, cC, h8, hr0, hk0, h6⟩
    clear hn h hct
    unfold vv at HA
    go_enter Try.func24, Try.ntmps24
    go_wp2_with fail
    refine (HM.out _ HB0.out).mono ?_
    rintro e w1 ⟨rfl, hb1, h1⟩
    have H1 := Lib.hid (And.intro hb1 h1)
    clear hb1 h1
    go_wp2_with fail
    refine (HD.out _ H1.out.2).mono ?_
    rintro e w2 ⟨rfl, hb2, h2⟩
    have HK2 : Hid (Bk w2 w.heap.size 25 #[.int .i64 0, .bool false, .int .u64 0, .string ⟨#[]⟩, .slice none 0 0]) := Lib.hid ((HK.out.below H1.out.1 HK.out.lt).below hb2 (Nat.lt_of_lt_of_le HK.out.lt H1.out.1.size))
    have HB2 : Hid (Below w.heap.size w w2) := Lib.hid ((HB.out.trans (H1.out.1.mono HB.out.size)).trans (hb2.mono (Nat.le_trans HB.out.size H1.out.1.size)))
    obtain ⟨b, off, AC, cC, rfl, hr, hl, hq⟩ := HL.out _ h2
    have c2 := h2.c2
    have s0 := h2.s0
    have r0 := hr.k
    have r1 := hr.g
    have r2 := hr.n
    have r3 := hr.s
    have r4 := hr.l
    have HL2 := Lib.hid hl
    clear hb2 h2 HK hW1 hr hl HL HD HM
    go_wp2_with fail
    refine (HA.out _ _ HL2.out).mono ?_
    rintro e w3 ⟨A3, c3, rfl, hl3, hb3⟩
    have hk := HK2.out.below hb3 HK2.out.lt
    obtain ⟨f0, f1, f2, f3, f4⟩ := hk.c5
    obtain ⟨ff0, ff1, ff2, ff3, ff4⟩ := hk.f5
    have HB3 : Hid (Below w.heap.size w w3) := Lib.hid (HB2.out.trans (hb3.mono HB2.out.size))
    have HL3 := Lib.hid hl3
    clear hb3 hk hl3 r0 r1 r2 r3 r4 c2 s0 hq
    go_wp2_with fail
    refine bodyPost_ret (v := .tuple #[.agg #[.int .i64 t.k, .bool t.g, .int .u64 (t.n : Int), .string t.s, .slice A3 t.l.length c3], .int .i64 0]) (by simp [results, Try.results24, go_sem, f0, f1, f2, f3, f4]) rfl ⟨.slice A3 t.l.length c3, rfl, ?_, below_set5 HB3.out (Nat.le_refl _) _ _ _ _ _⟩
    have hlt : w.heap.size < w2.heap.size := HK2.out.lt
    exact (HL3.out.keep (by simp only [setCell_sz]; exact Nat.le_refl _) fun b hb _ => by rw [off_g (by omega), off_g (by omega), off_g (by omega), off_g (by omega), off_g (by omega)]).low (Nat.le_of_lt hlt)
end Go.Proofs.Ythlpiaoofijfpaa.nn
namespace Go.Proofs.Ythlpiaoofijfpaa.nn
open Go.RowKit

theorem good_new (d : Int) : GoodW (newB d) := ⟨⟨[], ⟨⟨rfl, fun t ht => (by cases ht), fun _ => ⟨trivial, rfl⟩⟩, Nat.zero_le _⟩⟩, fun p hp => (by cases hp), by show (min (max d 0) 64).toNat ≤ 64; omega⟩
theorem good_run (L : List Ev) (hL : ∀ e, e ∈ L → wfE e) : ∀ S, GoodW S → GoodW (runB S L).1 := by
  induction L with
  | nil => intro S h; exact h
  | cons e r ih =>
    intro S h
    simp only [runB]
    split
    · exact ih (fun x hx => hL x (by simp [hx])) _ (good_put h (hL e (by simp)))
    · exact h
theorem good_cnt {S : Bst} (h : GoodW S) : ∀ t, S.v = some t → cnt t ≤ 65536 := by
  intro t ht
  obtain ⟨L, ⟨_, h2, _⟩, h4⟩ := h.g
  have := (h2 t ht).2.2.2
  have h5 : cnt t = S.n := this
  omega
/-- the state behind the first i events -/
def stB (L : List Ev) (i : Nat) : Bst := (runB (newB 64) (L.take i)).1
structure Ts (w : World) (g : Nat) (L : List Ev) (i : Nat) (W : World) : Prop where
  r : ∃ O, Rb W g O (stB L i) ∧ ∀ b, O b → w.heap.size < b
  e : (runB (newB 64) (L.take i)).2.2 = 0
  b : Below w.heap.size w W
  k : Bk W w.heap.size 25 #[.int .i64 0, .bool false, .int .u64 0, .string ⟨#[]⟩, .slice none 0 0]
/-- what Tree answers -/
def TrAns (L : List Ev) (w : World) (x : Ending) (w' : World) : Prop := ∃ C, x = .returned (.tuple #[vv (treeB L).1 C, .int .i64 ((treeB L).2.1 : Int), .int .i64 ((treeB L).2.2 : Int)]) ∧ Lst w' C (treeB L).1.l ∧ Below w.heap.size w w'
theorem ts_put {w W : World} {g i : Nat} {L : List Ev} (h : Ts w g L i W) (hi : i < L.length) (hL : ∀ e, e ∈ L → wfE e) (o : Obj) :
    Calls Try.prog 19 #[.pointer (some ⟨g, 0, none⟩), evv L[i]] (W.alloc o) fun x w' => ∃ r : Nat, x = .returned (.int .i64 (r : Int)) ∧ (r = 0 → Ts w g L (i + 1) w') ∧ (r ≠ 0 → treeB L = (emp, i, r)) ∧ Below w.heap.size w w' ∧ Bk w' w.heap.size 25 #[.int .i64 0, .bool false, .int .u64 0, .string ⟨#[]⟩, .slice none 0 0] := by
  obtain ⟨⟨O, hr, hO⟩, he, hb, hk⟩ := h
  have hG : GoodW (stB L i) := good_run _ (fun e he => hL e (List.mem_of_mem_take he)) _ (good_new 64)
  have hr2 : Rb (W.alloc o) g O (stB L i) := hr.below ((Below.refl _ _).alloc (Nat.le_refl _) o)
  have hb2 : Below w.heap.size w (W.alloc o) := hb.alloc hb.size o
  have hk2 := hk.al o
  refine (put_any (stB L i) g O L[i] (W.alloc o) hr2 hG (hL _ (List.getElem_mem hi))).mono fun x w' ⟨hx, O', hm, hr'⟩ => ⟨_, hx, fun h0 => ?_, fun h0 => ?_, ?_, ?_⟩
  · have h1 := runB_take hi he
    have h1' : runB (newB 64) (L.take (i + 1)) = if mayB (stB L i) L[i] = 0 then (putB (stB L i) L[i], i + 1, 0) else (stB L i, i, mayB (stB L i) L[i]) := h1
    rw [if_pos h0] at h1'
    have hst : stB L (i + 1) = putB (stB L i) L[i] := by unfold stB; rw [h1']; rfl
    refine ⟨⟨O', by rw [hst]; exact hr', fun b hb' => ?_⟩, by rw [h1'], ?_, ?_⟩
    · rcases hm.new b hb' with h | h
      · exact hO b h
      · have := hb2.size; have := hk2.lt; omega
    · exact ⟨hm.os.trans hb2.os, hm.tape.trans hb2.tape, hm.output.trans hb2.output, Nat.le_trans hb2.size hm.size, fun b hb' => (hm.kept b (Nat.lt_of_lt_of_le hb' hb2.size) (fun h => by have := hO b h; omega) (fun h => h)).trans (hb2.block b hb')⟩
    · exact (hm.kept _ hk2.lt (fun h => by have := hO _ h; omega) (fun h => h)).trans hk2
  · have h1 := runB_stop hi he h0
    unfold treeB
    rw [h1]
    exact if_pos h0
  · exact ⟨hm.os.trans hb2.os, hm.tape.trans hb2.tape, hm.output.trans hb2.output, Nat.le_trans hb2.size hm.size, fun b hb' => (hm.kept b (Nat.lt_of_lt_of_le hb' hb2.size) (fun h => by have := hO b h; omega) (fun h => h)).trans (hb2.block b hb')⟩
  · exact (hm.kept _ hk2.lt (fun h => by have := hO _ h; omega) (fun h => h)).trans hk2
theorem ts_value {w W : World} {g : Nat} {L : List Ev} (h : Ts w g L L.length W) (hL : ∀ e, e ∈ L → wfE e) :
    Calls Try.prog 24 #[.pointer (some ⟨g, 0, none⟩)] W fun x w' => ∃ (t : VT) (A : Option Addr) (c r : Nat), x = .returned (.tuple #[vv t (.slice A t.l.length c), .int .i64 (r : Int)]) ∧ treeB L = (t, L.length, r) ∧ Lsb (w.heap.size + 1) w' (.slice A t.l.length c) t.l ∧ Below w.heap.size w w' ∧ Bk w' w.heap.size 25 #[.int .i64 0, .bool false, .int .u64 0, .string ⟨#[]⟩, .slice none 0 0] := by
  obtain ⟨⟨O, hr, hO⟩, he, hb, hk⟩ := h
  have hG : GoodW (stB L L.length) := good_run _ (fun e he => hL e (List.mem_of_mem_take he)) _ (good_new 64)
  obtain ⟨gs, m, c, qb, Ab, cb, hbo⟩ := hr.bo
  have hlt := hk.lt
  refine (value_any hbo fun t ht => by have := good_cnt hG t ht; omega).mono fun x w' ⟨C, hx, hl, hb'⟩ => ?_
  obtain ⟨A, c', rfl, _⟩ := hl.lst.out
  refine ⟨_, A, c', if (stB L L.length).v.isSome then 0 else 3, by rw [hx]; split <;> rfl, ?_, hl.low (by omega), hb.trans (hb'.mono hb.size), hk.below hb' hlt⟩
  have e1 : L.take L.length = L := List.take_length
  have hst : stB L L.length = (runB (newB 64) L).1 := by unfold stB; rw [e1]
  rw [e1] at he
  unfold treeB
  rw [if_neg (by rw [he]; simp), hst]
  cases (runB (newB 64) L).1.v <;> rfl
set_option maxRecDepth 100000 in
set_option maxHeartbeats 2000000 in
theorem tree_any (A : Option Addr) (L : List Ev) (c : Nat) (w : World) (hR : RdE w A L) (hL : ∀ e, e ∈ L → wfE e) (hn : L.length ≤ 1099511627776) :
    Calls Try.prog 14 #[.slice A L.length c] w (TrAns L w) := by
  obtain ⟨W1, hW1⟩ : ∃ W1, w.alloc (.cells #[.int .i64 0, .bool false, .int .u64 0, .string ⟨#[]⟩, .slice none 0 0] 25) = W1 := ⟨_, rfl⟩
  have HB1 : Hid (Below w.heap.size w W1) := Lib.hid (by rw [← hW1]; exact (Below.refl _ _).alloc (Nat.le_refl _) _)
  have HK1 : Hid (Bk W1 w.heap.size 25 #[.int .i64 0, .bool false, .int .u64 0, .string ⟨#[]⟩, .slice none 0 0]) := Lib.hid (by rw [← hW1]; exact heap_alloc_last _ _)
  have HN : Hid (Calls Try.prog 17 #[.int .i64 64] W1 fun x w' => ∃ g, x = .returned (.pointer (some ⟨g, 0, none⟩)) ∧ Ts w g L 0 w') := Lib.hid ((new_any 64 W1).mono fun x w' ⟨g, O, hx, hr, hO, hb⟩ => ⟨g, hx, ⟨O, by unfold stB; rw [List.take_zero]; exact hr, fun b hb' => by have := hO b hb'; have := HK1.out.lt; omega⟩, by rw [List.take_zero]; rfl, HB1.out.trans (hb.mono HB1.out.size), HK1.out.below hb HK1.out.lt⟩)
  have HP : Hid (∀ g i (hi : i < L.length) W o, Ts w g L i W → Calls Try.prog 19 #[.pointer (some ⟨g, 0, none⟩), evv L[i]] (W.alloc o) fun x w' => ∃ r : Nat, x = .returned (.int .i64 (r : Int)) ∧ (r = 0 → Ts w g L (i + 1) w') ∧ (r ≠ 0 → treeB L = (emp, i, r)) ∧ Below w.heap.size w w' ∧ Bk w' w.heap.size 25 #[.int .i64 0, .bool false, .int .u64 0, .string ⟨#[]⟩, .slice none 0 0]) := Lib.hid fun g i hi W o h => ts_put h hi hL o
  have HV : Hid (∀ g W, Ts w g L L.length W → Calls Try.prog 24 #[.pointer (some ⟨g, 0, none⟩)] W fun x w' => ∃ (t : VT) (A : Option Addr) (c r : Nat), x = .returned (.tuple #[vv t (.slice A t.l.length c), .int .i64 (r : Int)]) ∧ treeB L = (t, L.length, r) ∧ Lsb (w.heap.size + 1) w' (.slice A t.l.length c) t.l ∧ Below w.heap.size w w' ∧ Bk w' w.heap.size 25 #[.int .i64 0, .bool false, .int .u64 0, .string ⟨#[]⟩, .slice none 0 0]) := Lib.hid fun g W h => ts_value h hL
  have HR : Hid (∀ g i W, Ts w g L i W → RdE W A L) := Lib.hid fun g i W h => hR.below h.b
  unfold TrAns
  obtain ⟨TB, hTB⟩ : ∃ TB, treeB L = TB := ⟨_, rfl⟩
  rw [hTB] at HP HV ⊢
  obtain ⟨n, hnn⟩ : ∃ n, L.length = n := ⟨_, rfl⟩
  have HNN := Lib.hid hnn
  rw [hnn] at HV hn ⊢
  unfold vv at HV ⊢
  unfold evv at HP
  clear hR hL hTB hnn
  go_enter Try.func14, Try.ntmps14
  go_wp2_with fail
  refine HN.out.mono ?_
  rintro x w2 ⟨g, rfl, h2⟩
  have H2 := Lib.hid h2
  clear h2 hW1 HN HB1 HK1
  go_wp2_with fail
  go_loopw [14] (fun s14 wr => ∃ i : Nat, i ≤ n ∧ s14 = .int .i64 (i : Int) ∧ Hid (Ts w g L i wr)) (fun s14 _ => n - (intOf s14).toNat)
  case atStart => exact ⟨0, Nat.zero_le _, rfl, H2⟩
  case round =>
    obtain ⟨i, hi, rfl, ht⟩ := hrel
    by_cases hlt : i < n
    · have hiL : i < L.length := by rw [HNN.out]; exact hlt
      have hrd := HR.out g i wr ht.out
      obtain ⟨b1, o1, rfl, -, -⟩ := hrd (by intro h; subst h; simp at hiL)
      obtain ⟨a0, a1, a2, a3⟩ := hrd.at hiL
      have hp := fun o => HP.out g i hiL wr o ht.out
      obtain ⟨x, hx⟩ : ∃ x, L[i] = x := ⟨_, rfl⟩
      rw [hx] at a0 a1 a2 a3
      simp only [hx] at hp
      have HPP := Lib.hid hp
      clear hrd hp hx
      go_wp2_with fail
      refine (HPP.out _).mono ?_
      rintro y w3 ⟨r, rfl, h30, h31, hb3, hk3⟩
      by_cases hr0 : r = 0
      · subst hr0
        have H3 := Lib.hid (h30 rfl)
        clear h30 h31 hb3 hk3 a0 a1 a2 a3 HPP
        go_wp2_with fail
        go_roundw
        case rel => exact ⟨i + 1, hlt, by go_num, H3⟩
        case measure => simp [intOf]; omega
      · obtain rfl := h31 hr0
        have hr1 : ((r : Int) != 0) = true := by simp; omega
        obtain ⟨f0, f1, f2, f3, f4⟩ := hk3.c5
        obtain ⟨ff0, ff1, ff2, ff3, ff4⟩ := hk3.f5
        have HB3 := Lib.hid hb3
        clear h30 h31 hb3 hk3 a0 a1 a2 a3 HPP hr0 HP HV
        go_wp2_with fail
        exact bodyPost_ret (v := .tuple #[.agg #[.int .i64 0, .bool false, .int .u64 0, .string ⟨#[]⟩, .slice none 0 0], .int .i64 (i : Int), .int .i64 (r : Int)]) (by simp [results, Try.results14, go_sem, f0, f1, f2, f3, f4]) rfl ⟨.slice none 0 0, rfl, .nil_, below_set5 HB3.out (Nat.le_refl _) _ _ _ _ _⟩
    · obtain rfl : i = n := by omega
      have HV2 := Lib.hid (HV.out g wr ht.out)
      clear HP HV
      go_wp2_with fail
      refine HV2.out.mono ?_
      rintro y w3 ⟨t, A3, c3, r, rfl, rfl, hl3, hb3, hk3⟩
      obtain ⟨d0, d1, d2, d3, d4⟩ := (hk3.al (.cells #[.int .i64 t.k, .bool t.g, .int .u64 (t.n : Int), .string t.s, .slice A3 t.l.length c3] 25)).c5
      obtain ⟨df0, df1, df2, df3, df4⟩ := (hk3.al (.cells #[.int .i64 t.k, .bool t.g, .int .u64 (t.n : Int), .string t.s, .slice A3 t.l.length c3] 25)).f5
      have hlt3 := hk3.lt
      have HB3 := Lib.hid hb3
      have HL3 := Lib.hid hl3
      have HLT := Lib.hid hlt3
      clear hl3 hb3 hk3 HV2 hlt3
      go_wp2_with fail
      refine bodyPost_ret (v := .tuple #[.agg #[.int .i64 t.k, .bool t.g, .int .u64 (t.n : Int), .string t.s, .slice A3 t.l.length c3], .int .i64 (i : Int), .int .i64 (r : Int)]) (by simp [results, Try.results14, go_sem, d0, d1, d2, d3, d4]) rfl ⟨.slice A3 t.l.length c3, rfl, ?_, below_set5 (HB3.out.alloc HB3.out.size _) (Nat.le_refl _) _ _ _ _ _⟩
      refine (HL3.out.keep (by simp only [setCell_sz]; simp) fun b hb hbl => ?_).lst
      rw [off_g (by omega), off_g (by omega), off_g (by omega), off_g (by omega), off_g (by omega)]
      exact Below.heap_alloc _ _ _ hbl
end Go.Proofs.Ythlpiaoofijfpaa.nn
namespace Go.Proofs.Ythlpiaoofijfpaa.nn

theorem wf_end : wfE evEnd := ⟨by decide, by decide, by decide, Nat.zero_le _⟩
mutual
theorem wf_evs : ∀ t : VT, wfT t → smx t ≤ maxLen → ∀ e, e ∈ evs t → wfE e
  | .mk k g n s l, h, hs, e, he => by
    have hs' : max s.size (smxL l) ≤ maxLen := hs
    obtain ⟨h1, h2, h3, h4⟩ := h
    unfold evs at he
    rcases List.mem_cons.1 he with rfl | he
    · exact ⟨h1, h2, h3, by show s.size ≤ _; omega⟩
    · rcases List.mem_append.1 he with he | he
      · exact wf_evsL l h4 (by omega) e he
      · split at he
        · simp at he; rw [he]; exact wf_end
        · cases he
theorem wf_evsL : ∀ l : List VT, wfL l → smxL l ≤ maxLen → ∀ e, e ∈ evsL l → wfE e
  | [], _, _, e, he => by cases he
  | t :: r, h, hs, e, he => by
    have hs' : max (smx t) (smxL r) ≤ maxLen := hs
    rcases List.mem_append.1 (show e ∈ evs t ++ evsL r from he) with he | he
    · exact wf_evs t h.1 (by omega) e he
    · exact wf_evsL r h.2 (by omega) e he
end
end Go.Proofs.Ythlpiaoofijfpaa.nn
