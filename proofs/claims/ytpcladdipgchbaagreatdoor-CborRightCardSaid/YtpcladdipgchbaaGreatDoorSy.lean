/- Joined texts, what is wanted of them: DrH, DrI, DrJ, DrK, DrL. -/
import Derived.Deep.RegionWith
import Derived.Deep.LoopGhost
import Derived.Test.YtpcladdipgchbaaGreatDoorProg
import Derived.WalkKit
import Derived.Lib.Hide
import Derived.WalkSpells
import Derived.Deep.QuietTactic
import Derived.BigQuiet
import Derived.Deep.RegionHeld3
import Derived.Laws.BitsAllLaws
import Derived.Test.YtpcladdipgchbaaGreatDoorShelf
import Derived.IntWalk
import Derived.Deep.CutBlock
import Derived.StillTailTactics
import Derived.Test.YtpcladdipgchbaaGreatDoorSx
import Derived.Test.YtpcladdipgchbaaGreatDoorSi
import Derived.Test.YtpcladdipgchbaaGreatDoorSe
import Derived.Test.YtpcladdipgchbaaGreatDoorSb
import Derived.Test.YtpcladdipgchbaaGreatDoorSd
import Derived.Test.YtpcladdipgchbaaGreatDoorSv
import Derived.Test.YtpcladdipgchbaaGreatDoorSg
import Derived.Test.YtpcladdipgchbaaGreatDoorSa
import Derived.Test.YtpcladdipgchbaaGreatDoorSo
import Derived.Test.YtpcladdipgchbaaGreatDoorTl
import Derived.Test.YtpcladdipgchbaaGreatDoorSn
import Derived.Test.YtpcladdipgchbaaGreatDoorSj
import Derived.Test.YtpcladdipgchbaaGreatDoorSf
import Derived.Test.YtpcladdipgchbaaGreatDoorSw
import Derived.Test.YtpcladdipgchbaaGreatDoorSc
import Derived.Test.YtpcladdipgchbaaGreatDoorSm
import Derived.Test.YtpcladdipgchbaaGreatDoorSt
import Derived.Test.YtpcladdipgchbaaGreatDoorSz
import Derived.Test.YtpcladdipgchbaaGreatDoorSh
import Derived.Test.YtpcladdipgchbaaGreatDoorSs
import Derived.Test.YtpcladdipgchbaaGreatDoorSp
import Derived.Test.YtpcladdipgchbaaGreatDoorSr
import Derived.Test.YtpcladdipgchbaaGreatDoorSq
import Derived.Test.YtpcladdipgchbaaGreatDoorSu
import Derived.Test.YtpcladdipgchbaaGreatDoorSl
import Derived.Test.YtpcladdipgchbaaGreatDoorTk
namespace Go.Proofs.YtpcladdipgchbaaGreatDoor.nn
open Go.RowKit

/-- how a reader and its build lie -/
structure Rdw (W : World) (q : Nat) (A : Option Addr) (n c : Nat) (f : Nat → Nat) (size : Nat) (mo : Bool) (g i : Nat) (O : Nat → Prop) (S : Bst) : Prop where
  r : Rdb W q A n c f size mo (.pointer (some ⟨g, 0, none⟩)) i
  t : Rb W g O S
  nq : ¬ O q
  nx : ∀ b off, 0 < n → A = some ⟨b, off, none⟩ → ¬ O b
  G : GoodW S
  l : Laid W
  z : ¬ O 0 ∧ q ≠ 0
/-- a step that turns the reader's block and its build alone -/
def Stb (q : Nat) (O : Nat → Prop) (W : World) (O' : Nat → Prop) (W' : World) : Prop := Mv (fun b => b = q) O W O' W'
/-- what a part of the reader that hands on to the build answers -/
def IAns {α : Type} (q : Nat) (A : Option Addr) (n c : Nat) (f : Nat → Nat) (size : Nat) (mo : Bool) (g : Nat) (O : Nat → Prop) (st : α → Bst) (R : Rs α) (W : World) (r : Ending) (W' : World) : Prop :=
  ∃ O', Stb q O W O' W' ∧ ((∃ a k, R = .ok a k ∧ r = .returned (.tuple #[]) ∧ Rdw W' q A n c f size mo g k O' (st a)) ∨ (∃ p e, R = .no p e ∧ r = .panicked [{ v := rfV (p : Int) (adj mo e : Int), recovered := false }]))
section
variable {W W' : World} {q : Nat} {A : Option Addr} {n c : Nat} {f : Nat → Nat} {size : Nat} {mo : Bool} {g i i' : Nat} {O O' : Nat → Prop} {S S' : Bst}
theorem Stb.of (h : Stp q W W') : Stb q O W O W' := ⟨h.os, h.tape, h.output, h.size, fun _ h => h, fun _ h => .inl h, fun b hb _ he => h.kept b hb (fun h => h) he⟩
theorem Stb.trans {O2 : Nat → Prop} {W2 : World} (h : Stb q O W O' W') (k : Stb q O' W' O2 W2) : Stb q O W O2 W2 := Mv.trans h k
theorem Stb.below (h : Below W.heap.size W W') : Stb q O W O W' := .of (.of_below h)
theorem Rdw.stp (h : Rdw W q A n c f size mo g i O S) (hs : Stp q W W') (hr : Rdb W' q A n c f size mo (.pointer (some ⟨g, 0, none⟩)) i') : Rdw W' q A n c f size mo g i' O S := by
  obtain ⟨K, sv, D, h1, h2⟩ := h.t
  exact ⟨hr, ⟨K, sv, D, h1.keep hs.size fun b hb => hs.block (h1.lo b hb) (fun e => h.nq (e ▸ hb)), h2⟩, h.nq, h.nx, h.G, h.l.mv hs (fun h => h) (fun e => h.z.2 e.symm), h.z⟩
theorem Rdw.below (h : Rdw W q A n c f size mo g i O S) (hb : Below W.heap.size W W') : Rdw W' q A n c f size mo g i O S := h.stp (.of_below hb) (h.r.below hb)
theorem Rdw.fin (h : Rdw W q A n c f size mo g i O S) (hf : Fin W g O S' W') (hG : GoodW S') : ∃ O', Stb q O W O' W' ∧ Rdw W' q A n c f size mo g i O' S' := by
  obtain ⟨O', hm, hR⟩ := hf
  have hn : ∀ b, ¬ O b → b < W.heap.size → ¬ O' b := fun b h1 h2 h3 => by
    rcases hm.new b h3 with h4 | h4
    · exact h1 h4
    · omega
  have hk : ∀ b, b < W.heap.size → ¬ O b → W'.heap[b]? = W.heap[b]? := fun b h1 h2 => hm.kept b h1 h2 (fun h => h)
  have hz : 0 < W.heap.size := by have := h.r.b.lt; omega
  refine ⟨O', Mv.weak hm fun b hb => hb.elim, ⟨(hk q h.r.b.lt h.nq).trans h.r.b, fun hn0 => ?_, h.r.x, h.r.nc, h.r.sz, h.r.i, h.r.hf⟩, hR, hn q h.nq h.r.b.lt, fun b off h0 e => hn b (h.nx b off h0 e) (h.r.a.lt e h0), hG, h.l.mv hm h.z.1 (fun h => h), hn 0 h.z.1 hz, h.z.2⟩
  obtain ⟨b, off, e, hb, hc⟩ := h.r.a hn0
  refine ⟨b, off, e, Nat.lt_of_lt_of_le hb hm.size, fun j hj => ?_⟩
  rw [← hc j hj]
  simp only [World.cell?, hk b hb (h.nx b off hn0 e)]
theorem IAns.from_ {α : Type} {W1 : World} {O1 : Nat → Prop} {st : α → Bst} {R : Rs α} {r : Ending} (hs : Stb q O W O1 W1) (h : IAns q A n c f size mo g O1 st R W1 r W') : IAns q A n c f size mo g O st R W r W' := by
  obtain ⟨O', h1, h2⟩ := h
  exact ⟨O', hs.trans h1, h2⟩
theorem may_vals (S : Bst) (e : Ev) : mayB S e = 0 ∨ mayB S e = 4 ∨ mayB S e = 8 := by
  unfold mayB
  repeat' split
  all_goals simp
set_option maxRecDepth 100000 in
set_option maxHeartbeats 4000000 in
theorem rput_b (h : Rdw W q A n c f size mo g i O S) (s : Hdr) (e : Ev) (hw : wfE e) :
    Calls Tryz.prog 110 #[.pointer (some ⟨q, 0, none⟩), stV s, evv e] W fun r W' => ∃ O', Stb q O W O' W' ∧ ((mayB S e = 0 ∧ r = .returned (.tuple #[]) ∧ Rdw W' q A n c f size mo g i O' (putB S e)) ∨ (mayB S e ≠ 0 ∧ r = .panicked [{ v := rfV (s.p : Int) (mayB S e : Int), recovered := false }])) := by
  obtain ⟨p, M, x, v⟩ := s
  obtain ⟨ek, eg, en, es⟩ := e
  unfold stV evv
  dsimp only
  obtain ⟨W0, hW0⟩ : ∃ W0, W.alloc (.cells #[.int .i64 (p : Int), .int .i64 (M : Int), .int .i64 (x : Int), .int .u64 (v : Int)] 156) = W0 := ⟨_, rfl⟩
  obtain ⟨W1, hW1⟩ : ∃ W1, W0.alloc (.cells #[.int .i64 ek, .bool eg, .int .u64 (en : Int), .string es] 159) = W1 := ⟨_, rfl⟩
  have hb0 : Below W.heap.size W W0 := by rw [← hW0]; exact (Below.refl _ _).alloc (Nat.le_refl _) _
  have hz0 : W0.heap.size = W.heap.size + 1 := by rw [← hW0]; simp
  have hk0 : Bk W0 W.heap.size 156 #[.int .i64 (p : Int), .int .i64 (M : Int), .int .i64 (x : Int), .int .u64 (v : Int)] := by rw [← hW0]; exact heap_alloc_last _ _
  have hb1 : Below W0.heap.size W0 W1 := by rw [← hW1]; exact (Below.refl _ _).alloc (Nat.le_refl _) _
  have hk1 : Bk W1 W0.heap.size 159 #[.int .i64 ek, .bool eg, .int .u64 (en : Int), .string es] := by rw [← hW1]; exact heap_alloc_last _ _
  have hk2 : Bk W1 W.heap.size 156 #[.int .i64 (p : Int), .int .i64 (M : Int), .int .i64 (x : Int), .int .u64 (v : Int)] := hk0.below hb1 hk0.lt
  have hb01 : Below W.heap.size W W1 := hb0.trans (hb1.mono hb0.size)
  have h1 := h.below hb01
  have HP : Hid (∀ W', Below W1.heap.size W1 W' → Calls Tryz.prog 145 #[.pointer (some ⟨g, 0, none⟩), .agg #[.int .i64 ek, .bool eg, .int .u64 (en : Int), .string es]] W' fun x w' => x = .returned (.int .i64 (mayB S ⟨ek, eg, en, es⟩ : Int)) ∧ (∃ O', Stb q O W O' w' ∧ Rdw w' q A n c f size mo g i O' (putB S ⟨ek, eg, en, es⟩)) ∧ w'.cell? ⟨W.heap.size, 0, none⟩ = some (.int .i64 (p : Int))) := Lib.hid fun W' hb => by
    have h2 := h1.below hb
    refine (put_any S g O ⟨ek, eg, en, es⟩ W' h2.t h2.G hw).mono fun x w' ⟨hx, hf⟩ => ⟨hx, ?_, ?_⟩
    · obtain ⟨O', a1, a2⟩ := h2.fin hf (good_put h2.G hw)
      exact ⟨O', (Stb.below (hb01.trans (hb.mono hb01.size))).trans a1, a2⟩
    · obtain ⟨O', hm, _⟩ := hf
      have hlt : W.heap.size < W'.heap.size := Nat.lt_of_lt_of_le hk2.lt hb.size
      have hno : ¬ O W.heap.size := fun ho => by
        obtain ⟨K, sv, D, g1, _⟩ := h.t
        have := g1.lo _ ho
        omega
      have := hm.kept W.heap.size hlt hno (fun h => h)
      exact cell_of_row _ _ 0 _ _ _ (this.trans (hk2.below hb hk2.lt))
  have hmv := may_vals S ⟨ek, eg, en, es⟩
  have hpz : mayB S ⟨ek, eg, en, es⟩ ≠ 0 → putB S ⟨ek, eg, en, es⟩ = S := fun hh => by unfold putB; rw [if_pos hh]
  obtain ⟨R, hR⟩ : ∃ R, mayB S ⟨ek, eg, en, es⟩ = R := ⟨_, rfl⟩
  obtain ⟨S', hS'⟩ : ∃ S', putB S ⟨ek, eg, en, es⟩ = S' := ⟨_, rfl⟩
  rw [hR, hS'] at HP hpz
  rw [hR] at hmv
  rw [hR, hS']
  have HRF : Hid (R ≠ 0 → ∀ W' O', Rdw W' q A n c f size mo g i O' S' → Calls Tryz.prog 70 #[.pointer (some ⟨q, 0, none⟩), .int .i64 (p : Int), .int .i64 (R : Int)] W' fun r w' => r = .panicked [{ v := rfV (p : Int) (R : Int), recovered := false }] ∧ w' = W') := Lib.hid fun h0 W' O' hh => by
    have := refuse_any hh.r p R
    have e8 : adj mo R = R := by unfold adj; rw [if_neg (by omega)]
    rw [e8] at this
    exact this
  have HD : Hid (∀ k, Below W1.heap.size W1 (W1.drewN k)) := Lib.hid fun k => dnB (Below.refl _ _) k
  have HD1 : Hid (Below W1.heap.size W1 W1.drew) := Lib.hid (Below.drew (Below.refl _ _))
  obtain ⟨_, _, _, _, b4⟩ := h1.r.b.c5
  obtain ⟨e0, e1, e2, e3⟩ := hk1.c4
  have b4' : W1.drew.cell? ⟨q, 4, none⟩ = some (.pointer (some ⟨g, 0, none⟩)) := b4
  have e0' : W1.drew.cell? ⟨W0.heap.size, 0, none⟩ = some (.int .i64 ek) := e0
  have e1' : W1.drew.cell? ⟨W0.heap.size, 1, none⟩ = some (.bool eg) := e1
  have e2' : W1.drew.cell? ⟨W0.heap.size, 2, none⟩ = some (.int .u64 (en : Int)) := e2
  have e3' : W1.drew.cell? ⟨W0.heap.size, 3, none⟩ = some (.string es) := e3
  have H1 := Lib.hid (HP.out _ HD1.out)
  clear hR hS' h h1 hb0 hz0 hk0 hb1 hk1 hk2 hb01 hw HP hmv hpz
  go_enter Tryz.func110, Tryz.ntmps110
  go_upto_region 1 with fail
  first | rw [hW0] | skip
  first | rw [hW1] | skip
  clear hW0 hW1
  first
    | go_region_with (go_at_call 145; (with_reducible refine H1.out.mono ?_); rintro x w2 ⟨rfl, ⟨O', hs2, h2⟩, z0⟩)
    | done
  all_goals
    have HF := Lib.hid (And.intro hs2 h2)
    clear hs2 h2
    by_cases h0 : R = 0
    · have hne : ((R : Int) != 0) = false := by simp [h0]
      have HR0 := Lib.hid h0
      clear h0
      go_wp2_with fail
      go_end0
      exact ⟨_, HF.out.1, .inl ⟨HR0.out, rfl, HF.out.2⟩⟩
    · have hne : ((R : Int) != 0) = true := by simp; omega
      have HR0 := Lib.hid h0
      clear h0
      go_wp2_with fail
      with_reducible refine (HRF.out HR0.out _ _ HF.out.2).mono ?_
      rintro r w' ⟨rfl, rfl⟩
      go_wp2_with fail
      exact ⟨rfl, _, HF.out.1, .inr ⟨HR0.out, rfl⟩⟩
end
end Go.Proofs.YtpcladdipgchbaaGreatDoor.nn
namespace Go.Proofs.YtpcladdipgchbaaGreatDoor.nn
open Go.RowKit

/-- the build behind an item -/
def stI (S : Bst) (a : Vc) : Bst := ⟨(addB S.op a.1).1, (addB S.op a.1).2, a.2, S.most⟩
/-- the build with so many values in what is open innermost -/
def stL (p : VT) (rest : List VT) (most : Nat) (z : List VT × Nat) : Bst := ⟨.mk p.k p.g p.n p.s z.1 :: rest, none, z.2, most⟩
theorem may_leaf {S : Bst} {e : Ev} {d : Nat} (hv : S.v = none) (hl : lf e.k = true) (h5 : e.k ≠ 5) (h15 : e.k ≠ 15) (ho : oneB (asked e) = true) (ht : ¬ (tag23 S.op = true ∧ e.k = 9 ∧ big e.s = true)) (hd : S.op.length + d = S.most) : mayB S e = if decide (65536 ≤ S.n) = true then 8 else 0 := by
  unfold mayB
  have hdb := dep_bare e
  rw [if_neg h5, if_pos hl] at hdb
  rw [hv, if_neg (by simp), if_neg h15, if_neg (by rw [ho]; simpa using ht), hdb]
  by_cases hn : 65536 ≤ S.n
  · rw [if_pos (.inr hn), if_pos (by simpa using hn)]
  · rw [if_neg (by omega), if_neg (by simpa using hn)]
theorem may_deep {S : Bst} {e : Ev} {d : Nat} (hv : S.v = none) (hk : e.k = 5 ∨ e.k = 11 ∨ e.k = 12 ∨ e.k = 13) (ho : oneB (asked e) = true) (hd : S.op.length + d = S.most) : mayB S e = if decide (d = 0 ∨ 65536 ≤ S.n) = true then 8 else 0 := by
  unfold mayB
  have hdb : dep (bare e) = 1 := by
    rw [dep_bare]
    by_cases h5 : e.k = 5
    · rw [if_pos h5]
    · rw [if_neg h5, if_neg]
      intro hl
      have := (lf_iff e.k).1 hl
      omega
  rw [hv, if_neg (by simp), if_neg (by omega), if_neg (by rw [ho]; simp; omega), hdb]
  by_cases hn : d = 0 ∨ 65536 ≤ S.n
  · rw [if_pos (by omega), if_pos (by simpa using hn)]
  · rw [if_neg (by omega), if_neg (by simpa using hn)]
theorem put_lf {S : Bst} {e : Ev} (hm : mayB S e = 0) (h15 : e.k ≠ 15) (hl : lf e.k = true) : putB S e = stI S (bare e, S.n + 1) := by
  unfold putB stI
  rw [if_neg (by rw [hm]; simp), if_neg h15, if_pos hl]
theorem put_op {S : Bst} {e : Ev} (hm : mayB S e = 0) (hk : e.k = 11 ∨ e.k = 12 ∨ e.k = 13) : putB S e = ⟨bare e :: S.op, none, S.n + 1, S.most⟩ := by
  unfold putB
  rw [if_neg (by rw [hm]; simp), if_neg (by omega), if_neg (fun hl => by have := (lf_iff e.k).1 hl; omega)]
theorem stI_open {p : VT} {rest : List VT} {most : Nat} {z : List VT × Nat} {t : VT} {c : Nat} (hk : p.k ≠ 13) : stI (stL p rest most z) (t, c) = stL p rest most (z.1 ++ [t], c) := by
  unfold stI stL
  rw [addB_open (show (VT.mk p.k p.g p.n p.s z.1).k ≠ 13 from hk)]
  rfl
theorem stL_self {S : Bst} {p : VT} {rest : List VT} (hop : S.op = p :: rest) (hv : S.v = none) : stL p rest S.most (p.l, S.n) = S := by
  unfold stL
  obtain ⟨op, v, n, most⟩ := S
  simp only at hop hv
  subst hop hv
  cases p
  rfl
section
variable {W W' : World} {q : Nat} {A : Option Addr} {n c : Nat} {f : Nat → Nat} {size : Nat} {mo : Bool} {g i i' : Nat} {O O' : Nat → Prop} {S S' : Bst}
/-- put, where what the build says is a test -/
theorem put_test (h : Rdw W q A n c f size mo g i O S) (s : Hdr) (e : Ev) (hw : wfE e) (b : Bool) (hm : mayB S e = if b = true then 8 else 0) :
    Calls Tryz.prog 110 #[.pointer (some ⟨q, 0, none⟩), stV s, evv e] W fun r W' => ∃ O', Stb q O W O' W' ∧ ((b = false ∧ r = .returned (.tuple #[]) ∧ Rdw W' q A n c f size mo g i O' (putB S e)) ∨ (b = true ∧ r = .panicked [{ v := rfV (s.p : Int) (adj mo 8 : Int), recovered := false }])) := by
  have e8 : adj mo 8 = 8 := by unfold adj; rw [if_neg (by omega)]
  refine (rput_b h s e hw).mono fun r W' ⟨O', h1, h2⟩ => ⟨O', h1, ?_⟩
  rcases h2 with ⟨h2, h3, h4⟩ | ⟨h2, h3⟩
  · refine .inl ⟨?_, h3, h4⟩
    cases b with
    | false => rfl
    | true => rw [h2] at hm; cases hm
  · refine .inr ⟨?_, ?_⟩
    · cases b with
      | false => exact absurd hm h2
      | true => rfl
    · cases b with
      | false => exact absurd hm h2
      | true => rw [h3, hm, e8]; rfl
theorem put_leaf {d : Nat} (h : Rdw W q A n c f size mo g i O S) (hv : S.v = none) (hd : S.op.length + d = S.most) (s : Hdr) (hp : s.p ≤ i) (e : Ev) (hw : wfE e) (hl : lf e.k = true) (h5 : e.k ≠ 5) (h15 : e.k ≠ 15) (ho : oneB (asked e) = true) (ht : ¬ (tag23 S.op = true ∧ e.k = 9 ∧ big e.s = true)) (t : VT) (hb : bare e = t) :
    Calls Tryz.prog 110 #[.pointer (some ⟨q, 0, none⟩), stV s, evv e] W (IAns q A n c f size mo g O (stI S) (lef S.n s.p t f n i) W) := by
  have hm := may_leaf hv hl h5 h15 ho ht hd
  refine (put_test h s e hw _ hm).mono fun r W' ⟨O', h1, h2⟩ => ⟨O', h1, ?_⟩
  rcases h2 with ⟨h2, h3, h4⟩ | ⟨h2, h3⟩
  · have hn : ¬ 65536 ≤ S.n := of_decide_eq_false h2
    rw [h2] at hm
    rw [put_lf hm h15 hl, hb] at h4
    exact .inl ⟨(t, S.n + 1), i, lef_yes (by omega), h3, h4⟩
  · have hn : 65536 ≤ S.n := of_decide_eq_true h2
    exact .inr ⟨s.p, 8, by rw [lef_no hn, Nat.min_eq_left hp], h3⟩
/-- where an item may be read, d levels more may be open -/
def Itm (q : Nat) (A : Option Addr) (n c : Nat) (f : Nat → Nat) (size : Nat) (mo : Bool) (g d : Nat) : Prop :=
  ∀ (W : World) (i : Nat) (O : Nat → Prop) (S : Bst), Rdw W q A n c f size mo g i O S → S.v = none → S.op.length + d = S.most → (tag23 S.op = true → i < n → f i / 32 = 2 → ∀ b k, byi size f n i = .ok b k → big b = false) →
    Calls Tryz.prog 69 #[.pointer (some ⟨q, 0, none⟩)] W (IAns q A n c f size mo g O (stI S) (rdI size d S.n f n i) W)
theorem tag23_open {p : VT} {rest : List VT} (hk : p.k ≠ 13) : ¬ tag23 (p :: rest) = true := by
  rw [tag23_cons]
  exact fun h => hk h.1
set_option maxRecDepth 100000 in
set_option maxHeartbeats 4000000 in
theorem items_any {d : Nat} (hI : Itm q A n c f size mo g d) (m : Nat) (hm : m ≤ 1000000000) (h : Rdw W q A n c f size mo g i O S) {p : VT} {rest : List VT} (hop : S.op = p :: rest) (hk : p.k ≠ 13) (hv : S.v = none) (hd : S.op.length + d = S.most) :
    Calls Tryz.prog 149 #[.pointer (some ⟨q, 0, none⟩), .int .i64 (m : Int)] W (IAns q A n c f size mo g O (stL p rest S.most) (cts (rdI size d) m (p.l, S.n) f n i) W) := by
  have hself := stL_self hop hv
  rw [hop] at hd
  have HI : Hid (∀ W' i' O' z, Rdw W' q A n c f size mo g i' O' (stL p rest S.most z) → Calls Tryz.prog 69 #[.pointer (some ⟨q, 0, none⟩)] W' fun r w' => ∃ O2, Stb q O' W' O2 w' ∧ ((∃ t c' k, rdI size d z.2 f n i' = .ok (t, c') k ∧ r = .returned (.tuple #[]) ∧ Rdw w' q A n c f size mo g k O2 (stL p rest S.most (z.1 ++ [t], c'))) ∨ (∃ p' e, rdI size d z.2 f n i' = .no p' e ∧ r = .panicked [{ v := rfV (p' : Int) (adj mo e : Int), recovered := false }]))) := Lib.hid fun W' i' O' z hh => by
    refine (hI W' i' O' _ hh rfl hd (fun ht => absurd ht (tag23_open hk))).mono fun r w' ⟨O2, h1, h2⟩ => ⟨O2, h1, ?_⟩
    rcases h2 with ⟨⟨t, c'⟩, k, a1, a2, a3⟩ | h2
    · rw [stI_open hk] at a3
      exact .inl ⟨t, c', k, a1, a2, a3⟩
    · exact .inr h2
  have HC : Hid (∀ (j : Nat) (z : List VT × Nat) (i' : Nat), j < m → (∀ p' e, rdI size d z.2 f n i' = .no p' e → cts (rdI size d) (m - j) z f n i' = .no p' e) ∧ (∀ t c' k, rdI size d z.2 f n i' = .ok (t, c') k → cts (rdI size d) (m - j) z f n i' = cts (rdI size d) (m - (j + 1)) (z.1 ++ [t], c') f n k)) := Lib.hid fun j z i' hj => by
    obtain ⟨x, hx⟩ : ∃ x, m - j = x + 1 := ⟨m - j - 1, by omega⟩
    have hx2 : m - (j + 1) = x := by omega
    rw [hx, hx2]
    exact ⟨fun p' e he => bind_no he, fun t c' k he => bind_ok he⟩
  obtain ⟨L, hL⟩ : ∃ L : Nat → List VT × Nat → Nat → Rs (List VT × Nat), L = fun m z i => cts (rdI size d) m z f n i := ⟨_, rfl⟩
  have eL : ∀ m z i, cts (rdI size d) m z f n i = L m z i := fun m z i => by rw [hL]
  have HE : Hid (∀ z i', L 0 z i' = .ok z i') := Lib.hid fun z i' => by rw [← eL]; rfl
  simp only [eL] at HC ⊢
  have H0 : Hid (Stb q O W O W ∧ Rdw W q A n c f size mo g i O (stL p rest S.most (p.l, S.n)) ∧ L m (p.l, S.n) i = L (m - 0) (p.l, S.n) i) := Lib.hid ⟨.below (Below.refl _ _), by rw [hself]; exact h, by rw [Nat.sub_zero]⟩
  clear hL eL h hop hk hv hd hself hI
  go_enter Tryz.func149, Tryz.ntmps149
  go_wp2_with fail
  go_loopg [5] m (fun k s5 wr => ∃ (j i' : Nat) (z : List VT × Nat) (O' : Nat → Prop), s5 = .int .i64 (j : Int) ∧ k = m - j ∧ j ≤ m ∧ Hid (Stb q O W O' wr ∧ Rdw wr q A n c f size mo g i' O' (stL p rest S.most z) ∧ L m (p.l, S.n) i = L (m - j) z i'))
  case atStart => exact ⟨0, i, (p.l, S.n), O, rfl, rfl, Nat.zero_le _, H0⟩
  case round =>
    obtain ⟨j, i', z, O', rfl, hg, hj, hR⟩ := hrel
    by_cases hlt : j < m
    · have hd1 : decide (j < m) = true := decide_eq_true hlt
      have hw : IntKind.i64.wrap ((j : Int) + 1) = (j : Int) + 1 := IntWalk.i64_in _ ⟨by omega, by omega⟩
      have HC2 := Lib.hid (HC.out j z i' hlt)
      go_wp2_with fail
      with_reducible refine (HI.out wr i' O' z hR.out.2.1).mono ?_
      rintro r w2 ⟨O2, hs2, ⟨t, c', k, hh, rfl, h2⟩ | ⟨p', e', hh, rfl⟩⟩
      · have HN : Hid (Stb q O W O2 w2 ∧ Rdw w2 q A n c f size mo g k O2 (stL p rest S.most (z.1 ++ [t], c')) ∧ L m (p.l, S.n) i = L (m - (j + 1)) (z.1 ++ [t], c') k) := Lib.hid ⟨hR.out.1.trans hs2, h2, hR.out.2.2.trans (HC2.out.2 t c' k hh)⟩
        clear hs2 h2 hh hR HC2
        go_wp2_with fail
        go_roundg (m - (j + 1))
        case measure => omega
        case rel => exact ⟨j + 1, k, (z.1 ++ [t], c'), O2, by go_num, rfl, hlt, HN⟩
      · have HN := Lib.hid (And.intro (hR.out.1.trans hs2) (hR.out.2.2.trans (HC2.out.1 p' e' hh)))
        clear hs2 hh hR HC2
        go_wp2_with fail
        exact ⟨rfl, O2, HN.out.1, .inr ⟨p', e', HN.out.2, rfl⟩⟩
    · obtain rfl : j = m := by omega
      have hd1 : decide (j < j) = false := decide_eq_false hlt
      have HN : Hid (L j (p.l, S.n) i = .ok z i') := Lib.hid (by rw [hR.out.2.2, Nat.sub_self]; exact HE.out z i')
      go_wp2_with fail
      go_end0
      exact ⟨O', hR.out.1, .inl ⟨z, i', HN.out, rfl, hR.out.2.1⟩⟩
end
end Go.Proofs.YtpcladdipgchbaaGreatDoor.nn
namespace Go.Proofs.YtpcladdipgchbaaGreatDoor.nn
open Go.RowKit

section
variable {W W' : World} {q : Nat} {A : Option Addr} {n c : Nat} {f : Nat → Nat} {size : Nat} {mo : Bool} {g i i' : Nat} {O O' : Nat → Prop} {S S' : Bst}
/-! what a round does, plain -/
theorem lst_end {r : Nat → Prs Vc} {w : Nat} (hu : ∀ c, Und size (r c)) (hw : 1 ≤ w) {z : List VT × Nat} {j : Nat} (h : j < n) (hb : f j = 255) : lp (fun z => pk (lsb r w z)) z f n j = .ok z (j + 1) := by
  refine lp_out (bdy_lst hu hw) (Nat.le_of_lt h) ?_
  rw [pk_lt h, hb]
  unfold lsb
  rw [if_pos rfl]
  unfold adv
  rw [if_pos h]
theorem lst_round {r : Nat → Prs Vc} {w : Nat} (hu : ∀ c, Und size (r c)) (hw : 1 ≤ w) {z : List VT × Nat} {j : Nat} (hj : j ≤ n) (hb : ¬ (j < n ∧ f j = 255)) :
    (∀ p e, cts r w z f n j = .no p e → lp (fun z => pk (lsb r w z)) z f n j = .no p e) ∧ (∀ z2 k, cts r w z f n j = .ok z2 k → j < k ∧ lp (fun z => pk (lsb r w z)) z f n j = lp (fun z => pk (lsb r w z)) z2 f n k) := by
  by_cases h : j < n
  · have e1 : pk (lsb r w z) f n j = ((cts r w z).bind fun z' => ret (.inl z')) f n j := by
      rw [pk_lt h]
      unfold lsb
      rw [if_neg (fun h2 => hb ⟨h, h2⟩)]
    refine ⟨fun p e he => ?_, fun z2 k he => ⟨cts_lt hu hw hj he, ?_⟩⟩
    · refine lp_err (bdy_lst hu hw) hj ?_
      rw [e1]
      exact bind_no he
    · refine lp_in (bdy_lst hu hw) hj ?_
      rw [e1, bind_ok he]
      rfl
  · obtain rfl : j = n := by omega
    have hn : cts r w z f j j = .no j 3 := by
      obtain ⟨x, rfl⟩ : ∃ x, w = x + 1 := ⟨w - 1, by omega⟩
      exact bind_no (hu z.2).en
    refine ⟨fun p e he => ?_, fun z2 k he => ?_⟩
    · rw [hn] at he
      injection he with h1 h2
      subst h1 h2
      exact lp_err (bdy_lst hu hw) hj (pk_end h)
    · rw [hn] at he
      cases he
theorem cts_len {r : Nat → Prs Vc} : ∀ (m : Nat) {z z' : List VT × Nat} {i k : Nat}, cts r m z f n i = .ok z' k → z'.1.length = z.1.length + m
  | 0, z, z', i, k, h => by injection h with h _; subst h; rfl
  | m + 1, z, z', i, k, h => by
    obtain ⟨a, j, e1, e2⟩ := bind_to h
    rw [cts_len m e2, List.length_append]
    show z.1.length + 1 + m = _
    omega
theorem cts_place {r : Nat → Prs Vc} (hu : ∀ c, Und size (r c)) {m : Nat} {z z' : List VT × Nat} {k : Nat} (hi : i ≤ n) (h : cts r m z f n i = .ok z' k) : k ≤ n := ((dt_cts hu m z).ok hi h).2.1
/-- the event that ends a list or a map -/
theorem end_may {kk : Int} {rest : List VT} {most : Nat} {z : List VT × Nat} {w : Nat} (hk : (kk = 11 ∧ w = 1) ∨ (kk = 12 ∧ w = 2)) (hz : z.1.length % w = 0) :
    mayB (stL (.mk kk false 0 ⟨#[]⟩ []) rest most z) ⟨15, false, 0, ⟨#[]⟩⟩ = 0 ∧ putB (stL (.mk kk false 0 ⟨#[]⟩ []) rest most z) ⟨15, false, 0, ⟨#[]⟩⟩ = stI ⟨rest, none, 0, most⟩ (.mk kk false 0 ⟨#[]⟩ z.1, z.2) := by
  have hm : mayB (stL (.mk kk false 0 ⟨#[]⟩ []) rest most z) ⟨15, false, 0, ⟨#[]⟩⟩ = 0 := by
    unfold mayB stL
    rw [if_neg (by simp), if_pos rfl, if_pos]
    refine ⟨⟨rfl, rfl, rfl⟩, ?_⟩
    unfold endOk
    show (decide (kk = 11) || (decide (kk = 12) && decide (z.1.length % 2 = 0))) = true
    rcases hk with ⟨rfl, _⟩ | ⟨rfl, rfl⟩
    · rfl
    · rw [decide_eq_true hz]; rfl
  refine ⟨hm, ?_⟩
  unfold putB
  rw [if_neg (by rw [hm]; simp), if_pos rfl]
  rfl
theorem stI_op {S : Bst} {a : Vc} (rest : List VT) (m most : Nat) (h1 : rest = S.op) (h2 : most = S.most) : stI ⟨rest, none, m, most⟩ a = stI S a := by
  subst h1 h2
  rfl
theorem wfE_lit {k : Int} (hk : 0 ≤ k ∧ k ≤ 15) {g : Bool} {m : Nat} (hm : m < 18446744073709551616) {s : ByteArray} (hs : s.size ≤ maxLen) : wfE ⟨k, g, m, s⟩ := ⟨by show _ ≤ k; omega, by show k ≤ _; omega, hm, hs⟩
/-- what many reads -/
def mnR (size d : Nat) (kk : Int) (w c : Nat) (s : Hdr) : Prs Vc := (gate (decide (d = 0 ∨ 65536 ≤ c)) s.p).bind fun _ => (lst size (sub size d) w (c + 1) s).bind fun a => ret (.mk kk false 0 ⟨#[]⟩ a.1, a.2)
theorem mn_no {d : Nat} {kk : Int} {w c : Nat} {s : Hdr} (hp : s.p ≤ i) (h : decide (d = 0 ∨ 65536 ≤ c) = true) : mnR size d kk w c s f n i = .no s.p 8 := by
  unfold mnR
  apply bind_no
  unfold gate
  rw [if_pos h, Nat.min_eq_left hp]
theorem mn_yes {d e : Nat} {kk : Int} {w c : Nat} {s : Hdr} (hd : d = e + 1) (h : decide (d = 0 ∨ 65536 ≤ c) = false) : (∀ p er, lst size (rdI size e) w (c + 1) s f n i = .no p er → mnR size d kk w c s f n i = .no p er) ∧ (∀ a k, lst size (rdI size e) w (c + 1) s f n i = .ok a k → mnR size d kk w c s f n i = .ok (.mk kk false 0 ⟨#[]⟩ a.1, a.2) k) := by
  subst hd
  have e1 : mnR size (e + 1) kk w c s f n i = ((lst size (rdI size e) w (c + 1) s).bind fun a => ret (.mk kk false 0 ⟨#[]⟩ a.1, a.2)) f n i := by
    unfold mnR
    rw [bind_ok (gate_yes h)]
    rfl
  rw [e1]
  exact ⟨fun p er he => bind_no he, fun a k he => by rw [bind_ok he]; rfl⟩
/-- what is there when many goes on behind its first event; W1: the world with the head's box, block B -/
structure Mn (W1 : World) (B q : Nat) (A : Option Addr) (n c : Nat) (f : Nat → Nat) (size : Nat) (mo : Bool) (g i : Nat) (O : Nat → Prop) (cs : Array Value) (W' : World) (O' : Nat → Prop) (S' : Bst) : Prop where
  s : Stb q O W1 O' W'
  r : Rdw W' q A n c f size mo g i O' S'
  b : Bk W' B 156 cs
  o : ¬ O B ∧ B < W1.heap.size ∧ B ≠ q
theorem Mn.next {W1 : World} {B : Nat} {cs : Array Value} {W2 : World} {O2 : Nat → Prop} {S2 : Bst} (h : Mn W1 B q A n c f size mo g i O cs W' O' S') (hs : Stb q O' W' O2 W2) (hr : Rdw W2 q A n c f size mo g i' O2 S2) : Mn W1 B q A n c f size mo g i' O cs W2 O2 S2 := by
  have hno : ¬ O' B := fun ho => by
    have := h.o.2.1
    rcases h.s.new _ ho with h1 | h1
    · exact h.o.1 h1
    · omega
  exact ⟨h.s.trans hs, hr, (hs.kept _ h.b.lt hno h.o.2.2).trans h.b, h.o⟩
theorem Rdw.lo (h : Rdw W q A n c f size mo g i O S) : ∀ b, O b → b < W.heap.size := fun b hb => by
  obtain ⟨K, sv, D, g1, _⟩ := h.t
  exact g1.lo _ hb
set_option maxRecDepth 100000 in
set_option maxHeartbeats 4000000 in
theorem many_len {d : Nat} (hI : ∀ e, d = e + 1 → Itm q A n c f size mo g e) (h : Rdw W q A n c f size mo g i O S) (hv : S.v = none) (hd : S.op.length + d = S.most) (s : Hdr) (hp : s.p ≤ i) (hsv : s.v < 18446744073709551616) (hx : s.x ≤ 27) (kk : Int) (w : Nat) (hk : (kk = 11 ∧ w = 1) ∨ (kk = 12 ∧ w = 2)) :
    Calls Tryz.prog 112 #[.pointer (some ⟨q, 0, none⟩), stV s, .int .i64 kk, .int .i64 (w : Int)] W (IAns q A n c f size mo g O (stI S) (mnR size d kk w S.n s f n i) W) := by
  have hsz := h.r.sz
  have hw2 : w = 1 ∨ w = 2 := by omega
  have hk2 : kk = 5 ∨ kk = 11 ∨ kk = 12 ∨ kk = 13 := by omega
  have hx31 : (((s.x : Nat) : Int) == 31) = false := by simp; omega
  obtain ⟨W1, hW1⟩ : ∃ W1, W.alloc (.cells #[.int .i64 (s.p : Int), .int .i64 (s.M : Int), .int .i64 (s.x : Int), .int .u64 (s.v : Int)] 156) = W1 := ⟨_, rfl⟩
  have hb1 : Below W.heap.size W W1 := by rw [← hW1]; exact (Below.refl _ _).alloc (Nat.le_refl _) _
  have hk1 : Bk W1 W.heap.size 156 #[.int .i64 (s.p : Int), .int .i64 (s.M : Int), .int .i64 (s.x : Int), .int .u64 (s.v : Int)] := by rw [← hW1]; exact heap_alloc_last _ _
  have hM0 : Mn W1 W.heap.size q A n c f size mo g i O #[.int .i64 (s.p : Int), .int .i64 (s.M : Int), .int .i64 (s.x : Int), .int .u64 (s.v : Int)] W1 O S := ⟨.below (Below.refl _ _), h.below hb1, hk1, fun ho => by have := h.lo _ ho; omega, hk1.lt, by have := h.r.b.lt; omega⟩
  have HS := Lib.hid (Stb.below (q := q) (O := O) hb1)
  have hoe : oneB (asked ⟨kk, false, 0, ⟨#[]⟩⟩) = true := by
    rcases hk with ⟨rfl, _⟩ | ⟨rfl, _⟩
    · exact one11
    · exact one12 rfl
  have hmd := may_deep (e := ⟨kk, false, 0, ⟨#[]⟩⟩) hv hk2 hoe hd
  have hwf : wfE ⟨kk, false, 0, ⟨#[]⟩⟩ := wfE_lit (by omega) (by omega) (Nat.zero_le _)
  have hwf15 : wfE ⟨15, false, 0, ⟨#[]⟩⟩ := wfE_lit (by omega) (by omega) (Nat.zero_le _)
  have hT : ∀ b, decide (d = 0 ∨ 65536 ≤ S.n) = b → b = false → ∃ e, d = e + 1 := fun b hb h0 => by
    subst h0
    have := of_decide_eq_false hb
    exact ⟨d - 1, by omega⟩
  obtain ⟨T, hTT⟩ : ∃ T, decide (d = 0 ∨ 65536 ≤ S.n) = T := ⟨_, rfl⟩
  rw [hTT] at hmd
  -- the first event
  have HP1 : Hid (Calls Tryz.prog 110 #[.pointer (some ⟨q, 0, none⟩), stV s, .agg #[.int .i64 kk, .bool false, .int .u64 0, .string ⟨#[]⟩]] W1 fun r W' => ∃ O', ((T = false ∧ r = .returned (.tuple #[]) ∧ Mn W1 W.heap.size q A n c f size mo g i O #[.int .i64 (s.p : Int), .int .i64 (s.M : Int), .int .i64 (s.x : Int), .int .u64 (s.v : Int)] W' O' (stL (.mk kk false 0 ⟨#[]⟩ []) S.op S.most ([], S.n + 1))) ∨ (T = true ∧ Stb q O W1 O' W' ∧ r = .panicked [{ v := rfV (s.p : Int) (adj mo 8 : Int), recovered := false }]))) := Lib.hid (by
    refine (put_test (h.below hb1) s ⟨kk, false, 0, ⟨#[]⟩⟩ hwf T hmd).mono fun r W' ⟨O', a1, a2⟩ => ⟨O', ?_⟩
    rcases a2 with ⟨a2, a3, a4⟩ | ⟨a2, a3⟩
    · refine .inl ⟨a2, a3, hM0.next a1 ?_⟩
      rw [a2] at hmd
      rw [put_op hmd (by show kk = 11 ∨ kk = 12 ∨ kk = 13; omega)] at a4
      exact a4
    · exact .inr ⟨a2, a1, a3⟩)
  -- the last one
  have HP2 : Hid (∀ W' O' z j, Mn W1 W.heap.size q A n c f size mo g j O #[.int .i64 (s.p : Int), .int .i64 (s.M : Int), .int .i64 (s.x : Int), .int .u64 (s.v : Int)] W' O' (stL (.mk kk false 0 ⟨#[]⟩ []) S.op S.most z) → z.1.length % w = 0 → Calls Tryz.prog 110 #[.pointer (some ⟨q, 0, none⟩), stV s, .agg #[.int .i64 15, .bool false, .int .u64 0, .string ⟨#[]⟩]] W' fun r w' => r = .returned (.tuple #[]) ∧ ∃ O2, Stb q O W O2 w' ∧ Rdw w' q A n c f size mo g j O2 (stI S (.mk kk false 0 ⟨#[]⟩ z.1, z.2))) := Lib.hid fun W' O' z j hM hz => by
    obtain ⟨e1, e2⟩ := end_may (rest := S.op) (most := S.most) (z := z) hk hz
    refine (rput_b hM.r s ⟨15, false, 0, ⟨#[]⟩⟩ hwf15).mono fun r w' ⟨O2, a1, a2⟩ => ?_
    rcases a2 with ⟨_, a3, a4⟩ | ⟨a2, _⟩
    · rw [e2, stI_op (S := S) _ _ _ rfl rfl] at a4
      exact ⟨a3, O2, HS.out.trans (hM.s.trans a1), a4⟩
    · exact absurd e1 a2
  have HBD : Hid (∀ W' O' S' j, Mn W1 W.heap.size q A n c f size mo g j O #[.int .i64 (s.p : Int), .int .i64 (s.M : Int), .int .i64 (s.x : Int), .int .u64 (s.v : Int)] W' O' S' → Calls Tryz.prog 150 #[.pointer (some ⟨q, 0, none⟩), stV s, .int .i64 (w : Int)] W' fun r w' => ((s.v ≤ (size - j) / w ∧ r = .returned (.tuple #[]) ∧ Mn W1 W.heap.size q A n c f size mo g j O #[.int .i64 (s.p : Int), .int .i64 (s.M : Int), .int .i64 (s.x : Int), .int .u64 (s.v : Int)] w' O' S') ∨ ((size - j) / w < s.v ∧ Stb q O W1 O' w' ∧ r = .panicked [{ v := rfV (s.p : Int) (adj mo 8 : Int), recovered := false }]))) := Lib.hid fun W' O' S' j hM => by
    have e8 : adj mo 8 = 8 := by unfold adj; rw [if_neg (by omega)]
    rw [e8]
    refine (bound_any hM.r.r s w hw2 hsv).mono fun r w' ⟨a1, a2⟩ => ?_
    rcases a2 with ⟨a2, a3⟩ | ⟨a2, a3⟩
    · exact .inl ⟨a2, a3, hM.next (.below a1) (hM.r.below a1)⟩
    · exact .inr ⟨a2, hM.s.trans (.below a1), a3⟩
  have HIT : Hid (∀ e, d = e + 1 → ∀ (W' : World) (O' : Nat → Prop) (j m : Nat), m ≤ 1000000000 → Mn W1 W.heap.size q A n c f size mo g j O #[.int .i64 (s.p : Int), .int .i64 (s.M : Int), .int .i64 (s.x : Int), .int .u64 (s.v : Int)] W' O' (stL (.mk kk false 0 ⟨#[]⟩ []) S.op S.most ([], S.n + 1)) → Calls Tryz.prog 149 #[.pointer (some ⟨q, 0, none⟩), .int .i64 (m : Int)] W' fun r w' => ∃ O2, ((∃ z k, cts (rdI size e) m ([], S.n + 1) f n j = .ok z k ∧ r = .returned (.tuple #[]) ∧ Mn W1 W.heap.size q A n c f size mo g k O #[.int .i64 (s.p : Int), .int .i64 (s.M : Int), .int .i64 (s.x : Int), .int .u64 (s.v : Int)] w' O2 (stL (.mk kk false 0 ⟨#[]⟩ []) S.op S.most z)) ∨ (∃ p' er, cts (rdI size e) m ([], S.n + 1) f n j = .no p' er ∧ Stb q O W1 O2 w' ∧ r = .panicked [{ v := rfV (p' : Int) (adj mo er : Int), recovered := false }]))) := Lib.hid fun e he W' O' j m hm hM => by
    refine (items_any (hI e he) m hm hM.r (p := .mk kk false 0 ⟨#[]⟩ []) (rest := S.op) rfl (by show kk ≠ 13; omega) rfl (by show S.op.length + 1 + e = S.most; omega)).mono fun r w' ⟨O2, a1, a2⟩ => ⟨O2, ?_⟩
    rcases a2 with ⟨z, k, a2, a3, a4⟩ | ⟨p', er, a2, a3⟩
    · exact .inl ⟨z, k, a2, a3, hM.next a1 a4⟩
    · exact .inr ⟨p', er, a2, hM.s.trans a1, a3⟩
  have HRN : Hid (T = true → mnR size d kk w S.n s f n i = .no s.p 8) := Lib.hid fun h0 => mn_no hp (hTT.trans h0)
  have HRY : Hid (T = false → ∀ e, d = e + 1 → ((size - i) / w < s.v → mnR size d kk w S.n s f n i = .no s.p 8) ∧ (s.v ≤ (size - i) / w → (∀ p er, cts (rdI size e) (s.v * w) ([], S.n + 1) f n i = .no p er → mnR size d kk w S.n s f n i = .no p er) ∧ (∀ z k, cts (rdI size e) (s.v * w) ([], S.n + 1) f n i = .ok z k → mnR size d kk w S.n s f n i = .ok (.mk kk false 0 ⟨#[]⟩ z.1, z.2) k ∧ z.1.length % w = 0))) := Lib.hid fun h0 e he => by
    obtain ⟨y1, y2⟩ := mn_yes (f := f) (n := n) (i := i) (size := size) (kk := kk) (w := w) (c := S.n) (s := s) he (hTT.trans h0)
    have e1 : lst size (rdI size e) w (S.n + 1) s f n i = ((bnd size s.p s.v w).bind fun _ => cts (rdI size e) (s.v * w) ([], S.n + 1)) f n i := by
      unfold lst
      rw [if_neg (by omega)]
    refine ⟨fun hl => y1 _ _ ?_, fun hl => ⟨fun p er he => y1 _ _ ?_, fun z k he => ⟨y2 _ _ ?_, ?_⟩⟩⟩
    · rw [e1]
      apply bind_no
      unfold bnd
      rw [if_pos hl, Nat.min_eq_left hp]
    · rw [e1, bind_ok (bnd_yes hl)]
      exact he
    · rw [e1, bind_ok (bnd_yes hl)]
      exact he
    · rw [cts_len _ he]
      show (0 + s.v * w) % w = 0
      rw [Nat.zero_add, Nat.mul_mod_left]
  have HTE : Hid (T = false → ∃ e, d = e + 1) := Lib.hid (hT T hTT)
  obtain ⟨R, hR⟩ : ∃ R, mnR size d kk w S.n s f n i = R := ⟨_, rfl⟩
  rw [hR] at HRN HRY ⊢
  have hdiv : (size - i) / w ≤ 1048576 := Nat.le_trans (Nat.div_le_self _ _) (by omega)
  obtain ⟨Dv, hDv⟩ : ∃ Dv, (size - i) / w = Dv := ⟨_, rfl⟩
  rw [hDv] at hdiv HRY
  have HDV := Lib.hid hDv
  obtain ⟨d0, d1, d2, d3⟩ := hk1.c4
  obtain ⟨p, M, x, v⟩ := s
  unfold stV at HP1 HP2 HBD ⊢
  dsimp only at hx31 hW1 HP1 HP2 HBD HIT HRN HRY d0 d1 d2 d3 hsv ⊢
  clear hI h hv hd hp hx hk hk2 hb1 hk1 hM0 hoe hmd hwf hwf15 hT hTT hR hDv
  go_enter Tryz.func112, Tryz.ntmps112
  go_upto_region 1 with fail
  first | rw [hW1] | skip
  clear hW1
  go_wp2_with fail
  with_reducible refine HP1.out.mono ?_
  rintro r w2 ⟨O2, ⟨hT0, rfl, hM2⟩ | ⟨hT1, hs2, rfl⟩⟩
  · obtain ⟨e, he⟩ := HTE.out hT0
    obtain ⟨z0, z1, z2, z3⟩ := hM2.b.c4
    have HM2 := Lib.hid hM2
    have HY := Lib.hid (HRY.out hT0 e he)
    have HE := Lib.hid (HIT.out e he)
    clear hM2 HRY HRN HIT HP1 he hT0
    go_wp2_with fail
    with_reducible refine (HBD.out _ _ _ _ HM2.out).mono ?_
    rintro r w3 (⟨hle, rfl, hM3⟩ | ⟨hlt, hs3, rfl⟩)
    · rw [HDV.out] at hle
      obtain ⟨y0, y1, y2, y3⟩ := hM3.b.c4
      have hvw : IntKind.i64.wrap (v : Int) = (v : Int) := IntWalk.i64_in _ ⟨by omega, by omega⟩
      have hmul : IntKind.i64.wrap ((v : Int) * (w : Int)) = ((v * w : Nat) : Int) := by
        rcases hw2 with rfl | rfl
        · rw [IntWalk.i64_in _ ⟨by omega, by omega⟩]; omega
        · rw [IntWalk.i64_in _ ⟨by omega, by omega⟩]; omega
      have hvw2 : v * w ≤ 1000000000 := by
        rcases hw2 with rfl | rfl <;> omega
      obtain ⟨vw, hvw3⟩ : ∃ vw, v * w = vw := ⟨_, rfl⟩
      rw [hvw3] at hmul hvw2 HY
      have HM3 := Lib.hid hM3
      have HYL := Lib.hid (HY.out.2 hle)
      have H5 := Lib.hid (HE.out w3 O2 i vw hvw2 hM3)
      clear hM3 hle HY HE hvw3 HM2
      go_wp2_with fail
      with_reducible refine H5.out.mono ?_
      rintro r w4 ⟨O4, ⟨z, k, hz, rfl, hM4⟩ | ⟨p', er, hz, hs4, rfl⟩⟩
      · obtain ⟨q1, q2⟩ := HYL.out.2 z k hz
        obtain ⟨x0, x1, x2, x3⟩ := hM4.b.c4
        have HQ1 := Lib.hid q1
        have H6 := Lib.hid (HP2.out w4 O4 z k hM4 q2)
        clear hM4 hz q1 q2 HM3 H5 HP2 HBD
        go_wp2_with fail
        with_reducible refine H6.out.mono ?_
        rintro r w5 ⟨rfl, O5, hs5, h5⟩
        have HF := Lib.hid (And.intro hs5 h5)
        clear hs5 h5
        go_wp2_with fail
        go_end0
        exact ⟨O5, HF.out.1, .inl ⟨_, k, HQ1.out, rfl, HF.out.2⟩⟩
      · have HF := Lib.hid (And.intro (HS.out.trans hs4) (HYL.out.1 p' er hz))
        clear hs4 hz HM3 H5
        go_wp2_with fail
        exact ⟨rfl, O4, HF.out.1, .inr ⟨p', er, HF.out.2, rfl⟩⟩
    · rw [HDV.out] at hlt
      have HF := Lib.hid (And.intro (HS.out.trans hs3) (HY.out.1 hlt))
      clear hs3 hlt HM2 HY HE
      go_wp2_with fail
      exact ⟨rfl, _, HF.out.1, .inr ⟨p, 8, HF.out.2, rfl⟩⟩
  · have HF := Lib.hid (And.intro (HS.out.trans hs2) (HRN.out hT1))
    clear hs2 HRN HRY HIT HP1
    go_wp2_with fail
    exact ⟨rfl, O2, HF.out.1, .inr ⟨p, 8, HF.out.2, rfl⟩⟩
end
end Go.Proofs.YtpcladdipgchbaaGreatDoor.nn
namespace Go.Proofs.YtpcladdipgchbaaGreatDoor.nn
open Go.RowKit

section
variable {W W' : World} {q : Nat} {A : Option Addr} {n c : Nat} {f : Nat → Nat} {size : Nat} {mo : Bool} {g i i' : Nat} {O O' : Nat → Prop} {S S' : Bst}
set_option maxRecDepth 100000 in
set_option maxHeartbeats 4000000 in
theorem many_open {d : Nat} (hI : ∀ e, d = e + 1 → Itm q A n c f size mo g e) (h : Rdw W q A n c f size mo g i O S) (hv : S.v = none) (hd : S.op.length + d = S.most) (s : Hdr) (hp : s.p ≤ i) (hx : s.x = 31) (kk : Int) (w : Nat) (hk : (kk = 11 ∧ w = 1) ∨ (kk = 12 ∧ w = 2)) :
    Calls Tryz.prog 112 #[.pointer (some ⟨q, 0, none⟩), stV s, .int .i64 kk, .int .i64 (w : Int)] W (IAns q A n c f size mo g O (stI S) (mnR size d kk w S.n s f n i) W) := by
  have hsz := h.r.sz
  have hw2 : w = 1 ∨ w = 2 := by omega
  have hk2 : kk = 5 ∨ kk = 11 ∨ kk = 12 ∨ kk = 13 := by omega
  have hx31 : (((s.x : Nat) : Int) == 31) = true := by simp; omega
  obtain ⟨W1, hW1⟩ : ∃ W1, W.alloc (.cells #[.int .i64 (s.p : Int), .int .i64 (s.M : Int), .int .i64 (s.x : Int), .int .u64 (s.v : Int)] 156) = W1 := ⟨_, rfl⟩
  have hb1 : Below W.heap.size W W1 := by rw [← hW1]; exact (Below.refl _ _).alloc (Nat.le_refl _) _
  have hk1 : Bk W1 W.heap.size 156 #[.int .i64 (s.p : Int), .int .i64 (s.M : Int), .int .i64 (s.x : Int), .int .u64 (s.v : Int)] := by rw [← hW1]; exact heap_alloc_last _ _
  have hM0 : Mn W1 W.heap.size q A n c f size mo g i O #[.int .i64 (s.p : Int), .int .i64 (s.M : Int), .int .i64 (s.x : Int), .int .u64 (s.v : Int)] W1 O S := ⟨.below (Below.refl _ _), h.below hb1, hk1, fun ho => by have := h.lo _ ho; omega, hk1.lt, by have := h.r.b.lt; omega⟩
  have HS := Lib.hid (Stb.below (q := q) (O := O) hb1)
  have hoe : oneB (asked ⟨kk, false, 0, ⟨#[]⟩⟩) = true := by
    rcases hk with ⟨rfl, _⟩ | ⟨rfl, _⟩
    · exact one11
    · exact one12 rfl
  have hmd := may_deep (e := ⟨kk, false, 0, ⟨#[]⟩⟩) hv hk2 hoe hd
  have hwf : wfE ⟨kk, false, 0, ⟨#[]⟩⟩ := wfE_lit (by omega) (by omega) (Nat.zero_le _)
  have hwf15 : wfE ⟨15, false, 0, ⟨#[]⟩⟩ := wfE_lit (by omega) (by omega) (Nat.zero_le _)
  have hT : ∀ b, decide (d = 0 ∨ 65536 ≤ S.n) = b → b = false → ∃ e, d = e + 1 := fun b hb h0 => by
    subst h0
    have := of_decide_eq_false hb
    exact ⟨d - 1, by omega⟩
  obtain ⟨T, hTT⟩ : ∃ T, decide (d = 0 ∨ 65536 ≤ S.n) = T := ⟨_, rfl⟩
  rw [hTT] at hmd
  -- the first event
  have HP1 : Hid (Calls Tryz.prog 110 #[.pointer (some ⟨q, 0, none⟩), stV s, .agg #[.int .i64 kk, .bool false, .int .u64 0, .string ⟨#[]⟩]] W1 fun r W' => ∃ O', ((T = false ∧ r = .returned (.tuple #[]) ∧ Mn W1 W.heap.size q A n c f size mo g i O #[.int .i64 (s.p : Int), .int .i64 (s.M : Int), .int .i64 (s.x : Int), .int .u64 (s.v : Int)] W' O' (stL (.mk kk false 0 ⟨#[]⟩ []) S.op S.most ([], S.n + 1))) ∨ (T = true ∧ Stb q O W1 O' W' ∧ r = .panicked [{ v := rfV (s.p : Int) (adj mo 8 : Int), recovered := false }]))) := Lib.hid (by
    refine (put_test (h.below hb1) s ⟨kk, false, 0, ⟨#[]⟩⟩ hwf T hmd).mono fun r W' ⟨O', a1, a2⟩ => ⟨O', ?_⟩
    rcases a2 with ⟨a2, a3, a4⟩ | ⟨a2, a3⟩
    · refine .inl ⟨a2, a3, hM0.next a1 ?_⟩
      rw [a2] at hmd
      rw [put_op hmd (by show kk = 11 ∨ kk = 12 ∨ kk = 13; omega)] at a4
      exact a4
    · exact .inr ⟨a2, a1, a3⟩)
  -- the last one
  have HP2 : Hid (∀ W' O' z j, Mn W1 W.heap.size q A n c f size mo g j O #[.int .i64 (s.p : Int), .int .i64 (s.M : Int), .int .i64 (s.x : Int), .int .u64 (s.v : Int)] W' O' (stL (.mk kk false 0 ⟨#[]⟩ []) S.op S.most z) → z.1.length % w = 0 → Calls Tryz.prog 110 #[.pointer (some ⟨q, 0, none⟩), stV s, .agg #[.int .i64 15, .bool false, .int .u64 0, .string ⟨#[]⟩]] W' fun r w' => r = .returned (.tuple #[]) ∧ ∃ O2, Stb q O W O2 w' ∧ Rdw w' q A n c f size mo g j O2 (stI S (.mk kk false 0 ⟨#[]⟩ z.1, z.2))) := Lib.hid fun W' O' z j hM hz => by
    obtain ⟨e1, e2⟩ := end_may (rest := S.op) (most := S.most) (z := z) hk hz
    refine (rput_b hM.r s ⟨15, false, 0, ⟨#[]⟩⟩ hwf15).mono fun r w' ⟨O2, a1, a2⟩ => ?_
    rcases a2 with ⟨_, a3, a4⟩ | ⟨a2, _⟩
    · rw [e2, stI_op (S := S) _ _ _ rfl rfl] at a4
      exact ⟨a3, O2, HS.out.trans (hM.s.trans a1), a4⟩
    · exact absurd e1 a2
  have HEN : Hid (∀ W' O' z j, Mn W1 W.heap.size q A n c f size mo g j O #[.int .i64 (s.p : Int), .int .i64 (s.M : Int), .int .i64 (s.x : Int), .int .u64 (s.v : Int)] W' O' (stL (.mk kk false 0 ⟨#[]⟩ []) S.op S.most z) → Calls Tryz.prog 147 #[.pointer (some ⟨q, 0, none⟩)] W' fun r w' => ((j < n ∧ f j = 255 ∧ r = .returned (.bool true) ∧ Mn W1 W.heap.size q A n c f size mo g (j + 1) O #[.int .i64 (s.p : Int), .int .i64 (s.M : Int), .int .i64 (s.x : Int), .int .u64 (s.v : Int)] w' O' (stL (.mk kk false 0 ⟨#[]⟩ []) S.op S.most z)) ∨ (¬ (j < n ∧ f j = 255) ∧ r = .returned (.bool false) ∧ Mn W1 W.heap.size q A n c f size mo g j O #[.int .i64 (s.p : Int), .int .i64 (s.M : Int), .int .i64 (s.x : Int), .int .u64 (s.v : Int)] w' O' (stL (.mk kk false 0 ⟨#[]⟩ []) S.op S.most z)))) := Lib.hid fun W' O' z j hM => by
    refine (ends_any hM.r.r).mono fun r w' ⟨a1, a2⟩ => ?_
    rcases a2 with ⟨b1, b2, b3, b4⟩ | ⟨b1, b2, b3⟩
    · exact .inl ⟨b1, b2, b3, hM.next (.of a1) (hM.r.stp a1 b4)⟩
    · exact .inr ⟨b1, b2, hM.next (.of a1) (hM.r.stp a1 b3)⟩
  have HIT : Hid (∀ e, d = e + 1 → ∀ (W' : World) (O' : Nat → Prop) (j : Nat) (z : List VT × Nat), Mn W1 W.heap.size q A n c f size mo g j O #[.int .i64 (s.p : Int), .int .i64 (s.M : Int), .int .i64 (s.x : Int), .int .u64 (s.v : Int)] W' O' (stL (.mk kk false 0 ⟨#[]⟩ []) S.op S.most z) → Calls Tryz.prog 149 #[.pointer (some ⟨q, 0, none⟩), .int .i64 (w : Int)] W' fun r w' => ∃ O2, ((∃ z2 k, cts (rdI size e) w z f n j = .ok z2 k ∧ r = .returned (.tuple #[]) ∧ Mn W1 W.heap.size q A n c f size mo g k O #[.int .i64 (s.p : Int), .int .i64 (s.M : Int), .int .i64 (s.x : Int), .int .u64 (s.v : Int)] w' O2 (stL (.mk kk false 0 ⟨#[]⟩ []) S.op S.most z2)) ∨ (∃ p' er, cts (rdI size e) w z f n j = .no p' er ∧ Stb q O W1 O2 w' ∧ r = .panicked [{ v := rfV (p' : Int) (adj mo er : Int), recovered := false }]))) := Lib.hid fun e he W' O' j z hM => by
    refine (items_any (hI e he) w (by omega) hM.r (p := .mk kk false 0 ⟨#[]⟩ z.1) (rest := S.op) rfl (by show kk ≠ 13; omega) rfl (by show S.op.length + 1 + e = S.most; omega)).mono fun r w' ⟨O2, a1, a2⟩ => ⟨O2, ?_⟩
    rcases a2 with ⟨z2, k, a2, a3, a4⟩ | ⟨p', er, a2, a3⟩
    · exact .inl ⟨z2, k, a2, a3, hM.next a1 a4⟩
    · exact .inr ⟨p', er, a2, hM.s.trans a1, a3⟩
  have HRN : Hid (T = true → mnR size d kk w S.n s f n i = .no s.p 8) := Lib.hid fun h0 => mn_no hp (hTT.trans h0)
  have HRY : Hid (T = false → ∀ e, d = e + 1 → (∀ p er, lp (fun z => pk (lsb (rdI size e) w z)) ([], S.n + 1) f n i = .no p er → mnR size d kk w S.n s f n i = .no p er) ∧ (∀ z k, lp (fun z => pk (lsb (rdI size e) w z)) ([], S.n + 1) f n i = .ok z k → mnR size d kk w S.n s f n i = .ok (.mk kk false 0 ⟨#[]⟩ z.1, z.2) k)) := Lib.hid fun h0 e he => by
    obtain ⟨y1, y2⟩ := mn_yes (f := f) (n := n) (i := i) (size := size) (kk := kk) (w := w) (c := S.n) (s := s) he (hTT.trans h0)
    have e1 : lst size (rdI size e) w (S.n + 1) s f n i = lp (fun z => pk (lsb (rdI size e) w z)) ([], S.n + 1) f n i := by
      unfold lst
      rw [if_pos hx]
    rw [e1] at y1 y2
    exact ⟨y1, y2⟩
  have HLE : Hid (∀ e z j, j < n → f j = 255 → lp (fun z => pk (lsb (rdI size e) w z)) z f n j = .ok z (j + 1)) := Lib.hid fun e z j h1 h2 => lst_end (rdI_un size e) (by omega) h1 h2
  have HLR : Hid (∀ e z j, j ≤ n → ¬ (j < n ∧ f j = 255) → (∀ p er, cts (rdI size e) w z f n j = .no p er → lp (fun z => pk (lsb (rdI size e) w z)) z f n j = .no p er) ∧ (∀ z2 k, cts (rdI size e) w z f n j = .ok z2 k → j < k ∧ k ≤ n ∧ z2.1.length = z.1.length + w ∧ lp (fun z => pk (lsb (rdI size e) w z)) z f n j = lp (fun z => pk (lsb (rdI size e) w z)) z2 f n k)) := Lib.hid fun e z j h1 h2 => by
    obtain ⟨y1, y2⟩ := lst_round (r := rdI size e) (w := w) (z := z) (rdI_un size e) (by omega) h1 h2
    exact ⟨y1, fun z2 k hz => ⟨(y2 z2 k hz).1, cts_place (rdI_un size e) h1 hz, cts_len _ hz, (y2 z2 k hz).2⟩⟩
  have HTE : Hid (T = false → ∃ e, d = e + 1) := Lib.hid (hT T hTT)
  obtain ⟨R, hR⟩ : ∃ R, mnR size d kk w S.n s f n i = R := ⟨_, rfl⟩
  rw [hR] at HRN HRY ⊢
  have hin := h.r.i
  obtain ⟨d0, d1, d2, d3⟩ := hk1.c4
  obtain ⟨p, M, x, v⟩ := s
  unfold stV at HP1 HP2 ⊢
  dsimp only at hx31 hW1 HP1 HP2 HIT HEN HRN HRY d0 d1 d2 d3 ⊢
  clear hI h hv hd hp hx hk hk2 hb1 hk1 hM0 hoe hmd hwf hwf15 hT hTT hR
  go_enter Tryz.func112, Tryz.ntmps112
  go_upto_region 1 with fail
  first | rw [hW1] | skip
  clear hW1
  go_wp2_with fail
  with_reducible refine HP1.out.mono ?_
  rintro r w2 ⟨O2, ⟨hT0, rfl, hM2⟩ | ⟨hT1, hs2, rfl⟩⟩
  · obtain ⟨e, he⟩ := HTE.out hT0
    obtain ⟨z0, z1, z2, z3⟩ := hM2.b.c4
    have HY := Lib.hid (HRY.out hT0 e he)
    have HE := Lib.hid (HIT.out e he)
    have HLE2 := Lib.hid (HLE.out e)
    have HLR2 := Lib.hid (HLR.out e)
    obtain ⟨L, hL⟩ : ∃ L : List VT × Nat → Nat → Rs (List VT × Nat), L = fun z j => lp (fun z => pk (lsb (rdI size e) w z)) z f n j := ⟨_, rfl⟩
    have eL : ∀ z j, lp (fun z => pk (lsb (rdI size e) w z)) z f n j = L z j := fun z j => by rw [hL]
    simp only [eL] at HY HLE2 HLR2
    have HM2 : Hid (Mn W1 W.heap.size q A n c f size mo g i O #[.int .i64 (p : Int), .int .i64 (M : Int), .int .i64 (x : Int), .int .u64 (v : Int)] w2 O2 (stL (.mk kk false 0 ⟨#[]⟩ []) S.op S.most ([], S.n + 1)) ∧ L ([], S.n + 1) i = L ([], S.n + 1) i) := Lib.hid ⟨hM2, rfl⟩
    have hz0 : ([] : List VT).length % w = 0 := Nat.zero_mod _
    clear hM2 HRY HRN HIT HP1 he hT0 HLE HLR eL hL
    go_wp2_with fail
    go_loopg [17] (n - i) (fun k _ wr => ∃ (z : List VT × Nat) (j : Nat) (O' : Nat → Prop), k = n - j ∧ j ≤ n ∧ z.1.length % w = 0 ∧ Hid (Mn W1 W.heap.size q A n c f size mo g j O #[.int .i64 (p : Int), .int .i64 (M : Int), .int .i64 (x : Int), .int .u64 (v : Int)] wr O' (stL (.mk kk false 0 ⟨#[]⟩ []) S.op S.most z) ∧ L ([], S.n + 1) i = L z j))
    case atStart => exact ⟨([], S.n + 1), i, O2, rfl, hin, hz0, Lib.hid ⟨HM2.out.1, rfl⟩⟩
    case round =>
      obtain ⟨z, j, O', hg, hj, hz, hR⟩ := hrel
      go_wp2_with fail
      with_reducible refine (HEN.out _ _ _ _ hR.out.1).mono ?_
      rintro r w3 (⟨hlt, h255, rfl, hM3⟩ | ⟨hno, rfl, hM3⟩)
      · obtain ⟨y0, y1, y2, y3⟩ := hM3.b.c4
        have HQ := Lib.hid (HY.out.2 z (j + 1) (hR.out.2.trans (HLE2.out z j hlt h255)))
        have H6 := Lib.hid (HP2.out w3 O' z (j + 1) hM3 hz)
        clear hM3 h255 hlt
        go_wp2_with fail
        with_reducible refine H6.out.mono ?_
        rintro r w5 ⟨rfl, O5, hs5, h5⟩
        have HF := Lib.hid (And.intro hs5 h5)
        clear hs5 h5
        go_wp2_with fail
        go_end0
        exact ⟨O5, HF.out.1, .inl ⟨_, j + 1, HQ.out, rfl, HF.out.2⟩⟩
      · have HR3 := Lib.hid (HLR2.out z j hj hno)
        have H5 := Lib.hid (HE.out w3 O' j z hM3)
        clear hM3 hno
        go_wp2_with fail
        with_reducible refine H5.out.mono ?_
        rintro r w4 ⟨O4, ⟨z2, k, hz2, rfl, hM4⟩ | ⟨p', er, hz2, hs4, rfl⟩⟩
        · obtain ⟨q1, q2, q3, q4⟩ := HR3.out.2 z2 k hz2
          have hz3 : z2.1.length % w = 0 := by rw [q3, Nat.add_mod_right]; exact hz
          have HN : Hid (Mn W1 W.heap.size q A n c f size mo g k O #[.int .i64 (p : Int), .int .i64 (M : Int), .int .i64 (x : Int), .int .u64 (v : Int)] w4 O4 (stL (.mk kk false 0 ⟨#[]⟩ []) S.op S.most z2) ∧ L ([], S.n + 1) i = L z2 k) := Lib.hid ⟨hM4, hR.out.2.trans q4⟩
          clear hM4 hz2 q4 hR HR3 H5
          go_wp2_with fail
          go_roundg (n - k)
          case measure => omega
          case rel => exact ⟨z2, k, O4, rfl, q2, hz3, HN⟩
        · have HF := Lib.hid (And.intro (HS.out.trans hs4) (HY.out.1 p' er (hR.out.2.trans (HR3.out.1 p' er hz2))))
          clear hs4 hz2 hR HR3 H5
          go_wp2_with fail
          exact ⟨rfl, O4, HF.out.1, .inr ⟨p', er, HF.out.2, rfl⟩⟩
  · have HF := Lib.hid (And.intro (HS.out.trans hs2) (HRN.out hT1))
    clear hs2 HRN HRY HIT HP1
    go_wp2_with fail
    exact ⟨rfl, O2, HF.out.1, .inr ⟨p, 8, HF.out.2, rfl⟩⟩
theorem many_any {d : Nat} (hI : ∀ e, d = e + 1 → Itm q A n c f size mo g e) (h : Rdw W q A n c f size mo g i O S) (hv : S.v = none) (hd : S.op.length + d = S.most) (s : Hdr) (hp : s.p ≤ i) (hsv : s.v < 18446744073709551616) (hx : s.x ≤ 27 ∨ s.x = 31) (kk : Int) (w : Nat) (hk : (kk = 11 ∧ w = 1) ∨ (kk = 12 ∧ w = 2)) :
    Calls Tryz.prog 112 #[.pointer (some ⟨q, 0, none⟩), stV s, .int .i64 kk, .int .i64 (w : Int)] W (IAns q A n c f size mo g O (stI S) (mnR size d kk w S.n s f n i) W) := by
  rcases hx with hx | hx
  · exact many_len hI h hv hd s hp hsv hx kk w hk
  · exact many_open hI h hv hd s hp hx kk w hk
end
end Go.Proofs.YtpcladdipgchbaaGreatDoor.nn
namespace Go.Proofs.YtpcladdipgchbaaGreatDoor.nn
open Go.RowKit

section
variable {W W' : World} {q : Nat} {A : Option Addr} {n c : Nat} {f : Nat → Nat} {size : Nat} {mo : Bool} {g i i' : Nat} {O O' : Nat → Prop} {S S' : Bst}
/-- what tag reads -/
def tgR (size d c : Nat) (s : Hdr) : Prs Vc := (gate (decide (d = 0 ∨ 65536 ≤ c)) s.p).bind fun _ => tgd size (sub size d) c s
theorem tg_no {d c : Nat} {s : Hdr} (hp : s.p ≤ i) (h : decide (d = 0 ∨ 65536 ≤ c) = true) : tgR size d c s f n i = .no s.p 8 := by
  unfold tgR
  apply bind_no
  unfold gate
  rw [if_pos h, Nat.min_eq_left hp]
theorem tg_big {d c : Nat} {s : Hdr} {b : ByteArray} {k : Nat} (h : decide (d = 0 ∨ 65536 ≤ c) = false) (hs : s.v = 2 ∨ s.v = 3) (hl : lkR size f n i = some (b, k)) : tgR size d c s f n i = .ok (.mk 5 (decide (s.v = 3)) 0 b [], c + 1) k := by
  unfold tgR
  rw [bind_ok (gate_yes h)]
  unfold tgd
  rw [if_pos hs]
  exact (lk_some _ _ hl).1
theorem tg_tag {d e c : Nat} {s : Hdr} (hd : d = e + 1) (h : decide (d = 0 ∨ 65536 ≤ c) = false) (hl : s.v = 2 ∨ s.v = 3 → lkR size f n i = none) : (∀ p er, rdI size e (c + 1) f n i = .no p er → tgR size d c s f n i = .no p er) ∧ (∀ t c' k, rdI size e (c + 1) f n i = .ok (t, c') k → tgR size d c s f n i = .ok (.mk 13 false s.v ⟨#[]⟩ [t], c') k) := by
  subst hd
  have e1 : tgR size (e + 1) c s f n i = tgT (rdI size e) c s f n i := by
    unfold tgR
    rw [bind_ok (gate_yes h)]
    unfold tgd
    by_cases h23 : s.v = 2 ∨ s.v = 3
    · rw [if_pos h23]
      exact lk_none _ _ (hl h23)
    · rw [if_neg h23]
      rfl
  rw [e1]
  exact ⟨fun p er he => bind_no he, fun t c' k he => by unfold tgT; rw [bind_ok he]; rfl⟩
theorem one_tag {v : Nat} : oneB (asked ⟨13, false, v, ⟨#[]⟩⟩) = true := by
  show (sE (.mk 13 false v ⟨#[]⟩ [emp]) && true && true && !guise v [emp]) = true
  rw [dsE]
  have : guise v [emp] = false := by
    unfold guise emp
    simp [VT.k]
  rw [this]
  rfl
theorem stI_tag {S : Bst} {v m : Nat} {t : VT} {c : Nat} : stI ⟨.mk 13 false v ⟨#[]⟩ [] :: S.op, none, m, S.most⟩ (t, c) = stI S (.mk 13 false v ⟨#[]⟩ [t], c) := by
  unfold stI
  rw [addB_tag (show (VT.mk 13 false v ⟨#[]⟩ []).k = 13 from rfl)]
  rfl
set_option maxRecDepth 100000 in
set_option maxHeartbeats 4000000 in
theorem tag_any {d : Nat} (hI : ∀ e, d = e + 1 → Itm q A n c f size mo g e) (h : Rdw W q A n c f size mo g i O S) (hv : S.v = none) (hd : S.op.length + d = S.most) (s : Hdr) (hp : s.p ≤ i) (hsv : s.v < 18446744073709551616) :
    Calls Tryz.prog 113 #[.pointer (some ⟨q, 0, none⟩), stV s] W (IAns q A n c f size mo g O (stI S) (tgR size d S.n s f n i) W) := by
  obtain ⟨W1, hW1⟩ : ∃ W1, W.alloc (.cells #[.int .i64 (s.p : Int), .int .i64 (s.M : Int), .int .i64 (s.x : Int), .int .u64 (s.v : Int)] 156) = W1 := ⟨_, rfl⟩
  have hb1 : Below W.heap.size W W1 := by rw [← hW1]; exact (Below.refl _ _).alloc (Nat.le_refl _) _
  have hk1 : Bk W1 W.heap.size 156 #[.int .i64 (s.p : Int), .int .i64 (s.M : Int), .int .i64 (s.x : Int), .int .u64 (s.v : Int)] := by rw [← hW1]; exact heap_alloc_last _ _
  have hM0 : Mn W1 W.heap.size q A n c f size mo g i O #[.int .i64 (s.p : Int), .int .i64 (s.M : Int), .int .i64 (s.x : Int), .int .u64 (s.v : Int)] W1 O S := ⟨.below (Below.refl _ _), h.below hb1, hk1, fun ho => by have := h.lo _ ho; omega, hk1.lt, by have := h.r.b.lt; omega⟩
  have HS := Lib.hid (Stb.below (q := q) (O := O) hb1)
  have hsz := h.r.sz
  have hmt := may_deep (e := ⟨13, false, s.v, ⟨#[]⟩⟩) hv (.inr (.inr (.inr rfl))) one_tag hd
  obtain ⟨T, hTT⟩ : ∃ T, decide (d = 0 ∨ 65536 ≤ S.n) = T := ⟨_, rfl⟩
  rw [hTT] at hmt
  have HTE : Hid (T = false → ∃ e, d = e + 1) := Lib.hid fun h0 => by
    subst h0
    have := of_decide_eq_false hTT
    exact ⟨d - 1, by omega⟩
  -- a number's bytes
  have HPB : Hid (∀ W' O' j b, Mn W1 W.heap.size q A n c f size mo g j O #[.int .i64 (s.p : Int), .int .i64 (s.M : Int), .int .i64 (s.x : Int), .int .u64 (s.v : Int)] W' O' S → big b = true → Calls Tryz.prog 110 #[.pointer (some ⟨q, 0, none⟩), stV s, .agg #[.int .i64 5, .bool (decide (s.v = 3)), .int .u64 0, .string b]] W' fun r w' => ∃ O2, Stb q O W1 O2 w' ∧ ((T = false ∧ r = .returned (.tuple #[]) ∧ Rdw w' q A n c f size mo g j O2 (stI S (.mk 5 (decide (s.v = 3)) 0 b [], S.n + 1))) ∨ (T = true ∧ r = .panicked [{ v := rfV (s.p : Int) (adj mo 8 : Int), recovered := false }]))) := Lib.hid fun W' O' j b hM hbg => by
    have hbs : b.size ≤ 512 := by
      unfold big at hbg
      have := of_decide_eq_true hbg
      omega
    have hmb := may_deep (e := ⟨5, decide (s.v = 3), 0, b⟩) hv (.inl rfl) (one5 hbg) hd
    rw [hTT] at hmb
    refine (put_test hM.r s ⟨5, decide (s.v = 3), 0, b⟩ (wfE_lit (by omega) (by omega) (by unfold maxLen; omega)) T hmb).mono fun r w' ⟨O2, a1, a2⟩ => ⟨O2, hM.s.trans a1, ?_⟩
    rcases a2 with ⟨a2, a3, a4⟩ | ⟨a2, a3⟩
    · rw [a2] at hmb
      rw [put_lf hmb (show (5 : Int) ≠ 15 by decide) rfl] at a4
      exact .inl ⟨a2, a3, a4⟩
    · exact .inr ⟨a2, a3⟩
  -- the tag
  have HPT : Hid (∀ W' O', Mn W1 W.heap.size q A n c f size mo g i O #[.int .i64 (s.p : Int), .int .i64 (s.M : Int), .int .i64 (s.x : Int), .int .u64 (s.v : Int)] W' O' S → Calls Tryz.prog 110 #[.pointer (some ⟨q, 0, none⟩), stV s, .agg #[.int .i64 13, .bool false, .int .u64 (s.v : Int), .string ⟨#[]⟩]] W' fun r w' => ∃ O2, Stb q O W1 O2 w' ∧ ((T = false ∧ r = .returned (.tuple #[]) ∧ Rdw w' q A n c f size mo g i O2 ⟨.mk 13 false s.v ⟨#[]⟩ [] :: S.op, none, S.n + 1, S.most⟩) ∨ (T = true ∧ r = .panicked [{ v := rfV (s.p : Int) (adj mo 8 : Int), recovered := false }]))) := Lib.hid fun W' O' hM => by
    refine (put_test hM.r s ⟨13, false, s.v, ⟨#[]⟩⟩ (wfE_lit (by omega) hsv (Nat.zero_le _)) T hmt).mono fun r w' ⟨O2, a1, a2⟩ => ⟨O2, hM.s.trans a1, ?_⟩
    rcases a2 with ⟨a2, a3, a4⟩ | ⟨a2, a3⟩
    · rw [a2] at hmt
      rw [put_op hmt (.inr (.inr rfl))] at a4
      exact .inl ⟨a2, a3, a4⟩
    · exact .inr ⟨a2, a3⟩
  have HIT : Hid (∀ e, d = e + 1 → (s.v = 2 ∨ s.v = 3 → lkR size f n i = none) → ∀ W' O', Rdw W' q A n c f size mo g i O' ⟨.mk 13 false s.v ⟨#[]⟩ [] :: S.op, none, S.n + 1, S.most⟩ → Calls Tryz.prog 69 #[.pointer (some ⟨q, 0, none⟩)] W' fun r w' => ∃ O2, Stb q O' W' O2 w' ∧ ((∃ t c' k, rdI size e (S.n + 1) f n i = .ok (t, c') k ∧ r = .returned (.tuple #[]) ∧ Rdw w' q A n c f size mo g k O2 (stI S (.mk 13 false s.v ⟨#[]⟩ [t], c'))) ∨ (∃ p' er, rdI size e (S.n + 1) f n i = .no p' er ∧ r = .panicked [{ v := rfV (p' : Int) (adj mo er : Int), recovered := false }]))) := Lib.hid fun e he hl W' O' hh => by
    refine (hI e he W' i O' _ hh rfl (by show S.op.length + 1 + e = S.most; omega) (fun ht => ?_)).mono fun r w' ⟨O2, a1, a2⟩ => ⟨O2, a1, ?_⟩
    · have h23 : s.v = 2 ∨ s.v = 3 := (tag23_cons.1 ht).2
      exact lk_not (hl h23)
    · rcases a2 with ⟨⟨t, c'⟩, k, a2, a3, a4⟩ | ⟨p', er, a2, a3⟩
      · rw [stI_tag] at a4
        exact .inl ⟨t, c', k, a2, a3, a4⟩
      · exact .inr ⟨p', er, a2, a3⟩
  have HBG : Hid (Calls Tryz.prog 151 #[.pointer (some ⟨q, 0, none⟩)] W1 fun r W' => ((∃ b k, lkR size f n i = some (b, k) ∧ big b = true ∧ r = .returned (.tuple #[.string b, .bool true]) ∧ Mn W1 W.heap.size q A n c f size mo g k O #[.int .i64 (s.p : Int), .int .i64 (s.M : Int), .int .i64 (s.x : Int), .int .u64 (s.v : Int)] W' O S) ∨ (lkR size f n i = none ∧ r = .returned (.tuple #[.string ⟨#[]⟩, .bool false]) ∧ Mn W1 W.heap.size q A n c f size mo g i O #[.int .i64 (s.p : Int), .int .i64 (s.M : Int), .int .i64 (s.x : Int), .int .u64 (s.v : Int)] W' O S))) := Lib.hid (by
    refine (big_any hM0.r.r hM0.r.l).mono fun r W' ⟨a1, a2⟩ => ?_
    rcases a2 with ⟨b, k, b1, b2, b3⟩ | ⟨b1, b2, b3⟩
    · exact .inl ⟨b, k, b1, (lk_some (α := Unit) (fun _ => ()) (ret ()) b1).2.1, b2, hM0.next (.of a1) (hM0.r.stp a1 b3)⟩
    · exact .inr ⟨b1, b2, hM0.next (.of a1) (hM0.r.stp a1 b3)⟩)
  have HRN : Hid (T = true → tgR size d S.n s f n i = .no s.p 8) := Lib.hid fun h0 => tg_no hp (hTT.trans h0)
  have HRB : Hid (T = false → (s.v = 2 ∨ s.v = 3) → ∀ b k, lkR size f n i = some (b, k) → tgR size d S.n s f n i = .ok (.mk 5 (decide (s.v = 3)) 0 b [], S.n + 1) k) := Lib.hid fun h0 h1 b k hl => tg_big (hTT.trans h0) h1 hl
  have HRT : Hid (T = false → (s.v = 2 ∨ s.v = 3 → lkR size f n i = none) → ∀ e, d = e + 1 → (∀ p er, rdI size e (S.n + 1) f n i = .no p er → tgR size d S.n s f n i = .no p er) ∧ (∀ t c' k, rdI size e (S.n + 1) f n i = .ok (t, c') k → tgR size d S.n s f n i = .ok (.mk 13 false s.v ⟨#[]⟩ [t], c') k)) := Lib.hid fun h0 hl e he => tg_tag he (hTT.trans h0) hl
  obtain ⟨R, hR⟩ : ∃ R, tgR size d S.n s f n i = R := ⟨_, rfl⟩
  rw [hR] at HRN HRB HRT ⊢
  obtain ⟨d0, d1, d2, d3⟩ := hk1.c4
  obtain ⟨p, M, x, v⟩ := s
  unfold stV at HPB HPT ⊢
  dsimp only at hW1 HPB HPT HIT HBG HRN HRB HRT d0 d1 d2 d3 ⊢
  have HM0 := Lib.hid hM0
  clear hI h hv hd hp hb1 hk1 hM0 hmt hTT hR hsv
  by_cases h23 : v = 2 ∨ v = 3
  · have HV := Lib.hid h23
    have key : ((((v : Nat) : Int) == 2) = true ∧ (((v : Nat) : Int) == 3) = false ∧ decide (v = 3) = false) ∨ ((((v : Nat) : Int) == 2) = false ∧ (((v : Nat) : Int) == 3) = true ∧ decide (v = 3) = true) := by
      rcases h23 with rfl | rfl
      · exact .inl ⟨rfl, rfl, rfl⟩
      · exact .inr ⟨rfl, rfl, rfl⟩
    clear h23
    rcases key with ⟨ht, ht3, hv3⟩ | ⟨ht, ht3, hv3⟩
    all_goals
      rw [hv3] at HPB HRB
      clear hv3
      go_enter Tryz.func113, Tryz.ntmps113
      go_upto_region 1 with fail
      first | rw [hW1] | skip
      clear hW1
      go_wp2_with fail
      with_reducible refine HBG.out.mono ?_
      rintro r w2 (⟨b, k, hl, hbg, rfl, hM2⟩ | ⟨hl, rfl, hM2⟩)
      · obtain ⟨z0, z1, z2, z3⟩ := hM2.b.c4
        have H5 := Lib.hid (HPB.out _ _ k b hM2 hbg)
        have HL := Lib.hid hl
        clear hM2 hbg hl
        go_wp2_with fail
        with_reducible refine H5.out.mono ?_
        rintro r w3 ⟨O3, hs3, ⟨hT0, rfl, h3⟩ | ⟨hT1, rfl⟩⟩
        · have HF := Lib.hid (And.intro (HS.out.trans hs3) (And.intro h3 (HRB.out hT0 HV.out b k HL.out)))
          clear hs3 h3
          go_wp2_with fail
          exact bodyPost_ret (by simp [results, Tryz.results113, go_sem]) rfl ⟨O3, HF.out.1, .inl ⟨_, k, HF.out.2.2, rfl, HF.out.2.1⟩⟩
        · have HF := Lib.hid (And.intro (HS.out.trans hs3) (HRN.out hT1))
          clear hs3
          go_wp2_with fail
          exact ⟨rfl, O3, HF.out.1, .inr ⟨p, 8, HF.out.2, rfl⟩⟩
      · obtain ⟨z0, z1, z2, z3⟩ := hM2.b.c4
        have H5 := Lib.hid (HPT.out _ _ hM2)
        have HL := Lib.hid (fun (_ : v = 2 ∨ v = 3) => hl)
        clear hM2 hl
        go_wp2_with fail
        with_reducible refine H5.out.mono ?_
        rintro r w3 ⟨O3, hs3, ⟨hT0, rfl, h3⟩ | ⟨hT1, rfl⟩⟩
        · obtain ⟨e, he⟩ := HTE.out hT0
          have HRT2 := Lib.hid (HRT.out hT0 HL.out e he)
          have H6 := Lib.hid (HIT.out e he HL.out w3 O3 h3)
          have HS3 := Lib.hid (HS.out.trans hs3)
          clear hs3 h3 he hT0
          go_wp2_with fail
          with_reducible refine H6.out.mono ?_
          rintro r w4 ⟨O4, hs4, ⟨t, c', k, hh, rfl, h4⟩ | ⟨p', er, hh, rfl⟩⟩
          · have HF := Lib.hid (And.intro (HS3.out.trans hs4) (And.intro h4 (HRT2.out.2 t c' k hh)))
            clear hs4 h4 hh
            go_wp2_with fail
            go_end0
            exact ⟨O4, HF.out.1, .inl ⟨_, k, HF.out.2.2, rfl, HF.out.2.1⟩⟩
          · have HF := Lib.hid (And.intro (HS3.out.trans hs4) (HRT2.out.1 p' er hh))
            clear hs4 hh
            go_wp2_with fail
            exact ⟨rfl, O4, HF.out.1, .inr ⟨p', er, HF.out.2, rfl⟩⟩
        · have HF := Lib.hid (And.intro (HS.out.trans hs3) (HRN.out hT1))
          clear hs3
          go_wp2_with fail
          exact ⟨rfl, O3, HF.out.1, .inr ⟨p, 8, HF.out.2, rfl⟩⟩
  · have ht2 : (((v : Nat) : Int) == 2) = false := by simp; omega
    have ht3 : (((v : Nat) : Int) == 3) = false := by simp; omega
    have HL := Lib.hid (fun (h : v = 2 ∨ v = 3) => absurd h h23 (b := lkR size f n i = none))
    have H5 := Lib.hid (HPT.out _ _ HM0.out)
    clear h23 HBG HPB HPT HRB
    go_enter Tryz.func113, Tryz.ntmps113
    go_upto_region 1 with fail
    first | rw [hW1] | skip
    clear hW1
    go_wp2_with fail
    with_reducible refine H5.out.mono ?_
    rintro r w3 ⟨O3, hs3, ⟨hT0, rfl, h3⟩ | ⟨hT1, rfl⟩⟩
    · obtain ⟨e, he⟩ := HTE.out hT0
      have HRT2 := Lib.hid (HRT.out hT0 HL.out e he)
      have H6 := Lib.hid (HIT.out e he HL.out w3 O3 h3)
      have HS3 := Lib.hid (HS.out.trans hs3)
      clear hs3 h3 he hT0
      go_wp2_with fail
      with_reducible refine H6.out.mono ?_
      rintro r w4 ⟨O4, hs4, ⟨t, c', k, hh, rfl, h4⟩ | ⟨p', er, hh, rfl⟩⟩
      · have HF := Lib.hid (And.intro (HS3.out.trans hs4) (And.intro h4 (HRT2.out.2 t c' k hh)))
        clear hs4 h4 hh
        go_wp2_with fail
        go_end0
        exact ⟨O4, HF.out.1, .inl ⟨_, k, HF.out.2.2, rfl, HF.out.2.1⟩⟩
      · have HF := Lib.hid (And.intro (HS3.out.trans hs4) (HRT2.out.1 p' er hh))
        clear hs4 hh
        go_wp2_with fail
        exact ⟨rfl, O4, HF.out.1, .inr ⟨p', er, HF.out.2, rfl⟩⟩
    · have HF := Lib.hid (And.intro (HS.out.trans hs3) (HRN.out hT1))
      clear hs3
      go_wp2_with fail
      exact ⟨rfl, O3, HF.out.1, .inr ⟨p, 8, HF.out.2, rfl⟩⟩
end
end Go.Proofs.YtpcladdipgchbaaGreatDoor.nn
