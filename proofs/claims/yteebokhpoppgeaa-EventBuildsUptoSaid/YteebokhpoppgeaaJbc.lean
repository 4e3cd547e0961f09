/- Joined texts, what is wanted of them: EvBuilds, EventBuildsW. -/
import Derived.Deep.DeepCutAuto
import Derived.Deep.RegionWith
import Derived.Deep.RegionHeld3
import Derived.Lib.Hide
import Derived.Deep.QuietTactic
import Derived.BigQuiet
import Derived.StillTailTactics
import Derived.IntWalk
import Derived.Test.YteebokhpoppgeaaProg
import Derived.WalkKit
import Derived.Test.YteebokhpoppgeaaJb
import Derived.Test.YteebokhpoppgeaaJe
import Derived.Test.YteebokhpoppgeaaJc
import Derived.Test.YteebokhpoppgeaaJq
import Derived.Test.YteebokhpoppgeaaJk
import Derived.Test.YteebokhpoppgeaaJo
import Derived.Test.YteebokhpoppgeaaJn
import Derived.Test.YteebokhpoppgeaaJh
import Derived.Test.YteebokhpoppgeaaJg
import Derived.Test.YteebokhpoppgeaaJi
import Derived.Test.YteebokhpoppgeaaJa
import Derived.Test.YteebokhpoppgeaaJs
import Derived.Test.YteebokhpoppgeaaJz
import Derived.Test.YteebokhpoppgeaaJd
import Derived.Test.YteebokhpoppgeaaJu
import Derived.Test.YteebokhpoppgeaaJx
import Derived.Test.YteebokhpoppgeaaJba
import Derived.Test.YteebokhpoppgeaaJy
import Derived.Test.YteebokhpoppgeaaJr
import Derived.Test.YteebokhpoppgeaaJp
namespace Go.Proofs.Yteebokhpoppgeaa.nn
open Go.RowKit

/-- the state behind the first i events, whatever was refused -/
def stP (d : Int) (L : List Ev) (i : Nat) : Bst := (L.take i).foldl putB (newB d)
theorem stP_zero (d : Int) (L : List Ev) : stP d L 0 = newB d := by simp [stP]
theorem stP_succ (d : Int) {L : List Ev} {i : Nat} (h : i < L.length) : stP d L (i + 1) = putB (stP d L i) L[i] := by
  unfold stP
  rw [List.take_succ_eq_append_getElem h, List.foldl_append]
  rfl
theorem stP_good (d : Int) (L : List Ev) (hL : ∀ e, e ∈ L → wfE e) : ∀ i, i ≤ L.length → GoodW (stP d L i) := by
  intro i
  induction i with
  | zero => intro _; rw [stP_zero]; exact good_new d
  | succ i ih =>
    intro hi
    rw [stP_succ d (show i < L.length by omega)]
    exact good_put (ih (by omega)) (hL _ (List.getElem_mem _))
/-- the two builds: the real one (block g) in the state S, the document's (block h) in the state S' -/
structure Two (w : World) (g h : Nat) (S S' : Bst) (W : World) : Prop where
  x : ∃ O P, Rb W g O S ∧ Bm W h P S' ∧ (∀ b, O b → ¬ P b) ∧ (∀ b, O b → w.heap.size ≤ b) ∧ ∀ b, P b → w.heap.size ≤ b
  b : Below w.heap.size w W
theorem Two.on {w W W' : World} {g h : Nat} {S S' : Bst} (t : Two w g h S S' W) (hB : Below W.heap.size W W') : Two w g h S S' W' := by
  obtain ⟨⟨O, P, h1, h2, h3, h4, h5⟩, hb⟩ := t
  exact ⟨⟨O, P, h1.below hB, h2.below hB, h3, h4, h5⟩, hb.trans (hB.mono hb.size)⟩
/-- the document's cells -/
theorem Two.cells {w W : World} {g h : Nat} {S S' : Bst} (t : Two w g h S S' W) : ∃ A D c m d, W.cell? ⟨h, 0, none⟩ = some (.slice A S'.op.length c) ∧ W.cell? ⟨h, 1, none⟩ = some (.bool S'.v.isSome) ∧ W.cell? ⟨h, 7, none⟩ = some (.int .i64 (S'.n : Int)) ∧
    W.cell? ⟨h, 2, none⟩ = some (.int .i64 (S'.v.getD emp).k) ∧ W.cell? ⟨h, 3, none⟩ = some (.bool (S'.v.getD emp).g) ∧ W.cell? ⟨h, 4, none⟩ = some (.int .u64 ((S'.v.getD emp).n : Int)) ∧ W.cell? ⟨h, 5, none⟩ = some (.string (S'.v.getD emp).s) ∧ W.cell? ⟨h, 6, none⟩ = some (.slice D m d) ∧ m = (S'.v.getD emp).l.length ∧ Lst W (.slice D m d) (S'.v.getD emp).l := by
  obtain ⟨⟨O, P, h1, h2, h3, h4, h5⟩, hb⟩ := t
  obtain ⟨A, c, D, hx⟩ := h2.bmx
  have hl := hx.l.lst
  obtain ⟨D', d, rfl, _⟩ := hl.out
  exact ⟨A, D', c, _, d, hx.b.cell 0, hx.b.cell 1, hx.b.cell 7, hx.b.cell 2, hx.b.cell 3, hx.b.cell 4, hx.b.cell 5, hx.b.cell 6, rfl, hl⟩
theorem two_put1 {w W : World} {g h : Nat} {S S' : Bst} (t : Two w g h S S' W) (hG : GoodW S) {e : Ev} (hw : wfE e) :
    Calls Try.prog 6 #[.pointer (some ⟨g, 0, none⟩), evv e] W fun x w' => x = .returned (.int .i64 (mayB S e : Int)) ∧ Two w g h (putB S e) S' w' := by
  obtain ⟨⟨O, P, h1, h2, h3, h4, h5⟩, hb⟩ := t
  refine (put_any S g O e W h1 hG hw).mono fun x w' ⟨hx, O', hm, hr⟩ => ⟨hx, ⟨⟨O', P, hr, h2.keep hm.size fun b hb' => hm.kept b (h2.lo b hb') (fun ho => h3 b ho hb') (fun h => h), fun b ho hp => ?_, fun b ho => ?_, h5⟩, ?_⟩⟩
  · rcases hm.new b ho with h | h
    · exact h3 b h hp
    · have := h2.lo b hp; omega
  · rcases hm.new b ho with h | h
    · exact h4 b h
    · have := hb.size; omega
  · exact ⟨hm.os.trans hb.os, hm.tape.trans hb.tape, hm.output.trans hb.output, Nat.le_trans hb.size hm.size, fun b hb' => (hm.kept b (Nat.lt_of_lt_of_le hb' hb.size) (fun h => by have := h4 b h; omega) (fun h => h)).trans (hb.block b hb')⟩
theorem Rb.lo {W : World} {g : Nat} {O : Nat → Prop} {S : Bst} (h : Rb W g O S) : ∀ b, O b → b < W.heap.size := by
  obtain ⟨K, sv, D, h1, _⟩ := h
  exact h1.lo
theorem two_put2 {w W : World} {g h : Nat} {S S' : Bst} (t : Two w g h S S' W) (hG : GoodW S') {e : Ev} (hw : wfE e) :
    Calls Try.prog 7 #[.pointer (some ⟨h, 0, none⟩), evv e] W fun x w' => x = .returned (.int .i64 (mayB S' e : Int)) ∧ Two w g h S (putB S' e) w' := by
  obtain ⟨⟨O, P, h1, h2, h3, h4, h5⟩, hb⟩ := t
  refine (rput_any S' h P e W h2 hG hw).mono fun x w' ⟨hx, P', hm, hr⟩ => ⟨hx, ⟨⟨O, P', h1.keep hm.size fun b hb' => hm.kept b (h1.lo b hb') (fun hp => h3 b hb' hp) (fun h => h), hr, fun b ho hp => ?_, h4, fun b ho => ?_⟩, ?_⟩⟩
  · rcases hm.new b hp with h | h
    · exact h3 b ho h
    · have := h1.lo b ho; omega
  · rcases hm.new b ho with h | h
    · exact h5 b h
    · have := hb.size; omega
  · exact ⟨hm.os.trans hb.os, hm.tape.trans hb.tape, hm.output.trans hb.output, Nat.le_trans hb.size hm.size, fun b hb' => (hm.kept b (Nat.lt_of_lt_of_le hb' hb.size) (fun h => by have := h5 b h; omega) (fun h => h)).trans (hb.block b hb')⟩
theorem two_done {w W : World} {g h : Nat} {S S' : Bst} (t : Two w g h S S' W) : Calls Try.prog 8 #[.pointer (some ⟨g, 0, none⟩)] W fun x w' => x = .returned (.bool S.v.isSome) ∧ Two w g h S S' w' ∧ Below W.heap.size W w' := by
  obtain ⟨O, P, h1, h2, h3, h4, h5⟩ := t.x
  obtain ⟨gs, m, c, qb, Ab, cb, hbo⟩ := h1.bo
  exact (done_any hbo).mono fun x w' ⟨hx, hb⟩ => ⟨hx, t.on hb, hb⟩
theorem two_count {w W : World} {g h : Nat} {S S' : Bst} (t : Two w g h S S' W) : Calls Try.prog 10 #[.pointer (some ⟨g, 0, none⟩)] W fun x w' => x = .returned (.int .i64 (S.n : Int)) ∧ Two w g h S S' w' ∧ Below W.heap.size W w' := by
  obtain ⟨O, P, h1, h2, h3, h4, h5⟩ := t.x
  obtain ⟨gs, m, c, qb, Ab, cb, hbo⟩ := h1.bo
  exact (count_any hbo).mono fun x w' ⟨hx, hb⟩ => ⟨hx, t.on hb, hb⟩
theorem two_depth {w W : World} {g h : Nat} {S S' : Bst} (t : Two w g h S S' W) (hG : GoodW S) : Calls Try.prog 9 #[.pointer (some ⟨g, 0, none⟩)] W fun x w' => x = .returned (.int .i64 (S.op.length : Int)) ∧ Two w g h S S' w' ∧ Below W.heap.size W w' := by
  obtain ⟨O, P, h1, h2, h3, h4, h5⟩ := t.x
  obtain ⟨K, sv, r, D, q1, q2, q3⟩ := h1.tops
  obtain ⟨gs, c, rfl, hgs, _, _⟩ := q1.top
  have hlen := hG.len
  have hc : W.cell? ⟨g, 2, none⟩ = some (.slice (some ⟨gs, 0, none⟩) (D.length + 1) c) := by
    have := q1.b.cell 2
    rw [this]
    rfl
  rw [← q3]
  exact (depth_any g gs D.length c W hc (q1.lo g q1.o.1) (by omega)).mono fun x w' ⟨hx, hb⟩ => ⟨hx, t.on hb, hb⟩
theorem two_value {w W : World} {g h : Nat} {S S' : Bst} (t : Two w g h S S' W) (hG : GoodW S) : Calls Try.prog 11 #[.pointer (some ⟨g, 0, none⟩)] W fun x w' => ∃ A m c, x = .returned (.tuple #[vv (S.v.getD emp) (.slice A m c), .int .i64 (if S.v.isSome then 0 else 3)]) ∧ m = (S.v.getD emp).l.length ∧ Lst w' (.slice A m c) (S.v.getD emp).l ∧ Two w g h S S' w' := by
  obtain ⟨O, P, h1, h2, h3, h4, h5⟩ := t.x
  obtain ⟨gs, m, c, qb, Ab, cb, hbo⟩ := h1.bo
  refine (value_any hbo fun t ht => by have := good_cnt hG t ht; omega).mono fun x w' ⟨C, hx, hl, hb⟩ => ?_
  have hl2 := hl.lst
  obtain ⟨A, c', rfl, _⟩ := hl2.out
  exact ⟨A, _, c', hx, rfl, hl2, t.on hb⟩
theorem two_new (d : Int) (w : World) : Calls Try.prog 4 #[.int .i64 d] w fun x w' => ∃ g O, x = .returned (.pointer (some ⟨g, 0, none⟩)) ∧ Rb w' g O (newB d) ∧ (∀ b, O b → w.heap.size ≤ b) ∧ Below w.heap.size w w' := new_any d w
theorem two_new2 {w W : World} {g : Nat} {O : Nat → Prop} (d : Int) (h1 : Rb W g O (newB d)) (h2 : ∀ b, O b → w.heap.size ≤ b) (h3 : Below w.heap.size w W) : Calls Try.prog 5 #[.int .i64 d] W fun x w' => ∃ h, x = .returned (.pointer (some ⟨h, 0, none⟩)) ∧ Two w g h (newB d) (newB d) w' := by
  refine (rnew_any d W).mono fun x w' ⟨h, P, hx, hr, hP, hb⟩ => ⟨h, hx, ⟨O, P, h1.below hb, hr, fun b ho hp => ?_, h2, fun b hp => ?_⟩, h3.trans (hb.mono h3.size)⟩
  · have := hP b hp; have := h1.lo b ho; omega
  · have := hP b hp; have := h3.size; omega
theorem Two.lt {w W : World} {g h : Nat} {S S' : Bst} (t : Two w g h S S' W) : h < W.heap.size := by
  obtain ⟨⟨O, P, h1, h2, h3, h4, h5⟩, hb⟩ := t
  exact h2.lo h h2.o
end Go.Proofs.Yteebokhpoppgeaa.nn
namespace Go.Proofs.Yteebokhpoppgeaa.nn
open Go.RowKit

set_option maxRecDepth 100000 in
set_option maxHeartbeats 40000000 in
theorem builds9_any (d : Int) (_ : -9223372036854775808 ≤ d) (_ : d ≤ 9223372036854775807) (A : Option Addr) (L : List Ev) (c : Nat) (w : World) (hR : RdE w A L) (hn : L.length ≤ 1048576) (hWM : ∀ e, e ∈ L → evOk e ∧ e.s.size ≤ maxLen) :
    Calls Try.prog 3 #[.int .i64 d, .slice A L.length c] w fun r w' => r = .returned (.bool true) ∧ Below w.heap.size w w' := by
  have hwL : ∀ e, e ∈ L → wfE e := fun e he => ⟨(hWM e he).1.1, (hWM e he).1.2.1, (hWM e he).1.2.2, (hWM e he).2⟩
  have C1 := Lib.hid (two_new d w)
  have C2 := Lib.hid (fun W g O => two_new2 (w := w) (W := W) (g := g) (O := O) d)
  have HG := Lib.hid (stP_good d L hwL)
  have HW := Lib.hid hwL
  have HR := Lib.hid hR
  have HA : Hid (∀ W, Calls Try.prog 13 #[] W fun e w' => e = .returned (.bool true) ∧ Below W.heap.size W w') := Lib.hid fun W => awake9 W
  obtain ⟨n, hnl⟩ : ∃ n, L.length = n := ⟨_, rfl⟩
  have HN := Lib.hid hnl
  rw [hnl] at hn ⊢
  clear hwL hWM hR hnl
  go_enter Try.func3, Try.ntmps3
  go_wp2_with fail
  refine C1.out.mono ?_
  rintro x w1 ⟨g, O, rfl, h1, h2, h3⟩
  have H1 := Lib.hid (And.intro h1 (And.intro h2 h3))
  clear h1 h2 h3 C1
  go_wp2_with fail
  refine (C2.out w1 g O H1.out.1 H1.out.2.1 H1.out.2.2).mono ?_
  rintro x w2 ⟨h, rfl, t2⟩
  have H2 : Hid (Two w g h (stP d L 0) (stP d L 0) w2) := Lib.hid (by rw [stP_zero]; exact t2)
  clear t2 H1 C2
  go_wp2_with fail
  go_loopw [7] (fun s7 wr => ∃ i : Nat, i ≤ n ∧ s7 = .int .i64 (i : Int) ∧ Hid (Two w g h (stP d L i) (stP d L i) wr)) (fun s7 _ => n - (intOf s7).toNat)
  case atStart => exact ⟨0, Nat.zero_le _, rfl, H2⟩
  case round =>
    obtain ⟨i, hi, rfl, ht⟩ := hrel
    by_cases hlt : i < n
    · have hiL : i < L.length := by rw [HN.out]; exact hlt
      obtain ⟨b1, o1, rfl, -, -⟩ := HR.out (by intro h; subst h; simp at hiL)
      have hgood := HG.out i (by omega)
      have hgood2 := HG.out (i + 1) (by omega)
      have hwe := HW.out _ (List.getElem_mem hiL)
      have hsucc := stP_succ d hiL
      have hev : ∀ W, Below w.heap.size w W → RdE W (some ⟨b1, o1, none⟩) L := fun W hb => HR.out.below hb
      have hat := fun W hb => (hev W hb).at hiL
      obtain ⟨e, he⟩ : ∃ e, L[i] = e := ⟨_, rfl⟩
      rw [he] at hwe hsucc
      simp only [he] at hat
      obtain ⟨S, hS⟩ : ∃ S, stP d L i = S := ⟨_, rfl⟩
      obtain ⟨S2, hS2⟩ : ∃ S, stP d L (i + 1) = S := ⟨_, rfl⟩
      rw [hS] at ht hgood hsucc
      rw [hS2] at hgood2 hsucc
      have HEV := Lib.hid hat
      obtain ⟨r, hr⟩ : ∃ r, mayB S e = r := ⟨_, rfl⟩
      obtain ⟨B, hB⟩ : ∃ b, S2.v.isSome = b := ⟨_, rfl⟩
      obtain ⟨ol, hol⟩ : ∃ b, S2.op.length = b := ⟨_, rfl⟩
      obtain ⟨N, hN⟩ : ∃ b, S2.n = b := ⟨_, rfl⟩
      have K1 : Hid (∀ W, Two w g h S S W → Calls Try.prog 6 #[.pointer (some ⟨g, 0, none⟩), .agg #[.int .i64 e.k, .bool e.g, .int .u64 (e.n : Int), .string e.s]] W fun x w' => x = .returned (.int .i64 (r : Int)) ∧ Two w g h S2 S w' ∧ (w'.cell? ⟨b1, o1 + i * 4, none⟩ = some (.int .i64 e.k) ∧ w'.cell? ⟨b1, o1 + i * 4 + 1, none⟩ = some (.bool e.g) ∧ w'.cell? ⟨b1, o1 + i * 4 + 2, none⟩ = some (.int .u64 (e.n : Int)) ∧ w'.cell? ⟨b1, o1 + i * 4 + 3, none⟩ = some (.string e.s))) := Lib.hid fun W t => (two_put1 t hgood hwe).mono fun x w' ⟨hx, t'⟩ => by
        rw [← hsucc] at t'
        rw [hr] at hx
        exact ⟨hx, t', hat w' t'.b⟩
      have K2 : Hid (∀ W, Two w g h S2 S W → Calls Try.prog 7 #[.pointer (some ⟨h, 0, none⟩), .agg #[.int .i64 e.k, .bool e.g, .int .u64 (e.n : Int), .string e.s]] W fun x w' => x = .returned (.int .i64 (r : Int)) ∧ Two w g h S2 S2 w' ∧ ∃ X c', w'.cell? ⟨h, 0, none⟩ = some (.slice X ol c') ∧ w'.cell? ⟨h, 1, none⟩ = some (.bool B) ∧ w'.cell? ⟨h, 7, none⟩ = some (.int .i64 (N : Int))) := Lib.hid fun W t => (two_put2 t hgood hwe).mono fun x w' ⟨hx, t'⟩ => by
        rw [← hsucc] at t'
        rw [hr] at hx
        obtain ⟨X, _, c', _, _, c0, c1, c7, _⟩ := t'.cells
        rw [hol] at c0
        rw [hB] at c1
        rw [hN] at c7
        exact ⟨hx, t', X, c', c0, c1, c7⟩
      have K3 : Hid (∀ X c' W, (W.cell? ⟨h, 0, none⟩ = some (.slice X ol c') ∧ W.cell? ⟨h, 1, none⟩ = some (.bool B) ∧ W.cell? ⟨h, 7, none⟩ = some (.int .i64 (N : Int)) ∧ Two w g h S2 S2 W) → Calls Try.prog 8 #[.pointer (some ⟨g, 0, none⟩)] W fun x w' => x = .returned (.bool B) ∧ (w'.cell? ⟨h, 0, none⟩ = some (.slice X ol c') ∧ w'.cell? ⟨h, 1, none⟩ = some (.bool B) ∧ w'.cell? ⟨h, 7, none⟩ = some (.int .i64 (N : Int)) ∧ Two w g h S2 S2 w')) := Lib.hid fun X c' W t => (two_done t.2.2.2).mono fun x w' ⟨hx, t', hb⟩ => by
        rw [hB] at hx
        have hl := t.2.2.2.lt
        exact ⟨hx, (hb.cell (p := ⟨h, 0, none⟩) hl).trans t.1, (hb.cell (p := ⟨h, 1, none⟩) hl).trans t.2.1, (hb.cell (p := ⟨h, 7, none⟩) hl).trans t.2.2.1, t'⟩
      have K4 : Hid (∀ X c' W, (W.cell? ⟨h, 0, none⟩ = some (.slice X ol c') ∧ W.cell? ⟨h, 1, none⟩ = some (.bool B) ∧ W.cell? ⟨h, 7, none⟩ = some (.int .i64 (N : Int)) ∧ Two w g h S2 S2 W) → Calls Try.prog 9 #[.pointer (some ⟨g, 0, none⟩)] W fun x w' => x = .returned (.int .i64 (ol : Int)) ∧ (w'.cell? ⟨h, 0, none⟩ = some (.slice X ol c') ∧ w'.cell? ⟨h, 1, none⟩ = some (.bool B) ∧ w'.cell? ⟨h, 7, none⟩ = some (.int .i64 (N : Int)) ∧ Two w g h S2 S2 w')) := Lib.hid fun X c' W t => (two_depth t.2.2.2 hgood2).mono fun x w' ⟨hx, t', hb⟩ => by
        rw [hol] at hx
        have hl := t.2.2.2.lt
        exact ⟨hx, (hb.cell (p := ⟨h, 0, none⟩) hl).trans t.1, (hb.cell (p := ⟨h, 1, none⟩) hl).trans t.2.1, (hb.cell (p := ⟨h, 7, none⟩) hl).trans t.2.2.1, t'⟩
      have K5 : Hid (∀ X c' W, (W.cell? ⟨h, 0, none⟩ = some (.slice X ol c') ∧ W.cell? ⟨h, 1, none⟩ = some (.bool B) ∧ W.cell? ⟨h, 7, none⟩ = some (.int .i64 (N : Int)) ∧ Two w g h S2 S2 W) → Calls Try.prog 10 #[.pointer (some ⟨g, 0, none⟩)] W fun x w' => x = .returned (.int .i64 (N : Int)) ∧ (w'.cell? ⟨h, 0, none⟩ = some (.slice X ol c') ∧ w'.cell? ⟨h, 1, none⟩ = some (.bool B) ∧ w'.cell? ⟨h, 7, none⟩ = some (.int .i64 (N : Int)) ∧ Two w g h S2 S2 w')) := Lib.hid fun X c' W t => (two_count t.2.2.2).mono fun x w' ⟨hx, t', hb⟩ => by
        rw [hN] at hx
        have hl := t.2.2.2.lt
        exact ⟨hx, (hb.cell (p := ⟨h, 0, none⟩) hl).trans t.1, (hb.cell (p := ⟨h, 1, none⟩) hl).trans t.2.1, (hb.cell (p := ⟨h, 7, none⟩) hl).trans t.2.2.1, t'⟩
      have T0 : Hid (Two w g h S S wr.drew) := Lib.hid (ht.out.on (Below.drew (Below.refl _ _)))
      obtain ⟨a0, a1, a2, a3⟩ := HEV.out wr ht.out.b
      obtain ⟨d0, d1, d2, d3⟩ := HEV.out wr.drew T0.out.b
      have HB2 := Lib.hid (And.intro hB (And.intro hS2 hgood2))
      have HSS := Lib.hid hS2
      clear hgood hgood2 hwe hsucc hev hat he hS hS2 hr hB hol hN
      go_upto_region 8 with fail
      go_cut [62] (fun s62 wx => s62 = .bool false ∧ Hid (Two w g h S2 S2 wx))
      case first =>
        clear HEV HG HW HR HA HN HB2 ht H2
        refine wp_region_noPanic ?_
        refine wp_region_any (by kernel_rfl) ?_
        change wpAny _ _ _ _ _ _ _ (World.drew _)
        refine wpAny_take (i := 0) (v := ?_) rfl (by kernel_rfl) (by kernel_rfl) (by kernel_rfl) (fun _ _ _ h => h) (Or.inl ⟨by kernel_rfl, ?_⟩) ?_
        rotate_left
        · intro W
          go_simp
          try with_reducible rfl
        try simp only [Act.put, List.setIfInBounds_toArray]
        refine wpAny_take (i := 1) (v := ?_) rfl (by kernel_rfl) (by kernel_rfl) (by kernel_rfl) (fun _ _ _ h => h) (Or.inl ⟨by kernel_rfl, ?_⟩) ?_
        rotate_left
        · intro W
          go_simp
          try with_reducible rfl
        try simp only [Act.put]
        refine wpAny_take (i := 2) (v := ?_) rfl (by kernel_rfl) (by kernel_rfl) (by kernel_rfl) (fun _ _ _ h => h) (Or.inl ⟨by kernel_rfl, ?_⟩) ?_
        rotate_left
        · intro W
          go_simp
          try with_reducible rfl
        try simp only [Act.put]
        refine wpAny_take (i := 3) (v := ?_) rfl (by kernel_rfl) (by kernel_rfl) (by kernel_rfl) (fun _ _ _ h => h) (Or.inl ⟨by kernel_rfl, ?_⟩) ?_
        rotate_left
        · intro W
          go_simp
          try with_reducible rfl
        try simp only [Act.put]
        refine wpAny_take (i := 6) (v := ?_) rfl (by kernel_rfl) (by kernel_rfl) (by kernel_rfl) (fun _ _ _ h => h) (Or.inl ⟨by kernel_rfl, ?_⟩) ?_
        rotate_left
        · intro W
          go_simp
          try with_reducible rfl
        try simp only [Act.put]
        refine wpAny_take (i := 7) (v := ?_) rfl (by kernel_rfl) (by kernel_rfl) (by kernel_rfl) (fun _ _ _ h => h) (Or.inl ⟨by kernel_rfl, ?_⟩) ?_
        rotate_left
        · intro W
          go_simp
          try with_reducible rfl
        try simp only [Act.put]
        refine wpAny_take (i := 8) (v := ?_) rfl (by kernel_rfl) (by kernel_rfl) (by kernel_rfl) (fun _ _ _ h => h) (Or.inl ⟨by kernel_rfl, ?_⟩) ?_
        rotate_left
        · intro W
          go_simp
          try with_reducible rfl
        try simp only [Act.put]
        refine wpAny_take (i := 9) (v := ?_) rfl (by kernel_rfl) (by kernel_rfl) (by kernel_rfl) (fun _ _ _ h => h) (Or.inl ⟨by kernel_rfl, ?_⟩) ?_
        rotate_left
        · intro W
          go_simp
          try with_reducible rfl
        try simp only [Act.put]
        refine wpAny_ready (rs := [4, 10]) (by kernel_rfl) (by simp) ?_
        refine AllReady.cons rfl (fun K hK => ?_) (AllReady.cons rfl (fun K hK => ?_) AllReady.nil)
        · go_simp
          refine hK _ _ ?_
          clear hK K
          try simp only [Act.put, List.setIfInBounds_toArray, List.set_cons_zero, List.set_cons_succ]
          refine wpAny_ready (rs := [5, 10]) (by kernel_rfl) (by simp) ?_
          refine AllReady.cons rfl (fun K hK => ?_) (AllReady.cons rfl (fun K hK => ?_) AllReady.nil)
          · go_simp
            with_reducible refine (K1.out _ T0.out).mono ?_
            rintro x wa ⟨rfl, ta, ya0, ya1, ya2, ya3⟩
            go_wp2_with fail
            try simp only [Act.put, List.setIfInBounds_toArray, List.set_cons_zero, List.set_cons_succ]
            refine wpAny_ready (rs := [10]) (by kernel_rfl) (by simp) ?_
            refine AllReady.cons rfl (fun K hK => ?_) AllReady.nil
            go_simp
            refine hK _ _ ?_
            clear hK K
            try simp only [Act.put, List.setIfInBounds_toArray, List.set_cons_zero, List.set_cons_succ]
            refine wpAny_ready (rs := [11]) (by kernel_rfl) (by simp) ?_
            refine AllReady.cons rfl (fun K hK => ?_) AllReady.nil
            go_simp
            with_reducible refine (K2.out _ ta).mono ?_
            rintro x wb ⟨rfl, tb, Xb, cb, yb0, yb1, yb7⟩
            go_wp2_with fail
            try simp only [Act.put, List.setIfInBounds_toArray, List.set_cons_zero, List.set_cons_succ]
            have hs0 : (fun W => W.cell? ⟨h, 0, none⟩ = some (.slice Xb ol cb) ∧ W.cell? ⟨h, 1, none⟩ = some (.bool B) ∧ W.cell? ⟨h, 7, none⟩ = some (.int .i64 (N : Int)) ∧ Two w g h S2 S2 W) wb := ⟨yb0, yb1, yb7, tb⟩
            refine wpAny_of_held (S := fun W => W.cell? ⟨h, 0, none⟩ = some (.slice Xb ol cb) ∧ W.cell? ⟨h, 1, none⟩ = some (.bool B) ∧ W.cell? ⟨h, 7, none⟩ = some (.int .i64 (N : Int)) ∧ Two w g h S2 S2 W) _ _ _ _ ?_
            clear yb0 yb1 yb7
            refine wpAnyH_take (i := 12) (v := ?_) rfl (by kernel_rfl) (by kernel_rfl) (by kernel_rfl) (fun _ _ _ h => h) (Or.inl ⟨by kernel_rfl, ?_⟩) (by assumption) ?_
            rotate_left
            · intro W hSW
              try dsimp only at hSW
              obtain ⟨q0, q1, q7, _⟩ := hSW
              go_simp
              try with_reducible rfl
            try simp only [Act.put, List.setIfInBounds_toArray]
            refine wpAnyH_take (i := 13) (v := ?_) rfl (by kernel_rfl) (by kernel_rfl) (by kernel_rfl) (fun _ _ _ h => h) (Or.inl ⟨by kernel_rfl, ?_⟩) (by assumption) ?_
            rotate_left
            · intro W hSW
              try dsimp only at hSW
              obtain ⟨q0, q1, q7, _⟩ := hSW
              go_simp
              try with_reducible rfl
            try simp only [Act.put]
            refine wpAnyH_take (i := 14) (v := ?_) rfl (by kernel_rfl) (by kernel_rfl) (by kernel_rfl) (fun _ _ _ h => h) (Or.inl ⟨by kernel_rfl, ?_⟩) (by assumption) ?_
            rotate_left
            · intro W hSW
              try dsimp only at hSW
              obtain ⟨q0, q1, q7, _⟩ := hSW
              go_simp
              try with_reducible rfl
            try simp only [Act.put]
            refine wpAnyH_take (i := 16) (v := ?_) rfl (by kernel_rfl) (by kernel_rfl) (by kernel_rfl) (fun _ _ _ h => h) (Or.inl ⟨by kernel_rfl, ?_⟩) (by assumption) ?_
            rotate_left
            · intro W hSW
              try dsimp only at hSW
              obtain ⟨q0, q1, q7, _⟩ := hSW
              go_simp
              try with_reducible rfl
            try simp only [Act.put]
            refine wpAnyH_take (i := 17) (v := ?_) rfl (by kernel_rfl) (by kernel_rfl) (by kernel_rfl) (fun _ _ _ h => h) (Or.inl ⟨by kernel_rfl, ?_⟩) (by assumption) ?_
            rotate_left
            · intro W hSW
              try dsimp only at hSW
              obtain ⟨q0, q1, q7, _⟩ := hSW
              go_simp
              try with_reducible rfl
            try simp only [Act.put]
            refine wpAnyH_take (i := 18) (v := ?_) rfl (by kernel_rfl) (by kernel_rfl) (by kernel_rfl) (fun _ _ _ h => h) (Or.inl ⟨by kernel_rfl, ?_⟩) (by assumption) ?_
            rotate_left
            · intro W hSW
              try dsimp only at hSW
              obtain ⟨q0, q1, q7, _⟩ := hSW
              go_simp
              try with_reducible rfl
            try simp only [Act.put]
            refine wpAnyH_take (i := 19) (v := ?_) rfl (by kernel_rfl) (by kernel_rfl) (by kernel_rfl) (fun _ _ _ h => h) (Or.inl ⟨by kernel_rfl, ?_⟩) (by assumption) ?_
            rotate_left
            · intro W hSW
              try dsimp only at hSW
              obtain ⟨q0, q1, q7, _⟩ := hSW
              go_simp
              try with_reducible rfl
            try simp only [Act.put]
            refine wpAnyH_ready (rs := [15]) (by kernel_rfl) (by simp) ?_
            refine AllReadyH.cons rfl (fun K hK => ?_) AllReadyH.nil
            rw [if_pos (by kernel_rfl)]
            go_simp
            with_reducible refine (K3.out Xb cb _ hs0).mono ?_
            rintro x wc ⟨rfl, hs1⟩
            go_wp2_with fail
            refine hK.out _ _ hs1 (fun _ => ?_)
            clear hK K
            try simp only [Act.put, List.setIfInBounds_toArray, List.set_cons_zero, List.set_cons_succ]
            refine wpAnyH_take (i := 20) (v := ?_) rfl (by kernel_rfl) (by kernel_rfl) (by kernel_rfl) (fun _ _ _ h => h) (Or.inl ⟨by kernel_rfl, ?_⟩) (by assumption) ?_
            rotate_left
            · intro W hSW
              try dsimp only at hSW
              obtain ⟨q0, q1, q7, _⟩ := hSW
              go_simp
              try with_reducible rfl
            try simp only [Act.put, List.setIfInBounds_toArray]
            refine wpAnyH_take (i := 21) (v := ?_) rfl (by kernel_rfl) (by kernel_rfl) (by kernel_rfl) (fun _ _ _ h => h) (Or.inl ⟨by kernel_rfl, ?_⟩) (by assumption) ?_
            rotate_left
            · intro W hSW
              try dsimp only at hSW
              obtain ⟨q0, q1, q7, _⟩ := hSW
              go_simp
              try with_reducible rfl
            try simp only [Act.put]
            refine wpAnyH_take (i := 22) (v := ?_) rfl (by kernel_rfl) (by kernel_rfl) (by kernel_rfl) (fun _ _ _ h => h) (Or.inl ⟨by kernel_rfl, ?_⟩) (by assumption) ?_
            rotate_left
            · intro W hSW
              try dsimp only at hSW
              obtain ⟨q0, q1, q7, _⟩ := hSW
              go_simp
              try with_reducible rfl
            try simp only [Act.put]
            refine wpAnyH_take (i := 23) (v := ?_) rfl (by kernel_rfl) (by kernel_rfl) (by kernel_rfl) (fun _ _ _ h => h) (Or.inl ⟨by kernel_rfl, ?_⟩) (by assumption) ?_
            rotate_left
            · intro W hSW
              try dsimp only at hSW
              obtain ⟨q0, q1, q7, _⟩ := hSW
              go_simp
              try with_reducible rfl
            try simp only [Act.put]
            refine wpAnyH_take (i := 25) (v := ?_) rfl (by kernel_rfl) (by kernel_rfl) (by kernel_rfl) (fun _ _ _ h => h) (Or.inl ⟨by kernel_rfl, ?_⟩) (by assumption) ?_
            rotate_left
            · intro W hSW
              try dsimp only at hSW
              obtain ⟨q0, q1, q7, _⟩ := hSW
              go_simp
              try with_reducible rfl
            try simp only [Act.put]
            refine wpAnyH_take (i := 26) (v := ?_) rfl (by kernel_rfl) (by kernel_rfl) (by kernel_rfl) (fun _ _ _ h => h) (Or.inl ⟨by kernel_rfl, ?_⟩) (by assumption) ?_
            rotate_left
            · intro W hSW
              try dsimp only at hSW
              obtain ⟨q0, q1, q7, _⟩ := hSW
              go_simp
              try with_reducible rfl
            try simp only [Act.put]
            refine wpAnyH_take (i := 27) (v := ?_) rfl (by kernel_rfl) (by kernel_rfl) (by kernel_rfl) (fun _ _ _ h => h) (Or.inl ⟨by kernel_rfl, ?_⟩) (by assumption) ?_
            rotate_left
            · intro W hSW
              try dsimp only at hSW
              obtain ⟨q0, q1, q7, _⟩ := hSW
              go_simp
              try with_reducible rfl
            try simp only [Act.put]
            refine wpAnyH_take (i := 28) (v := ?_) rfl (by kernel_rfl) (by kernel_rfl) (by kernel_rfl) (fun _ _ _ h => h) (Or.inl ⟨by kernel_rfl, ?_⟩) (by assumption) ?_
            rotate_left
            · intro W hSW
              try dsimp only at hSW
              obtain ⟨q0, q1, q7, _⟩ := hSW
              go_simp
              try with_reducible rfl
            try simp only [Act.put]
            refine wpAnyH_take (i := 29) (v := ?_) rfl (by kernel_rfl) (by kernel_rfl) (by kernel_rfl) (fun _ _ _ h => h) (Or.inl ⟨by kernel_rfl, ?_⟩) (by assumption) ?_
            rotate_left
            · intro W hSW
              try dsimp only at hSW
              obtain ⟨q0, q1, q7, _⟩ := hSW
              go_simp
              try with_reducible rfl
            try simp only [Act.put]
            refine wpAnyH_ready (rs := [24]) (by kernel_rfl) (by simp) ?_
            refine AllReadyH.cons rfl (fun K hK => ?_) AllReadyH.nil
            rw [if_pos (by kernel_rfl)]
            go_simp
            with_reducible refine (K4.out Xb cb _ hs1).mono ?_
            rintro x wd ⟨rfl, hs2⟩
            go_wp2_with fail
            refine hK.out _ _ hs2 (fun _ => ?_)
            clear hK K
            try simp only [Act.put, List.setIfInBounds_toArray, List.set_cons_zero, List.set_cons_succ]
            refine wpAnyH_take (i := 30) (v := ?_) rfl (by kernel_rfl) (by kernel_rfl) (by kernel_rfl) (fun _ _ _ h => h) (Or.inl ⟨by kernel_rfl, ?_⟩) (by assumption) ?_
            rotate_left
            · intro W hSW
              try dsimp only at hSW
              obtain ⟨q0, q1, q7, _⟩ := hSW
              go_simp
              try with_reducible rfl
            try simp only [Act.put, List.setIfInBounds_toArray]
            refine wpAnyH_take (i := 31) (v := ?_) rfl (by kernel_rfl) (by kernel_rfl) (by kernel_rfl) (fun _ _ _ h => h) (Or.inl ⟨by kernel_rfl, ?_⟩) (by assumption) ?_
            rotate_left
            · intro W hSW
              try dsimp only at hSW
              obtain ⟨q0, q1, q7, _⟩ := hSW
              go_simp
              try with_reducible rfl
            try simp only [Act.put]
            refine wpAnyH_take (i := 32) (v := ?_) rfl (by kernel_rfl) (by kernel_rfl) (by kernel_rfl) (fun _ _ _ h => h) (Or.inl ⟨by kernel_rfl, ?_⟩) (by assumption) ?_
            rotate_left
            · intro W hSW
              try dsimp only at hSW
              obtain ⟨q0, q1, q7, _⟩ := hSW
              go_simp
              try with_reducible rfl
            try simp only [Act.put]
            refine wpAnyH_take (i := 33) (v := ?_) rfl (by kernel_rfl) (by kernel_rfl) (by kernel_rfl) (fun _ _ _ h => h) (Or.inl ⟨by kernel_rfl, ?_⟩) (by assumption) ?_
            rotate_left
            · intro W hSW
              try dsimp only at hSW
              obtain ⟨q0, q1, q7, _⟩ := hSW
              go_simp
              try with_reducible rfl
            try simp only [Act.put]
            refine wpAnyH_take (i := 35) (v := ?_) rfl (by kernel_rfl) (by kernel_rfl) (by kernel_rfl) (fun _ _ _ h => h) (Or.inl ⟨by kernel_rfl, ?_⟩) (by assumption) ?_
            rotate_left
            · intro W hSW
              try dsimp only at hSW
              obtain ⟨q0, q1, q7, _⟩ := hSW
              go_simp
              try with_reducible rfl
            try simp only [Act.put]
            refine wpAnyH_take (i := 36) (oi := { dst := some 58, op := _, type := _, pos := _, after := _, guard := _ }) (v := ?_) rfl (by kernel_rfl) (by kernel_rfl) (by kernel_rfl) (fun _ _ _ h => h) (Or.inl ⟨by kernel_rfl, ?_⟩) (by assumption) ?_
            rotate_left
            · intro W hSW
              try dsimp only at hSW
              obtain ⟨q0, q1, q7, _⟩ := hSW
              go_simp
              try with_reducible rfl
            try simp only [Act.put]
            refine wpAnyH_take (i := 37) (oi := { dst := some 59, op := _, type := _, pos := _, after := _, guard := _ }) (v := ?_) rfl (by kernel_rfl) (by kernel_rfl) (by kernel_rfl) (fun _ _ _ h => h) (Or.inl ⟨by kernel_rfl, ?_⟩) (by assumption) ?_
            rotate_left
            · intro W hSW
              try dsimp only at hSW
              obtain ⟨q0, q1, q7, _⟩ := hSW
              go_simp
              try with_reducible rfl
            try simp only [Act.put]
            refine wpAnyH_take (i := 38) (oi := { dst := some 60, op := _, type := _, pos := _, after := _, guard := _ }) (v := ?_) rfl (by kernel_rfl) (by kernel_rfl) (by kernel_rfl) (fun _ _ _ h => h) (Or.inl ⟨by kernel_rfl, ?_⟩) (by assumption) ?_
            rotate_left
            · intro W hSW
              try dsimp only at hSW
              obtain ⟨q0, q1, q7, _⟩ := hSW
              go_simp
              try with_reducible rfl
            try simp only [Act.put]
            refine wpAnyH_ready (rs := [34]) (by kernel_rfl) (by simp) ?_
            refine AllReadyH.cons rfl (fun K hK => ?_) AllReadyH.nil
            rw [if_pos (by kernel_rfl)]
            go_simp
            with_reducible refine (K5.out Xb cb _ hs2).mono ?_
            rintro x we ⟨rfl, hs3⟩
            go_wp2_with fail
            refine hK.out _ _ hs3 (fun _ => ?_)
            clear hK K
            try simp only [Act.put, List.setIfInBounds_toArray, List.set_cons_zero, List.set_cons_succ]
            refine wpAnyH_take (i := 39) (oi := { dst := some 61, op := _, type := _, pos := _, after := _, guard := _ }) (v := ?_) rfl (by kernel_rfl) (by kernel_rfl) (by kernel_rfl) (fun _ _ _ h => h) (Or.inl ⟨by kernel_rfl, ?_⟩) (by assumption) ?_
            rotate_left
            · intro W hSW
              try dsimp only at hSW
              obtain ⟨q0, q1, q7, _⟩ := hSW
              go_simp
              try with_reducible rfl
            try simp only [Act.put, List.setIfInBounds_toArray, List.set_cons_zero, List.set_cons_succ]
            refine wpAnyH_take (i := 40) (oi := { dst := some 62, op := _, type := _, pos := _, after := _, guard := _ }) (v := ?_) rfl (by kernel_rfl) (by kernel_rfl) (by kernel_rfl) (fun _ _ _ h => h) (Or.inl ⟨by kernel_rfl, ?_⟩) (by assumption) ?_
            rotate_left
            · intro W hSW
              try dsimp only at hSW
              obtain ⟨q0, q1, q7, _⟩ := hSW
              go_simp
              try with_reducible rfl
            try simp only [Act.put, List.setIfInBounds_toArray, List.set_cons_zero, List.set_cons_succ]
            refine wpAnyH_done (by kernel_rfl) ?_ _
            refine NoPanic.normal ?_
            go_wp2_with fail
            go_meet
            exact ⟨rfl, Lib.hid hs3.2.2.2⟩
          · go_simp
            refine hK _ _ ?_
            clear hK K
            try simp only [Act.put, List.setIfInBounds_toArray, List.set_cons_zero, List.set_cons_succ]
            refine wpAny_ready (rs := [5]) (by kernel_rfl) (by simp) ?_
            refine AllReady.cons rfl (fun K hK => ?_) AllReady.nil
            go_simp
            with_reducible refine (K1.out _ T0.out).mono ?_
            rintro x wa ⟨rfl, ta, ya0, ya1, ya2, ya3⟩
            go_wp2_with fail
            try simp only [Act.put, List.setIfInBounds_toArray, List.set_cons_zero, List.set_cons_succ]
            refine wpAny_ready (rs := [11]) (by kernel_rfl) (by simp) ?_
            refine AllReady.cons rfl (fun K hK => ?_) AllReady.nil
            go_simp
            with_reducible refine (K2.out _ ta).mono ?_
            rintro x wb ⟨rfl, tb, Xb, cb, yb0, yb1, yb7⟩
            go_wp2_with fail
            try simp only [Act.put, List.setIfInBounds_toArray, List.set_cons_zero, List.set_cons_succ]
            have hs0 : (fun W => W.cell? ⟨h, 0, none⟩ = some (.slice Xb ol cb) ∧ W.cell? ⟨h, 1, none⟩ = some (.bool B) ∧ W.cell? ⟨h, 7, none⟩ = some (.int .i64 (N : Int)) ∧ Two w g h S2 S2 W) wb := ⟨yb0, yb1, yb7, tb⟩
            refine wpAny_of_held (S := fun W => W.cell? ⟨h, 0, none⟩ = some (.slice Xb ol cb) ∧ W.cell? ⟨h, 1, none⟩ = some (.bool B) ∧ W.cell? ⟨h, 7, none⟩ = some (.int .i64 (N : Int)) ∧ Two w g h S2 S2 W) _ _ _ _ ?_
            clear yb0 yb1 yb7
            refine wpAnyH_take (i := 12) (v := ?_) rfl (by kernel_rfl) (by kernel_rfl) (by kernel_rfl) (fun _ _ _ h => h) (Or.inl ⟨by kernel_rfl, ?_⟩) (by assumption) ?_
            rotate_left
            · intro W hSW
              try dsimp only at hSW
              obtain ⟨q0, q1, q7, _⟩ := hSW
              go_simp
              try with_reducible rfl
            try simp only [Act.put, List.setIfInBounds_toArray]
            refine wpAnyH_take (i := 13) (v := ?_) rfl (by kernel_rfl) (by kernel_rfl) (by kernel_rfl) (fun _ _ _ h => h) (Or.inl ⟨by kernel_rfl, ?_⟩) (by assumption) ?_
            rotate_left
            · intro W hSW
              try dsimp only at hSW
              obtain ⟨q0, q1, q7, _⟩ := hSW
              go_simp
              try with_reducible rfl
            try simp only [Act.put]
            refine wpAnyH_take (i := 14) (v := ?_) rfl (by kernel_rfl) (by kernel_rfl) (by kernel_rfl) (fun _ _ _ h => h) (Or.inl ⟨by kernel_rfl, ?_⟩) (by assumption) ?_
            rotate_left
            · intro W hSW
              try dsimp only at hSW
              obtain ⟨q0, q1, q7, _⟩ := hSW
              go_simp
              try with_reducible rfl
            try simp only [Act.put]
            refine wpAnyH_take (i := 16) (v := ?_) rfl (by kernel_rfl) (by kernel_rfl) (by kernel_rfl) (fun _ _ _ h => h) (Or.inl ⟨by kernel_rfl, ?_⟩) (by assumption) ?_
            rotate_left
            · intro W hSW
              try dsimp only at hSW
              obtain ⟨q0, q1, q7, _⟩ := hSW
              go_simp
              try with_reducible rfl
            try simp only [Act.put]
            refine wpAnyH_take (i := 17) (v := ?_) rfl (by kernel_rfl) (by kernel_rfl) (by kernel_rfl) (fun _ _ _ h => h) (Or.inl ⟨by kernel_rfl, ?_⟩) (by assumption) ?_
            rotate_left
            · intro W hSW
              try dsimp only at hSW
              obtain ⟨q0, q1, q7, _⟩ := hSW
              go_simp
              try with_reducible rfl
            try simp only [Act.put]
            refine wpAnyH_take (i := 18) (v := ?_) rfl (by kernel_rfl) (by kernel_rfl) (by kernel_rfl) (fun _ _ _ h => h) (Or.inl ⟨by kernel_rfl, ?_⟩) (by assumption) ?_
            rotate_left
            · intro W hSW
              try dsimp only at hSW
              obtain ⟨q0, q1, q7, _⟩ := hSW
              go_simp
              try with_reducible rfl
            try simp only [Act.put]
            refine wpAnyH_take (i := 19) (v := ?_) rfl (by kernel_rfl) (by kernel_rfl) (by kernel_rfl) (fun _ _ _ h => h) (Or.inl ⟨by kernel_rfl, ?_⟩) (by assumption) ?_
            rotate_left
            · intro W hSW
              try dsimp only at hSW
              obtain ⟨q0, q1, q7, _⟩ := hSW
              go_simp
              try with_reducible rfl
            try simp only [Act.put]
            refine wpAnyH_ready (rs := [15]) (by kernel_rfl) (by simp) ?_
            refine AllReadyH.cons rfl (fun K hK => ?_) AllReadyH.nil
            rw [if_pos (by kernel_rfl)]
            go_simp
            with_reducible refine (K3.out Xb cb _ hs0).mono ?_
            rintro x wc ⟨rfl, hs1⟩
            go_wp2_with fail
            refine hK.out _ _ hs1 (fun _ => ?_)
            clear hK K
            try simp only [Act.put, List.setIfInBounds_toArray, List.set_cons_zero, List.set_cons_succ]
            refine wpAnyH_take (i := 20) (v := ?_) rfl (by kernel_rfl) (by kernel_rfl) (by kernel_rfl) (fun _ _ _ h => h) (Or.inl ⟨by kernel_rfl, ?_⟩) (by assumption) ?_
            rotate_left
            · intro W hSW
              try dsimp only at hSW
              obtain ⟨q0, q1, q7, _⟩ := hSW
              go_simp
              try with_reducible rfl
            try simp only [Act.put, List.setIfInBounds_toArray]
            refine wpAnyH_take (i := 21) (v := ?_) rfl (by kernel_rfl) (by kernel_rfl) (by kernel_rfl) (fun _ _ _ h => h) (Or.inl ⟨by kernel_rfl, ?_⟩) (by assumption) ?_
            rotate_left
            · intro W hSW
              try dsimp only at hSW
              obtain ⟨q0, q1, q7, _⟩ := hSW
              go_simp
              try with_reducible rfl
            try simp only [Act.put]
            refine wpAnyH_take (i := 22) (v := ?_) rfl (by kernel_rfl) (by kernel_rfl) (by kernel_rfl) (fun _ _ _ h => h) (Or.inl ⟨by kernel_rfl, ?_⟩) (by assumption) ?_
            rotate_left
            · intro W hSW
              try dsimp only at hSW
              obtain ⟨q0, q1, q7, _⟩ := hSW
              go_simp
              try with_reducible rfl
            try simp only [Act.put]
            refine wpAnyH_take (i := 23) (v := ?_) rfl (by kernel_rfl) (by kernel_rfl) (by kernel_rfl) (fun _ _ _ h => h) (Or.inl ⟨by kernel_rfl, ?_⟩) (by assumption) ?_
            rotate_left
            · intro W hSW
              try dsimp only at hSW
              obtain ⟨q0, q1, q7, _⟩ := hSW
              go_simp
              try with_reducible rfl
            try simp only [Act.put]
            refine wpAnyH_take (i := 25) (v := ?_) rfl (by kernel_rfl) (by kernel_rfl) (by kernel_rfl) (fun _ _ _ h => h) (Or.inl ⟨by kernel_rfl, ?_⟩) (by assumption) ?_
            rotate_left
            · intro W hSW
              try dsimp only at hSW
              obtain ⟨q0, q1, q7, _⟩ := hSW
              go_simp
              try with_reducible rfl
            try simp only [Act.put]
            refine wpAnyH_take (i := 26) (v := ?_) rfl (by kernel_rfl) (by kernel_rfl) (by kernel_rfl) (fun _ _ _ h => h) (Or.inl ⟨by kernel_rfl, ?_⟩) (by assumption) ?_
            rotate_left
            · intro W hSW
              try dsimp only at hSW
              obtain ⟨q0, q1, q7, _⟩ := hSW
              go_simp
              try with_reducible rfl
            try simp only [Act.put]
            refine wpAnyH_take (i := 27) (v := ?_) rfl (by kernel_rfl) (by kernel_rfl) (by kernel_rfl) (fun _ _ _ h => h) (Or.inl ⟨by kernel_rfl, ?_⟩) (by assumption) ?_
            rotate_left
            · intro W hSW
              try dsimp only at hSW
              obtain ⟨q0, q1, q7, _⟩ := hSW
              go_simp
              try with_reducible rfl
            try simp only [Act.put]
            refine wpAnyH_take (i := 28) (v := ?_) rfl (by kernel_rfl) (by kernel_rfl) (by kernel_rfl) (fun _ _ _ h => h) (Or.inl ⟨by kernel_rfl, ?_⟩) (by assumption) ?_
            rotate_left
            · intro W hSW
              try dsimp only at hSW
              obtain ⟨q0, q1, q7, _⟩ := hSW
              go_simp
              try with_reducible rfl
            try simp only [Act.put]
            refine wpAnyH_take (i := 29) (v := ?_) rfl (by kernel_rfl) (by kernel_rfl) (by kernel_rfl) (fun _ _ _ h => h) (Or.inl ⟨by kernel_rfl, ?_⟩) (by assumption) ?_
            rotate_left
            · intro W hSW
              try dsimp only at hSW
              obtain ⟨q0, q1, q7, _⟩ := hSW
              go_simp
              try with_reducible rfl
            try simp only [Act.put]
            refine wpAnyH_ready (rs := [24]) (by kernel_rfl) (by simp) ?_
            refine AllReadyH.cons rfl (fun K hK => ?_) AllReadyH.nil
            rw [if_pos (by kernel_rfl)]
            go_simp
            with_reducible refine (K4.out Xb cb _ hs1).mono ?_
            rintro x wd ⟨rfl, hs2⟩
            go_wp2_with fail
            refine hK.out _ _ hs2 (fun _ => ?_)
            clear hK K
            try simp only [Act.put, List.setIfInBounds_toArray, List.set_cons_zero, List.set_cons_succ]
            refine wpAnyH_take (i := 30) (v := ?_) rfl (by kernel_rfl) (by kernel_rfl) (by kernel_rfl) (fun _ _ _ h => h) (Or.inl ⟨by kernel_rfl, ?_⟩) (by assumption) ?_
            rotate_left
            · intro W hSW
              try dsimp only at hSW
              obtain ⟨q0, q1, q7, _⟩ := hSW
              go_simp
              try with_reducible rfl
            try simp only [Act.put, List.setIfInBounds_toArray]
            refine wpAnyH_take (i := 31) (v := ?_) rfl (by kernel_rfl) (by kernel_rfl) (by kernel_rfl) (fun _ _ _ h => h) (Or.inl ⟨by kernel_rfl, ?_⟩) (by assumption) ?_
            rotate_left
            · intro W hSW
              try dsimp only at hSW
              obtain ⟨q0, q1, q7, _⟩ := hSW
              go_simp
              try with_reducible rfl
            try simp only [Act.put]
            refine wpAnyH_take (i := 32) (v := ?_) rfl (by kernel_rfl) (by kernel_rfl) (by kernel_rfl) (fun _ _ _ h => h) (Or.inl ⟨by kernel_rfl, ?_⟩) (by assumption) ?_
            rotate_left
            · intro W hSW
              try dsimp only at hSW
              obtain ⟨q0, q1, q7, _⟩ := hSW
              go_simp
              try with_reducible rfl
            try simp only [Act.put]
            refine wpAnyH_take (i := 33) (v := ?_) rfl (by kernel_rfl) (by kernel_rfl) (by kernel_rfl) (fun _ _ _ h => h) (Or.inl ⟨by kernel_rfl, ?_⟩) (by assumption) ?_
            rotate_left
            · intro W hSW
              try dsimp only at hSW
              obtain ⟨q0, q1, q7, _⟩ := hSW
              go_simp
              try with_reducible rfl
            try simp only [Act.put]
            refine wpAnyH_take (i := 35) (v := ?_) rfl (by kernel_rfl) (by kernel_rfl) (by kernel_rfl) (fun _ _ _ h => h) (Or.inl ⟨by kernel_rfl, ?_⟩) (by assumption) ?_
            rotate_left
            · intro W hSW
              try dsimp only at hSW
              obtain ⟨q0, q1, q7, _⟩ := hSW
              go_simp
              try with_reducible rfl
            try simp only [Act.put]
            refine wpAnyH_take (i := 36) (oi := { dst := some 58, op := _, type := _, pos := _, after := _, guard := _ }) (v := ?_) rfl (by kernel_rfl) (by kernel_rfl) (by kernel_rfl) (fun _ _ _ h => h) (Or.inl ⟨by kernel_rfl, ?_⟩) (by assumption) ?_
            rotate_left
            · intro W hSW
              try dsimp only at hSW
              obtain ⟨q0, q1, q7, _⟩ := hSW
              go_simp
              try with_reducible rfl
            try simp only [Act.put]
            refine wpAnyH_take (i := 37) (oi := { dst := some 59, op := _, type := _, pos := _, after := _, guard := _ }) (v := ?_) rfl (by kernel_rfl) (by kernel_rfl) (by kernel_rfl) (fun _ _ _ h => h) (Or.inl ⟨by kernel_rfl, ?_⟩) (by assumption) ?_
            rotate_left
            · intro W hSW
              try dsimp only at hSW
              obtain ⟨q0, q1, q7, _⟩ := hSW
              go_simp
              try with_reducible rfl
            try simp only [Act.put]
            refine wpAnyH_take (i := 38) (oi := { dst := some 60, op := _, type := _, pos := _, after := _, guard := _ }) (v := ?_) rfl (by kernel_rfl) (by kernel_rfl) (by kernel_rfl) (fun _ _ _ h => h) (Or.inl ⟨by kernel_rfl, ?_⟩) (by assumption) ?_
            rotate_left
            · intro W hSW
              try dsimp only at hSW
              obtain ⟨q0, q1, q7, _⟩ := hSW
              go_simp
              try with_reducible rfl
            try simp only [Act.put]
            refine wpAnyH_ready (rs := [34]) (by kernel_rfl) (by simp) ?_
            refine AllReadyH.cons rfl (fun K hK => ?_) AllReadyH.nil
            rw [if_pos (by kernel_rfl)]
            go_simp
            with_reducible refine (K5.out Xb cb _ hs2).mono ?_
            rintro x we ⟨rfl, hs3⟩
            go_wp2_with fail
            refine hK.out _ _ hs3 (fun _ => ?_)
            clear hK K
            try simp only [Act.put, List.setIfInBounds_toArray, List.set_cons_zero, List.set_cons_succ]
            refine wpAnyH_take (i := 39) (oi := { dst := some 61, op := _, type := _, pos := _, after := _, guard := _ }) (v := ?_) rfl (by kernel_rfl) (by kernel_rfl) (by kernel_rfl) (fun _ _ _ h => h) (Or.inl ⟨by kernel_rfl, ?_⟩) (by assumption) ?_
            rotate_left
            · intro W hSW
              try dsimp only at hSW
              obtain ⟨q0, q1, q7, _⟩ := hSW
              go_simp
              try with_reducible rfl
            try simp only [Act.put, List.setIfInBounds_toArray, List.set_cons_zero, List.set_cons_succ]
            refine wpAnyH_take (i := 40) (oi := { dst := some 62, op := _, type := _, pos := _, after := _, guard := _ }) (v := ?_) rfl (by kernel_rfl) (by kernel_rfl) (by kernel_rfl) (fun _ _ _ h => h) (Or.inl ⟨by kernel_rfl, ?_⟩) (by assumption) ?_
            rotate_left
            · intro W hSW
              try dsimp only at hSW
              obtain ⟨q0, q1, q7, _⟩ := hSW
              go_simp
              try with_reducible rfl
            try simp only [Act.put, List.setIfInBounds_toArray, List.set_cons_zero, List.set_cons_succ]
            refine wpAnyH_done (by kernel_rfl) ?_ _
            refine NoPanic.normal ?_
            go_wp2_with fail
            go_meet
            exact ⟨rfl, Lib.hid hs3.2.2.2⟩
        · go_simp
          refine hK _ _ ?_
          clear hK K
          try simp only [Act.put, List.setIfInBounds_toArray, List.set_cons_zero, List.set_cons_succ]
          refine wpAny_ready (rs := [4]) (by kernel_rfl) (by simp) ?_
          refine AllReady.cons rfl (fun K hK => ?_) AllReady.nil
          go_simp
          refine hK _ _ ?_
          clear hK K
          try simp only [Act.put, List.setIfInBounds_toArray, List.set_cons_zero, List.set_cons_succ]
          refine wpAny_ready (rs := [5]) (by kernel_rfl) (by simp) ?_
          refine AllReady.cons rfl (fun K hK => ?_) AllReady.nil
          go_simp
          with_reducible refine (K1.out _ T0.out).mono ?_
          rintro x wa ⟨rfl, ta, ya0, ya1, ya2, ya3⟩
          go_wp2_with fail
          try simp only [Act.put, List.setIfInBounds_toArray, List.set_cons_zero, List.set_cons_succ]
          refine wpAny_ready (rs := [11]) (by kernel_rfl) (by simp) ?_
          refine AllReady.cons rfl (fun K hK => ?_) AllReady.nil
          go_simp
          with_reducible refine (K2.out _ ta).mono ?_
          rintro x wb ⟨rfl, tb, Xb, cb, yb0, yb1, yb7⟩
          go_wp2_with fail
          try simp only [Act.put, List.setIfInBounds_toArray, List.set_cons_zero, List.set_cons_succ]
          have hs0 : (fun W => W.cell? ⟨h, 0, none⟩ = some (.slice Xb ol cb) ∧ W.cell? ⟨h, 1, none⟩ = some (.bool B) ∧ W.cell? ⟨h, 7, none⟩ = some (.int .i64 (N : Int)) ∧ Two w g h S2 S2 W) wb := ⟨yb0, yb1, yb7, tb⟩
          refine wpAny_of_held (S := fun W => W.cell? ⟨h, 0, none⟩ = some (.slice Xb ol cb) ∧ W.cell? ⟨h, 1, none⟩ = some (.bool B) ∧ W.cell? ⟨h, 7, none⟩ = some (.int .i64 (N : Int)) ∧ Two w g h S2 S2 W) _ _ _ _ ?_
          clear yb0 yb1 yb7
          refine wpAnyH_take (i := 12) (v := ?_) rfl (by kernel_rfl) (by kernel_rfl) (by kernel_rfl) (fun _ _ _ h => h) (Or.inl ⟨by kernel_rfl, ?_⟩) (by assumption) ?_
          rotate_left
          · intro W hSW
            try dsimp only at hSW
            obtain ⟨q0, q1, q7, _⟩ := hSW
            go_simp
            try with_reducible rfl
          try simp only [Act.put, List.setIfInBounds_toArray]
          refine wpAnyH_take (i := 13) (v := ?_) rfl (by kernel_rfl) (by kernel_rfl) (by kernel_rfl) (fun _ _ _ h => h) (Or.inl ⟨by kernel_rfl, ?_⟩) (by assumption) ?_
          rotate_left
          · intro W hSW
            try dsimp only at hSW
            obtain ⟨q0, q1, q7, _⟩ := hSW
            go_simp
            try with_reducible rfl
          try simp only [Act.put]
          refine wpAnyH_take (i := 14) (v := ?_) rfl (by kernel_rfl) (by kernel_rfl) (by kernel_rfl) (fun _ _ _ h => h) (Or.inl ⟨by kernel_rfl, ?_⟩) (by assumption) ?_
          rotate_left
          · intro W hSW
            try dsimp only at hSW
            obtain ⟨q0, q1, q7, _⟩ := hSW
            go_simp
            try with_reducible rfl
          try simp only [Act.put]
          refine wpAnyH_take (i := 16) (v := ?_) rfl (by kernel_rfl) (by kernel_rfl) (by kernel_rfl) (fun _ _ _ h => h) (Or.inl ⟨by kernel_rfl, ?_⟩) (by assumption) ?_
          rotate_left
          · intro W hSW
            try dsimp only at hSW
            obtain ⟨q0, q1, q7, _⟩ := hSW
            go_simp
            try with_reducible rfl
          try simp only [Act.put]
          refine wpAnyH_take (i := 17) (v := ?_) rfl (by kernel_rfl) (by kernel_rfl) (by kernel_rfl) (fun _ _ _ h => h) (Or.inl ⟨by kernel_rfl, ?_⟩) (by assumption) ?_
          rotate_left
          · intro W hSW
            try dsimp only at hSW
            obtain ⟨q0, q1, q7, _⟩ := hSW
            go_simp
            try with_reducible rfl
          try simp only [Act.put]
          refine wpAnyH_take (i := 18) (v := ?_) rfl (by kernel_rfl) (by kernel_rfl) (by kernel_rfl) (fun _ _ _ h => h) (Or.inl ⟨by kernel_rfl, ?_⟩) (by assumption) ?_
          rotate_left
          · intro W hSW
            try dsimp only at hSW
            obtain ⟨q0, q1, q7, _⟩ := hSW
            go_simp
            try with_reducible rfl
          try simp only [Act.put]
          refine wpAnyH_take (i := 19) (v := ?_) rfl (by kernel_rfl) (by kernel_rfl) (by kernel_rfl) (fun _ _ _ h => h) (Or.inl ⟨by kernel_rfl, ?_⟩) (by assumption) ?_
          rotate_left
          · intro W hSW
            try dsimp only at hSW
            obtain ⟨q0, q1, q7, _⟩ := hSW
            go_simp
            try with_reducible rfl
          try simp only [Act.put]
          refine wpAnyH_ready (rs := [15]) (by kernel_rfl) (by simp) ?_
          refine AllReadyH.cons rfl (fun K hK => ?_) AllReadyH.nil
          rw [if_pos (by kernel_rfl)]
          go_simp
          with_reducible refine (K3.out Xb cb _ hs0).mono ?_
          rintro x wc ⟨rfl, hs1⟩
          go_wp2_with fail
          refine hK.out _ _ hs1 (fun _ => ?_)
          clear hK K
          try simp only [Act.put, List.setIfInBounds_toArray, List.set_cons_zero, List.set_cons_succ]
          refine wpAnyH_take (i := 20) (v := ?_) rfl (by kernel_rfl) (by kernel_rfl) (by kernel_rfl) (fun _ _ _ h => h) (Or.inl ⟨by kernel_rfl, ?_⟩) (by assumption) ?_
          rotate_left
          · intro W hSW
            try dsimp only at hSW
            obtain ⟨q0, q1, q7, _⟩ := hSW
            go_simp
            try with_reducible rfl
          try simp only [Act.put, List.setIfInBounds_toArray]
          refine wpAnyH_take (i := 21) (v := ?_) rfl (by kernel_rfl) (by kernel_rfl) (by kernel_rfl) (fun _ _ _ h => h) (Or.inl ⟨by kernel_rfl, ?_⟩) (by assumption) ?_
          rotate_left
          · intro W hSW
            try dsimp only at hSW
            obtain ⟨q0, q1, q7, _⟩ := hSW
            go_simp
            try with_reducible rfl
          try simp only [Act.put]
          refine wpAnyH_take (i := 22) (v := ?_) rfl (by kernel_rfl) (by kernel_rfl) (by kernel_rfl) (fun _ _ _ h => h) (Or.inl ⟨by kernel_rfl, ?_⟩) (by assumption) ?_
          rotate_left
          · intro W hSW
            try dsimp only at hSW
            obtain ⟨q0, q1, q7, _⟩ := hSW
            go_simp
            try with_reducible rfl
          try simp only [Act.put]
          refine wpAnyH_take (i := 23) (v := ?_) rfl (by kernel_rfl) (by kernel_rfl) (by kernel_rfl) (fun _ _ _ h => h) (Or.inl ⟨by kernel_rfl, ?_⟩) (by assumption) ?_
          rotate_left
          · intro W hSW
            try dsimp only at hSW
            obtain ⟨q0, q1, q7, _⟩ := hSW
            go_simp
            try with_reducible rfl
          try simp only [Act.put]
          refine wpAnyH_take (i := 25) (v := ?_) rfl (by kernel_rfl) (by kernel_rfl) (by kernel_rfl) (fun _ _ _ h => h) (Or.inl ⟨by kernel_rfl, ?_⟩) (by assumption) ?_
          rotate_left
          · intro W hSW
            try dsimp only at hSW
            obtain ⟨q0, q1, q7, _⟩ := hSW
            go_simp
            try with_reducible rfl
          try simp only [Act.put]
          refine wpAnyH_take (i := 26) (v := ?_) rfl (by kernel_rfl) (by kernel_rfl) (by kernel_rfl) (fun _ _ _ h => h) (Or.inl ⟨by kernel_rfl, ?_⟩) (by assumption) ?_
          rotate_left
          · intro W hSW
            try dsimp only at hSW
            obtain ⟨q0, q1, q7, _⟩ := hSW
            go_simp
            try with_reducible rfl
          try simp only [Act.put]
          refine wpAnyH_take (i := 27) (v := ?_) rfl (by kernel_rfl) (by kernel_rfl) (by kernel_rfl) (fun _ _ _ h => h) (Or.inl ⟨by kernel_rfl, ?_⟩) (by assumption) ?_
          rotate_left
          · intro W hSW
            try dsimp only at hSW
            obtain ⟨q0, q1, q7, _⟩ := hSW
            go_simp
            try with_reducible rfl
          try simp only [Act.put]
          refine wpAnyH_take (i := 28) (v := ?_) rfl (by kernel_rfl) (by kernel_rfl) (by kernel_rfl) (fun _ _ _ h => h) (Or.inl ⟨by kernel_rfl, ?_⟩) (by assumption) ?_
          rotate_left
          · intro W hSW
            try dsimp only at hSW
            obtain ⟨q0, q1, q7, _⟩ := hSW
            go_simp
            try with_reducible rfl
          try simp only [Act.put]
          refine wpAnyH_take (i := 29) (v := ?_) rfl (by kernel_rfl) (by kernel_rfl) (by kernel_rfl) (fun _ _ _ h => h) (Or.inl ⟨by kernel_rfl, ?_⟩) (by assumption) ?_
          rotate_left
          · intro W hSW
            try dsimp only at hSW
            obtain ⟨q0, q1, q7, _⟩ := hSW
            go_simp
            try with_reducible rfl
          try simp only [Act.put]
          refine wpAnyH_ready (rs := [24]) (by kernel_rfl) (by simp) ?_
          refine AllReadyH.cons rfl (fun K hK => ?_) AllReadyH.nil
          rw [if_pos (by kernel_rfl)]
          go_simp
          with_reducible refine (K4.out Xb cb _ hs1).mono ?_
          rintro x wd ⟨rfl, hs2⟩
          go_wp2_with fail
          refine hK.out _ _ hs2 (fun _ => ?_)
          clear hK K
          try simp only [Act.put, List.setIfInBounds_toArray, List.set_cons_zero, List.set_cons_succ]
          refine wpAnyH_take (i := 30) (v := ?_) rfl (by kernel_rfl) (by kernel_rfl) (by kernel_rfl) (fun _ _ _ h => h) (Or.inl ⟨by kernel_rfl, ?_⟩) (by assumption) ?_
          rotate_left
          · intro W hSW
            try dsimp only at hSW
            obtain ⟨q0, q1, q7, _⟩ := hSW
            go_simp
            try with_reducible rfl
          try simp only [Act.put, List.setIfInBounds_toArray]
          refine wpAnyH_take (i := 31) (v := ?_) rfl (by kernel_rfl) (by kernel_rfl) (by kernel_rfl) (fun _ _ _ h => h) (Or.inl ⟨by kernel_rfl, ?_⟩) (by assumption) ?_
          rotate_left
          · intro W hSW
            try dsimp only at hSW
            obtain ⟨q0, q1, q7, _⟩ := hSW
            go_simp
            try with_reducible rfl
          try simp only [Act.put]
          refine wpAnyH_take (i := 32) (v := ?_) rfl (by kernel_rfl) (by kernel_rfl) (by kernel_rfl) (fun _ _ _ h => h) (Or.inl ⟨by kernel_rfl, ?_⟩) (by assumption) ?_
          rotate_left
          · intro W hSW
            try dsimp only at hSW
            obtain ⟨q0, q1, q7, _⟩ := hSW
            go_simp
            try with_reducible rfl
          try simp only [Act.put]
          refine wpAnyH_take (i := 33) (v := ?_) rfl (by kernel_rfl) (by kernel_rfl) (by kernel_rfl) (fun _ _ _ h => h) (Or.inl ⟨by kernel_rfl, ?_⟩) (by assumption) ?_
          rotate_left
          · intro W hSW
            try dsimp only at hSW
            obtain ⟨q0, q1, q7, _⟩ := hSW
            go_simp
            try with_reducible rfl
          try simp only [Act.put]
          refine wpAnyH_take (i := 35) (v := ?_) rfl (by kernel_rfl) (by kernel_rfl) (by kernel_rfl) (fun _ _ _ h => h) (Or.inl ⟨by kernel_rfl, ?_⟩) (by assumption) ?_
          rotate_left
          · intro W hSW
            try dsimp only at hSW
            obtain ⟨q0, q1, q7, _⟩ := hSW
            go_simp
            try with_reducible rfl
          try simp only [Act.put]
          refine wpAnyH_take (i := 36) (oi := { dst := some 58, op := _, type := _, pos := _, after := _, guard := _ }) (v := ?_) rfl (by kernel_rfl) (by kernel_rfl) (by kernel_rfl) (fun _ _ _ h => h) (Or.inl ⟨by kernel_rfl, ?_⟩) (by assumption) ?_
          rotate_left
          · intro W hSW
            try dsimp only at hSW
            obtain ⟨q0, q1, q7, _⟩ := hSW
            go_simp
            try with_reducible rfl
          try simp only [Act.put]
          refine wpAnyH_take (i := 37) (oi := { dst := some 59, op := _, type := _, pos := _, after := _, guard := _ }) (v := ?_) rfl (by kernel_rfl) (by kernel_rfl) (by kernel_rfl) (fun _ _ _ h => h) (Or.inl ⟨by kernel_rfl, ?_⟩) (by assumption) ?_
          rotate_left
          · intro W hSW
            try dsimp only at hSW
            obtain ⟨q0, q1, q7, _⟩ := hSW
            go_simp
            try with_reducible rfl
          try simp only [Act.put]
          refine wpAnyH_take (i := 38) (oi := { dst := some 60, op := _, type := _, pos := _, after := _, guard := _ }) (v := ?_) rfl (by kernel_rfl) (by kernel_rfl) (by kernel_rfl) (fun _ _ _ h => h) (Or.inl ⟨by kernel_rfl, ?_⟩) (by assumption) ?_
          rotate_left
          · intro W hSW
            try dsimp only at hSW
            obtain ⟨q0, q1, q7, _⟩ := hSW
            go_simp
            try with_reducible rfl
          try simp only [Act.put]
          refine wpAnyH_ready (rs := [34]) (by kernel_rfl) (by simp) ?_
          refine AllReadyH.cons rfl (fun K hK => ?_) AllReadyH.nil
          rw [if_pos (by kernel_rfl)]
          go_simp
          with_reducible refine (K5.out Xb cb _ hs2).mono ?_
          rintro x we ⟨rfl, hs3⟩
          go_wp2_with fail
          refine hK.out _ _ hs3 (fun _ => ?_)
          clear hK K
          try simp only [Act.put, List.setIfInBounds_toArray, List.set_cons_zero, List.set_cons_succ]
          refine wpAnyH_take (i := 39) (oi := { dst := some 61, op := _, type := _, pos := _, after := _, guard := _ }) (v := ?_) rfl (by kernel_rfl) (by kernel_rfl) (by kernel_rfl) (fun _ _ _ h => h) (Or.inl ⟨by kernel_rfl, ?_⟩) (by assumption) ?_
          rotate_left
          · intro W hSW
            try dsimp only at hSW
            obtain ⟨q0, q1, q7, _⟩ := hSW
            go_simp
            try with_reducible rfl
          try simp only [Act.put, List.setIfInBounds_toArray, List.set_cons_zero, List.set_cons_succ]
          refine wpAnyH_take (i := 40) (oi := { dst := some 62, op := _, type := _, pos := _, after := _, guard := _ }) (v := ?_) rfl (by kernel_rfl) (by kernel_rfl) (by kernel_rfl) (fun _ _ _ h => h) (Or.inl ⟨by kernel_rfl, ?_⟩) (by assumption) ?_
          rotate_left
          · intro W hSW
            try dsimp only at hSW
            obtain ⟨q0, q1, q7, _⟩ := hSW
            go_simp
            try with_reducible rfl
          try simp only [Act.put, List.setIfInBounds_toArray, List.set_cons_zero, List.set_cons_succ]
          refine wpAnyH_done (by kernel_rfl) ?_ _
          refine NoPanic.normal ?_
          go_wp2_with fail
          go_meet
          exact ⟨rfl, Lib.hid hs3.2.2.2⟩
      case rest =>
        obtain ⟨rfl, HT2⟩ := hcut
        obtain ⟨hB, hS2, hgood2⟩ := HB2.out
        obtain ⟨T, hT⟩ : ∃ t, S2.v.getD emp = t := ⟨_, rfl⟩
        obtain ⟨E, hE⟩ : ∃ t : Int, (if B = true then 0 else 3) = t := ⟨_, rfl⟩
        have HE := Lib.hid hE
        obtain ⟨tl, htl⟩ : ∃ n, T.l.length = n := ⟨_, rfl⟩
        have K6 : Hid (∀ W, Two w g h S2 S2 W → Calls Try.prog 11 #[.pointer (some ⟨g, 0, none⟩)] W fun x w' => ∃ A c, x = .returned (.tuple #[.agg #[.int .i64 T.k, .bool T.g, .int .u64 (T.n : Int), .string T.s, .slice A tl c], .int .i64 E]) ∧ Lst w' (.slice A tl c) T.l ∧ Two w g h S2 S2 w') := Lib.hid fun W t => (two_value t hgood2).mono fun x w' ⟨A, m, c, hx, hm, hl, t'⟩ => by
          rw [hT] at hx hm hl
          rw [hm, htl] at hx hl
          rw [hB, hE] at hx
          exact ⟨A, c, hx, hl, t'⟩
        have HCE : Hid (∀ W, Two w g h S2 S2 W → ∃ D d', (W.cell? ⟨h, 1, none⟩ = some (.bool B) ∧ W.cell? ⟨h, 2, none⟩ = some (.int .i64 T.k) ∧ W.cell? ⟨h, 3, none⟩ = some (.bool T.g) ∧ W.cell? ⟨h, 4, none⟩ = some (.int .u64 (T.n : Int)) ∧ W.cell? ⟨h, 5, none⟩ = some (.string T.s) ∧ W.cell? ⟨h, 6, none⟩ = some (.slice D tl d')) ∧ Lst W (.slice D tl d') T.l) := Lib.hid fun W t => by
          obtain ⟨_, D, _, m, d', _, c1, _, c2, c3, c4, c5, c6, hm, hl⟩ := t.cells
          rw [hT] at c2 c3 c4 c5 hm hl
          rw [hB] at c1
          rw [hm, htl] at c6 hl
          exact ⟨D, d', ⟨c1, c2, c3, c4, c5, c6⟩, hl⟩
        have hcnt : cnt T ≤ 65536 := by
          rw [← hT]
          cases hv : S2.v with
          | none => decide
          | some t => exact good_cnt hgood2 t hv
        have K7 : Hid (∀ W A c D d', Lst W (.slice A tl c) T.l → Lst W (.slice D tl d') T.l → Calls Try.prog 12 #[.agg #[.int .i64 T.k, .bool T.g, .int .u64 (T.n : Int), .string T.s, .slice A tl c], .agg #[.int .i64 T.k, .bool T.g, .int .u64 (T.n : Int), .string T.s, .slice D tl d']] W fun x w' => x = .returned (.bool true) ∧ Below W.heap.size W w') := Lib.hid fun W A c D d' h2 h3 => by
          have := same9_any (cnt T) T T (.slice A tl c) (.slice D tl d') W (Nat.le_refl _) (by omega) (by omega) h2 h3
          rw [(eqv_iff T T).2 rfl] at this
          exact this
        clear K1 K2 K3 K4 K5 T0 a0 a1 a2 a3 d0 d1 d2 d3 HEV hB hS2 hgood2 hT htl hcnt ht HR HG HW
        go_wp2_with fail
        refine (K6.out _ HT2.out).mono ?_
        rintro x w3 ⟨A3, c3, rfl, hl3, t3⟩
        obtain ⟨W4, hW4⟩ : ∃ W4, w3.alloc (.cells #[.int .i64 T.k, .bool T.g, .int .u64 (T.n : Int), .string T.s, .slice A3 tl c3] 36) = W4 := ⟨_, rfl⟩
        have H4 : Hid (Two w g h S2 S2 W4 ∧ Bk W4 w3.heap.size 36 #[.int .i64 T.k, .bool T.g, .int .u64 (T.n : Int), .string T.s, .slice A3 tl c3] ∧ Lst W4 (.slice A3 tl c3) T.l) := Lib.hid (by
          rw [← hW4]
          exact ⟨t3.on ((Below.refl _ _).alloc (Nat.le_refl _) _), .new _ _ _, hl3.keep ((Below.refl _ _).alloc (Nat.le_refl _) _) (Nat.le_refl _)⟩)
        clear hl3 t3 HT2 K6
        go_upto_region 11 with fail
        first | rw [hW4] | skip
        clear hW4
        obtain ⟨D, d', ⟨x1, x2, x3, x4, x5, x6⟩, hlD⟩ := HCE.out _ H4.out.1
        have HLD := Lib.hid hlD
        obtain ⟨y0, y1, y2, y3, y4⟩ := H4.out.2.1.c5
        have HTD : Hid (Two w g h S2 S2 W4.drew ∧ Lst W4.drew (.slice A3 tl c3) T.l ∧ Lst W4.drew (.slice D tl d') T.l) := Lib.hid ⟨H4.out.1.on (Below.drew (Below.refl _ _)), H4.out.2.2.keep (Below.drew (Below.refl _ _)) (Nat.le_refl _), hlD.keep (Below.drew (Below.refl _ _)) (Nat.le_refl _)⟩
        have z1 : W4.drew.cell? ⟨h, 1, none⟩ = some (.bool B) := x1
        have z2 : W4.drew.cell? ⟨h, 2, none⟩ = some (.int .i64 T.k) := x2
        have z3 : W4.drew.cell? ⟨h, 3, none⟩ = some (.bool T.g) := x3
        have z4 : W4.drew.cell? ⟨h, 4, none⟩ = some (.int .u64 (T.n : Int)) := x4
        have z5 : W4.drew.cell? ⟨h, 5, none⟩ = some (.string T.s) := x5
        have z6 : W4.drew.cell? ⟨h, 6, none⟩ = some (.slice D tl d') := x6
        have HC1 : Hid (∀ W, Below W4.heap.size W4.drew W → Two w g h S2 S2 W ∧ W.cell? ⟨h, 1, none⟩ = some (.bool B)) := Lib.hid fun W hb => by
          have ht' := HTD.out.1.on hb
          obtain ⟨_, _, ⟨u1, _⟩, _⟩ := HCE.out _ ht'
          exact ⟨ht', u1⟩
        clear hlD HCE H4
        go_cut [95] (fun s95 wx => s95 = .bool false ∧ Hid (Two w g h S2 S2 wx))
        case first =>
          refine wp_region_noPanic ?_
          cases B with
          | true =>
            obtain rfl : 0 = E := HE.out
            first
              | go_region_with (first
                  | (go_at_call 12; (with_reducible refine (K7.out _ _ _ _ _ HTD.out.2.1 HTD.out.2.2).mono ?_); rintro x w5 ⟨rfl, hb5⟩; obtain ⟨t5, u1⟩ := HC1.out w5 hb5))
              | done
            all_goals
              refine NoPanic.normal ?_
              go_wp2_with fail
              go_meet
              exact ⟨rfl, Lib.hid t5⟩
          | false =>
            obtain rfl : 3 = E := HE.out
            go_region
            all_goals
              refine NoPanic.normal ?_
              go_wp2_with fail
              go_meet
              exact ⟨rfl, Lib.hid HTD.out.1⟩
        case rest =>
          obtain ⟨rfl, HF⟩ := hcut
          clear x1 x2 x3 x4 x5 x6 y0 y1 y2 y3 y4 z1 z2 z3 z4 z5 z6 HC1 HTD HLD K7
          go_wp2_with fail
          go_roundw
          case rel => exact ⟨i + 1, hlt, by go_num, Lib.hid (by rw [HSS.out]; exact HF.out)⟩
          case measure => simp [intOf]; omega
    · obtain rfl : i = n := by omega
      have HB := Lib.hid ht.out.b
      go_wp2_with fail
      refine (HA.out _).mono ?_
      rintro x w6 ⟨rfl, hb6⟩
      have HB6 := Lib.hid (HB.out.trans (hb6.mono HB.out.size))
      clear hb6
      go_wp2_with fail
      exact bodyPost_ret (by simp [results, Try.results3, go_sem]) rfl ⟨rfl, HB6.out⟩
end Go.Proofs.Yteebokhpoppgeaa.nn
