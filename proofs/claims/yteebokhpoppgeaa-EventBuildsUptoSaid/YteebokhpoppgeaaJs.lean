/- Joined texts, what is wanted of them: OpenE. -/
import Derived.Lib.Hide
import Derived.Deep.QuietTactic
import Derived.BigQuiet
import Derived.StillTailTactics
import Derived.IntWalk
import Derived.Deep.RegionHeld3
import Derived.Test.YteebokhpoppgeaaProg
import Derived.WalkKit
import Derived.Test.YteebokhpoppgeaaJi
import Derived.Test.YteebokhpoppgeaaJk
import Derived.Test.YteebokhpoppgeaaJa
namespace Go.Proofs.Yteebokhpoppgeaa.nn
open Go.ChangeShapes Go.WideShapes Go.ChangeAt Go.RowKit

theorem Try.cellsE : Try.prog.cellsOf 31 = 4 := by kernel_rfl
/-- an event's numbers are as they are handed over -/
def evOk (e : Ev) : Prop := -9223372036854775808 ≤ e.k ∧ e.k ≤ 9223372036854775807 ∧ e.n < 18446744073709551616
theorem bulk_oneE {H : Type} (d : DataW H) : 1 ≤ Rows.uptoBulk d := by
  cases d with
  | lit l => cases l <;> simp [Rows.uptoBulk]
  | nil => simp [Rows.uptoBulk]
  | ptr d => simp [Rows.uptoBulk]
  | slice elems spare => simp [Rows.uptoBulk]
  | agg parts => simp [Rows.uptoBulk]
  | iface t d => simp [Rows.uptoBulk]
  | map entries => simp [Rows.uptoBulk]
  | held h => simp [Rows.uptoBulk]
theorem bulk_lenE {H : Type} (l : List (DataW H)) : l.length ≤ Rows.uptoBulkAll l := by
  induction l with
  | nil => simp [Rows.uptoBulkAll]
  | cons x r ih => have := bulk_oneE x; simp only [Rows.uptoBulkAll, List.length_cons]; omega
section
variable {H : Type} {enc : TypeId × Value → H} {W : World}
set_option maxRecDepth 100000 in
/-- an event's four cells -/
theorem open_ecells {fuel : Nat} {cs : List Value} {x : DataW H × List MemPlace} (h : DataW.trod enc Try.prog W 0 (fun _ => true) true fuel 31 cs = some x) :
    ∃ e : Ev, cs = evC e ∧ evOk e ∧ Rows.uptoBulk x.1 = e.s.size + 5 ∧ e.s.size ≤ maxLen := by
  obtain ⟨xs, n, _, hx, hlen, hxl, hf⟩ := DataW.trod_struct Try.underlying31 h
  rw [Try.cellsE] at hlen
  match cs, hlen with
  | [c0, c1, c2, c3], _ =>
    match xs, hxl with
    | [y0, y1, y2, y3], _ =>
      have f0 := hf 0 _ rfl
      have f1 := hf 1 _ rfl
      have f2 := hf 2 _ rfl
      have f3 := hf 3 _ rfl
      simp only [List.getElem?_cons_zero, List.getElem?_cons_succ] at f0 f1 f2 f3
      obtain ⟨k, e0, z0, w0⟩ := DataW.trod_int Try.underlying3 f0
      obtain ⟨g, e1, z1⟩ := DataW.trod_bool Try.underlying4 f1
      obtain ⟨u, e2, z2, w2⟩ := DataW.trod_int Try.underlying29 f2
      obtain ⟨s, e3, z3, w3⟩ := DataW.trod_string Try.underlying9 f3
      have hk := wf_i64 w0
      have hu := wf_u64 w2
      obtain ⟨m, rfl⟩ := Int.eq_ofNat_of_zero_le hu.1
      injection e0 with e0 _
      injection e1 with e1 _
      injection e2 with e2 _
      injection e3 with e3 _
      subst e0 e1 e2 e3 z0 z1 z2 z3 hx
      refine ⟨⟨k, g, m, s⟩, rfl, ⟨hk.1, hk.2, by show m < _; omega⟩, ?_, ?_⟩
      · simp only [List.map_cons, List.map_nil, Rows.uptoBulk, Rows.uptoBulkAll, Array.length_toList]
        show _ = s.data.size + 5
        omega
      · exact w3
set_option maxRecDepth 100000 in
/-- an argument that is a list of events -/
theorem open_evs {v : Value} {d : DataW H} {p : List MemPlace} (hok : ∃ a n c, v = .slice a n c) (h : DataW.Trod enc Try.prog W 0 (fun _ => true) true 22 v d p) (hlt : ∀ x ∈ p, x.block < W.heap.size) :
    ∃ (A : Option Addr) (L : List Ev) (c : Nat), v = .slice A L.length c ∧ RdE W A L ∧ L.length ≤ Rows.uptoBulk d ∧ ∀ e, e ∈ L → evOk e ∧ e.s.size ≤ maxLen := by
  obtain ⟨a0, n0, c0, rfl⟩ := hok
  obtain ⟨fuel, hf⟩ := h
  rcases Go.Deep.open_slice Try.underlying22 hf with ⟨h1, h2⟩ | ⟨a, len, cap, m, n, D, Pl, hcs, _, hl, hm, hmm, hx, hi⟩
  · simp [Value.cells] at h1
    obtain ⟨rfl, rfl, rfl⟩ := h1
    exact ⟨none, [], 0, rfl, fun h => absurd rfl h, Nat.zero_le _, fun e he => by cases he⟩
  · simp [Value.cells] at hcs
    obtain ⟨hA0, hN0, hC0⟩ := hcs
    rw [hA0, hN0, hC0]
    clear hA0 hN0 hC0
    simp only [if_true] at hmm
    simp only [Prod.mk.injEq] at hx
    obtain ⟨rfl, rfl⟩ := hx
    rw [Try.cellsE] at hi hlt
    rcases Nat.eq_zero_or_pos len with h0 | h0
    · subst h0
      exact ⟨some a, [], cap, rfl, fun h => absurd rfl h, Nat.zero_le _, fun e he => by cases he⟩
    · obtain ⟨cs0, q1, _⟩ := hi 0 (by omega)
      obtain ⟨b, off, spot⟩ := a
      obtain ⟨_, ql, qc⟩ := World.cells?_some q1
      have hsp : spot = none := by
        have h1 := qc 0 (by omega)
        rw [show (cs0[0]? : Option Value) = some (cs0[0]'(by omega)) from List.getElem?_eq_getElem (by omega)] at h1
        simpa [Addr.add] using World.cell?_spot h1
      subst hsp
      have hb : b < W.heap.size := hlt (.cell b off) (List.mem_append.2 (.inl (MemPlace.mem_row.2 ⟨0, by omega, by simp⟩)))
      have key : ∀ i, i < len → ∃ e : Ev, (∀ j u, (evC e)[j]? = some u → W.cell? ⟨b, off + i * 4 + j, none⟩ = some u) ∧ evOk e ∧ e.s.size ≤ maxLen := by
        intro i hil
        obtain ⟨cs', h1, h2⟩ := hi i (by omega)
        obtain ⟨_, hcl, hat⟩ := World.cells?_some h1
        obtain ⟨e, rfl, hw, _, hs⟩ := open_ecells h2
        refine ⟨e, fun j u hu => ?_, hw, hs⟩
        have hj : j < 4 := (List.getElem?_eq_some_iff.1 hu).1
        have := hat j (by omega)
        rw [blk_add, blk_add] at this
        rw [this]
        exact hu
      have key2 : ∀ i, ∃ e : Ev, i < len → (∀ j u, (evC e)[j]? = some u → W.cell? ⟨b, off + i * 4 + j, none⟩ = some u) ∧ evOk e ∧ e.s.size ≤ maxLen := fun i => by
        by_cases hil : i < len
        · obtain ⟨e, h⟩ := key i hil
          exact ⟨e, fun _ => h⟩
        · exact ⟨evEnd, fun h => absurd h hil⟩
      obtain ⟨T, hT⟩ := Classical.axiomOfChoice key2
      have hlen : ((List.range len).map T).length = len := by simp
      have hget : ∀ i (h : i < ((List.range len).map T).length), ((List.range len).map T)[i] = T i := fun i h => by simp
      refine ⟨some ⟨b, off, none⟩, (List.range len).map T, cap, by rw [hlen], fun _ => ⟨b, off, rfl, hb, fun j u hu => ?_⟩, ?_, fun e he => ?_⟩
      · have hj : j < len * 4 := by have := (List.getElem?_eq_some_iff.1 hu).1; rw [evL_len, hlen] at this; exact this
        obtain ⟨q, r, hr, rfl⟩ : ∃ q r, r < 4 ∧ j = q * 4 + r := ⟨j / 4, j % 4, by omega, by omega⟩
        have hq : q < len := by omega
        obtain ⟨r0, r1, r2, r3⟩ := evL_at (L := (List.range len).map T) (i := q) (by omega)
        rw [hget q (by omega)] at r0 r1 r2 r3
        have hk := (hT q hq).1
        have hcase : r = 0 ∨ r = 1 ∨ r = 2 ∨ r = 3 := by omega
        rw [← Nat.add_assoc]
        rcases hcase with rfl | rfl | rfl | rfl
        · rw [Nat.add_zero, r0] at hu; exact hk 0 u hu
        · rw [r1] at hu; exact hk 1 u hu
        · rw [r2] at hu; exact hk 2 u hu
        · rw [r3] at hu; exact hk 3 u hu
      · simp only [Rows.uptoBulk]
        have h1 := bulk_lenE ((List.range len).map D)
        simp only [List.length_map, List.length_range] at h1
        rw [hlen]
        omega
      · obtain ⟨i, hi, rfl⟩ := List.mem_map.1 he
        exact (hT i (List.mem_range.1 hi)).2
end
end Go.Proofs.Yteebokhpoppgeaa.nn
