/- How the arguments of the laws read: a row of 32-bit limbs, a list of such rows; and the row's last step. -/
import Derived.Test.YtnikoojgoiobjaaDoorRows
import Derived.Test.YtnikoojgoiobjaaDoorLong
import Derived.ProofKit
import Derived.SizedLaws
import Derived.Deep.Matrix
namespace Go.Proofs.YtnikoojgoiobjaaDoor.nn
open Go.ChangeShapes Go.WideShapes Go.ChangeAt Go.RowKit

theorem Tryd.own : ownKnob Tryd.prog.godebug = none := by kernel_rfl
theorem Tryd.laidOut : laidOutB Tryd.prog = true := by kernel_rfl
theorem Tryd.cells32 : Tryd.prog.cellsOf 45 = 1 := by kernel_rfl
theorem Tryd.bytes32 : Tryd.prog.bytesOf 45 = 4 := by kernel_rfl
theorem Tryd.cellsRow : Tryd.prog.cellsOf 22 = 1 := by kernel_rfl
theorem Tryd.bytesRow : Tryd.prog.bytesOf 22 = 24 := by kernel_rfl

theorem wf_u32 {n : Int} (h : (Lit.int .u32 n).wf = true) : 0 ≤ n ∧ n < 4294967296 := by
  have h1 : IntKind.u32.min = 0 := rfl
  have h2 : IntKind.u32.max = 4294967295 := rfl
  simp only [Lit.wf, Bool.and_eq_true, decide_eq_true_eq] at h
  omega

theorem mem_getD {zs : List Int} {i : Nat} (h : i < zs.length) : zs.getD i 0 ∈ zs := by
  have : zs.getD i 0 = zs[i] := by simp [List.getD, h]
  rw [this]
  exact List.getElem_mem h

section
variable {H : Type} {enc : TypeId × Value → H} {W : World}

/-- a row's cells as limbs -/
theorem rd_of_ints {A : Option Addr} {L : Nat} {zs : List Int} (hL : L ≤ zs.length) (hw : ∀ n ∈ zs, (Lit.int .u32 n).wf = true)
    (hc : ∀ a, A = some a → ∀ i, i < zs.length → W.cell? (a.add i) = some (.int .u32 (zs.getD i 0))) (hn : A = none → L = 0) (hlt : ∀ a, A = some a → 0 < L → a.block < W.heap.size) :
    Rd W .u32 A L (fun i => (zs.getD i 0).toNat) ∧ Lt (2 ^ 32) (fun i => (zs.getD i 0).toNat) L := by
  refine ⟨fun h0 => ?_, fun i hi => ?_⟩
  · rcases A with _ | ⟨b, off, spot⟩
    · have := hn rfl; omega
    · have h1 := hc _ rfl
      have hspot : spot = none := by simpa [Addr.add] using World.cell?_spot (h1 0 (by omega))
      subst hspot
      refine ⟨b, off, rfl, hlt _ rfl h0, fun i hi => ?_⟩
      have h2 := h1 i (by omega)
      rw [add_plain] at h2
      have h3 := (wf_u32 (hw _ (mem_getD (by omega : i < zs.length)))).1
      rw [h2]
      congr 2
      show zs.getD i 0 = (((zs.getD i 0).toNat : Nat) : Int)
      omega
  · have h3 := wf_u32 (hw _ (mem_getD (by omega : i < zs.length)))
    show (zs.getD i 0).toNat < 2 ^ 32
    omega

/-- an argument of type []uint32 -/
theorem open_row {v : Value} {d : DataW H} {p : List MemPlace} (hok : ∃ a n c, v = .slice a n c) (h : DataW.Trod enc Tryd.prog W 0 (fun _ => true) true 22 v d p) (hlt : ∀ x ∈ p, x.block < W.heap.size)
    (hsz : ∀ e s, d = .slice e s → (e.length + s.length) * 4 ≤ 140737488351232) :
    ∃ A n c f, v = .slice A n c ∧ Rd W .u32 A n f ∧ Lt (2 ^ 32) f n ∧ n ≤ c ∧ c * 4 ≤ 140737488351232 := by
  obtain ⟨a0, len, cap, rfl⟩ := hok
  obtain ⟨fuel, hf⟩ := h
  rcases open_ints Tryd.underlying22 Tryd.underlying45 Tryd.cells32 hf with ⟨hcs, hx⟩ | ⟨a, len', cap', zs, hcs, _, hl, hm, hz, hx, hcell, hwz⟩
  · simp [Value.cells] at hcs
    obtain ⟨rfl, rfl, rfl⟩ := hcs
    exact ⟨none, 0, 0, fun _ => 0, rfl, Rd.none_, fun _ h => absurd h (by omega), Nat.le_refl _, by omega⟩
  · simp [Value.cells] at hcs
    obtain ⟨rfl, rfl, rfl⟩ := hcs
    simp only [Prod.mk.injEq] at hx
    obtain ⟨rfl, rfl⟩ := hx
    simp only [if_true] at hz
    have hs := hsz _ _ rfl
    simp only [lits, List.length_map, List.length_take, List.length_drop] at hs
    obtain ⟨r1, r2⟩ := rd_of_ints (W := W) (A := some a) (L := len) (zs := zs) (by omega) hwz (fun a' e i hi => by injection e with e; subst e; exact hcell i hi) (fun e => by cases e)
      (fun a' e h0 => by injection e with e; subst e; exact hlt (.cell a.block a.off) (MemPlace.mem_row.2 ⟨0, by omega, by simp⟩))
    exact ⟨some a, len, cap, _, rfl, r1, r2, hl, by omega⟩

theorem weights_in {P : Program} {e : TypeId} {x : DataW H} {k : Nat} (hk : k ∈ x.weights P e) : ∀ {l : List (DataW H)}, x ∈ l → k ∈ DataW.weightsAll P e l
  | [], h => by cases h
  | y :: l, h => by
    simp only [DataW.weightsAll, List.mem_append]
    rcases List.mem_cons.1 h with rfl | h
    · exact .inl hk
    · exact .inr (weights_in hk h)

/-- an argument of type [][]uint32 -/
theorem open_rows {v : Value} {d : DataW H} {p : List MemPlace} (hok : ∃ a n c, v = .slice a n c) (h : DataW.Trod enc Tryd.prog W 0 (fun _ => true) true 68 v d p) (hlt : ∀ x ∈ p, x.block < W.heap.size)
    (hsz : ∀ n ∈ d.weights Tryd.prog 68, n ≤ 140737488351232) :
    ∃ B m c AA L C F, v = .slice B m c ∧ Rds W B m AA L C F ∧ m ≤ c ∧ c * 24 ≤ 140737488351232 ∧ (∀ i, i < m → Lt (2 ^ 32) (F i) (L i)) ∧ ∀ i, i < m → C i * 4 ≤ 140737488351232 := by
  obtain ⟨a0, len, cap, rfl⟩ := hok
  obtain ⟨fuel, hf⟩ := h
  rcases Go.Deep.open_int_rows Tryd.underlying68 Tryd.underlying22 Tryd.underlying45 Tryd.cellsRow Tryd.cells32 hf with ⟨hcs, hx⟩ | ⟨a, len', cap', A, L, C, Z, hcs, _, hl, hm, hx, hcell⟩
  · simp [Value.cells] at hcs
    obtain ⟨rfl, rfl, rfl⟩ := hcs
    exact ⟨none, 0, 0, fun _ => none, fun _ => 0, fun _ => 0, fun _ _ => 0, rfl, fun h => absurd h (by omega), Nat.le_refl _, by omega, fun _ h => absurd h (by omega), fun _ h => absurd h (by omega)⟩
  · simp [Value.cells] at hcs
    obtain ⟨rfl, rfl, rfl⟩ := hcs
    simp only [Prod.mk.injEq] at hx
    obtain ⟨rfl, rfl⟩ := hx
    have hs := hsz (cap * 24) (by
      simp only [DataW.weights, Tryd.underlying68, Tryd.bytesRow, List.length_map, List.length_range]
      exact List.mem_cons.2 (.inl (by congr 1; omega)))
    have hin : ∀ r, r < len → ∀ a', A r = some a' → (Z r).length * 4 ≤ 140737488351232 := fun r hr a' ea => hsz _ (by
      simp only [DataW.weights, Tryd.underlying68]
      refine List.mem_cons.2 (.inr (List.mem_append.2 (.inl (weights_in (x := Go.Deep.intRow .u32 (A r) (L r) (Z r)) ?_ (List.mem_map.2 ⟨r, List.mem_range.2 hr, rfl⟩)))))
      simp only [Go.Deep.intRow, ea, DataW.weights, Tryd.underlying22, Tryd.bytes32, lits, List.length_map, List.length_take, List.length_drop]
      exact List.mem_cons.2 (.inl (by congr 1; omega)))
    have hrow : ∀ r, r < len → Rd W .u32 (A r) (L r) (fun i => ((Z r).getD i 0).toNat) ∧ Lt (2 ^ 32) (fun i => ((Z r).getD i 0).toNat) (L r) := fun r hr => by
      obtain ⟨h1, h2, h3, h4, h5, h6, h7⟩ := hcell r (by omega)
      refine rd_of_ints (by omega) h5 (fun a' ea i hi => (h7 a' ea).2 i (by omega)) (fun e => by have := h6 e; omega) (fun a' ea h0 => ?_)
      refine hlt (.cell a'.block a'.off) (List.mem_append.2 (.inr (List.mem_flatMap.2 ⟨r, List.mem_range.2 (by omega), ?_⟩)))
      simp only [Go.Deep.intRowPlaces, ea]
      exact MemPlace.mem_row.2 ⟨0, by omega, by simp⟩
    refine ⟨some a, len, cap, A, L, C, fun r i => ((Z r).getD i 0).toNat, rfl, fun h0 => ?_, hl, hs, fun i hi => (hrow i hi).2, fun i hi => ?_⟩
    · obtain ⟨b, off, spot⟩ := a
      have hspot : spot = none := by simpa [Addr.add] using World.cell?_spot (hcell 0 (by omega)).1
      subst hspot
      refine ⟨b, off, rfl, hlt (.cell b off) (List.mem_append.2 (.inl (MemPlace.mem_row.2 ⟨0, by omega, by simp⟩))), fun i hi => ?_⟩
      obtain ⟨h1, h2, h3, _⟩ := hcell i (by omega)
      rw [add_plain] at h1
      exact ⟨h1, h2, h3, (hrow i hi).1⟩
    · obtain ⟨_, _, _, h4, _, h6, _⟩ := hcell i (by omega)
      cases ea : A i with
      | none => have := h6 ea; omega
      | some a' => have := hin i hi a' ea; omega
end
end Go.Proofs.YtnikoojgoiobjaaDoor.nn
