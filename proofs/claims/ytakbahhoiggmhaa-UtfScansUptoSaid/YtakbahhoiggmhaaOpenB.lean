/- How an argument of type [][]byte reads, and what the bound of the second form says of it. -/
import Derived.Test.YtakbahhoiggmhaaOpenS
import Derived.Test.YtakbahhoiggmhaaUtfScansW
import Derived.Deep.Matrix
namespace Go.Proofs.Ytakbahhoiggmhaa.nn
open Go.ChangeShapes Go.WideShapes Go.ChangeAt Go.RowKit

theorem Try.cells8 : Try.prog.cellsOf 5 = 1 := by kernel_rfl
theorem Try.cellsRow8 : Try.prog.cellsOf 35 = 1 := by kernel_rfl

theorem bulk_one {H : Type} (d : DataW H) : 1 ≤ Rows.uptoBulk d := by
  cases d with
  | lit l => cases l <;> simp [Rows.uptoBulk]
  | nil => simp [Rows.uptoBulk]
  | ptr d => simp [Rows.uptoBulk]
  | slice elems spare => simp [Rows.uptoBulk]
  | agg parts => simp [Rows.uptoBulk]
  | iface t d => simp [Rows.uptoBulk]
  | map entries => simp [Rows.uptoBulk]
  | held h => simp [Rows.uptoBulk]
theorem bulk_len {H : Type} (l : List (DataW H)) : l.length ≤ Rows.uptoBulkAll l := by
  induction l with
  | nil => simp [Rows.uptoBulkAll]
  | cons x r ih => have := bulk_one x; simp only [Rows.uptoBulkAll, List.length_cons]; omega
theorem bulk_append {H : Type} (l r : List (DataW H)) : Rows.uptoBulkAll (l ++ r) = Rows.uptoBulkAll l + Rows.uptoBulkAll r := by
  induction l with
  | nil => simp [Rows.uptoBulkAll]
  | cons x l ih => simp only [List.cons_append, Rows.uptoBulkAll, ih]; omega
theorem bulk_slice {H : Type} (elems spare : List (DataW H)) : Rows.uptoBulk (.slice elems spare) = Rows.uptoBulkAll elems + Rows.uptoBulkAll spare + 1 := by simp only [Rows.uptoBulk]
theorem bulk_bound {H : Type} {l : List (DataW H)} (hk : Rows.uptoSmall H l = true) : Rows.uptoBulkAll l ≤ 1048576 := of_decide_eq_true hk
theorem tot_bulk {H : Type} {L : Nat → Nat} {D : Nat → DataW H} {n : Nat} (h : ∀ r, r < n → L r ≤ Rows.uptoBulk (D r)) : tot L n ≤ Rows.uptoBulkAll ((List.range n).map D) := by
  induction n with
  | zero => simp [tot]
  | succ n ih =>
    rw [List.range_succ, List.map_append, bulk_append, tot]
    have h1 := ih fun r hr => h r (by omega)
    have h2 := h n (by omega)
    simp only [List.map_cons, List.map_nil, Rows.uptoBulkAll]
    omega

theorem mem_getD8 {zs : List Int} {i : Nat} (h : i < zs.length) : zs.getD i 0 ∈ zs := by
  have : zs.getD i 0 = zs[i] := by simp [List.getD, h]
  rw [this]
  exact List.getElem_mem h
theorem plain_add (b off i : Nat) : (⟨b, off, none⟩ : Addr).add i = ⟨b, off + i, none⟩ := by unfold Addr.add; split <;> simp_all

section
variable {H : Type} {enc : TypeId × Value → H} {W : World}

theorem rd_of_bytes {A : Option Addr} {L : Nat} {zs : List Int} (hL : L ≤ zs.length) (hw : ∀ n ∈ zs, (Lit.int .u8 n).wf = true)
    (hc : ∀ a, A = some a → ∀ i, i < zs.length → W.cell? (a.add i) = some (.int .u8 (zs.getD i 0))) (hn : A = none → L = 0) (hlt : ∀ a, A = some a → 0 < L → a.block < W.heap.size) :
    Rd W .u8 A L (fun i => (zs.getD i 0).toNat) ∧ ∀ i, i < L → (zs.getD i 0).toNat < 256 := by
  refine ⟨fun h0 => ?_, fun i hi => ?_⟩
  · rcases A with _ | ⟨b, off, spot⟩
    · have := hn rfl; omega
    · have h1 := hc _ rfl
      have hspot : spot = none := by simpa [Addr.add] using World.cell?_spot (h1 0 (by omega))
      subst hspot
      refine ⟨b, off, rfl, hlt _ rfl h0, fun i hi => ?_⟩
      have h2 := h1 i (by omega)
      rw [plain_add] at h2
      have h3 := (wf_u8 (hw _ (mem_getD8 (by omega : i < zs.length)))).1
      rw [h2]
      congr 2
      show zs.getD i 0 = ((zs.getD i 0).toNat : Int)
      omega
  · have h3 := wf_u8 (hw _ (mem_getD8 (by omega : i < zs.length)))
    omega

/-- an argument of type [][]uint8 -/
theorem open_rows8 {v : Value} {d : DataW H} {p : List MemPlace} (hok : ∃ a n c, v = .slice a n c) (h : DataW.Trod enc Try.prog W 0 (fun _ => true) true 32 v d p) (hlt : ∀ x ∈ p, x.block < W.heap.size)
    (hk : Rows.uptoBulkAll [d] ≤ 1048576) :
    ∃ B m c AA L C F, v = .slice B m c ∧ Rds8 W B m AA L C F ∧ m ≤ c ∧ c ≤ 1048576 ∧ (∀ i, i < m → ∀ j, j < L i → F i j < 256) ∧ tot L m ≤ 1048576 := by
  obtain ⟨a0, len, cap, rfl⟩ := hok
  obtain ⟨fuel, hf⟩ := h
  rcases Go.Deep.open_int_rows Try.underlying32 Try.underlying35 Try.underlying5 Try.cellsRow8 Try.cells8 hf with ⟨hcs, hx⟩ | ⟨a, len', cap', A, L, C, Z, hcs, _, hl, hm, hx, hcell⟩
  · simp [Value.cells] at hcs
    obtain ⟨rfl, rfl, rfl⟩ := hcs
    exact ⟨none, 0, 0, fun _ => none, fun _ => 0, fun _ => 0, fun _ _ => 0, rfl, fun h => absurd h (by omega), Nat.le_refl _, by omega, fun _ h => absurd h (by omega), Nat.zero_le _⟩
  · simp [Value.cells] at hcs
    obtain ⟨rfl, rfl, rfl⟩ := hcs
    simp only [Prod.mk.injEq] at hx
    obtain ⟨rfl, rfl⟩ := hx
    simp only [Rows.uptoBulkAll, bulk_slice] at hk
    have hsp := bulk_len ((List.range (cap - len)).map fun j => Go.Deep.intRow (H := H) .u8 (A (len + j)) (L (len + j)) (Z (len + j)))
    have hel := bulk_len ((List.range len).map fun r => Go.Deep.intRow (H := H) .u8 (A r) (L r) (Z r))
    simp only [List.length_map, List.length_range] at hsp hel
    have hrow : ∀ r, r < len → Rd W .u8 (A r) (L r) (fun i => ((Z r).getD i 0).toNat) ∧ ∀ i, i < L r → ((Z r).getD i 0).toNat < 256 := fun r hr => by
      obtain ⟨h1, h2, h3, h4, h5, h6, h7⟩ := hcell r (by omega)
      refine rd_of_bytes (by omega) h5 (fun a' ea i hi => (h7 a' ea).2 i (by omega)) (fun e => by have := h6 e; omega) (fun a' ea h0 => ?_)
      refine hlt (.cell a'.block a'.off) (List.mem_append.2 (.inr (List.mem_flatMap.2 ⟨r, List.mem_range.2 (by omega), ?_⟩)))
      simp only [Go.Deep.intRowPlaces, ea]
      exact MemPlace.mem_row.2 ⟨0, by omega, by simp⟩
    have htot : tot L len ≤ Rows.uptoBulkAll ((List.range len).map fun r => Go.Deep.intRow (H := H) .u8 (A r) (L r) (Z r)) := tot_bulk fun r hr => by
      obtain ⟨_, h2, _, h4, _, h6, _⟩ := hcell r (by omega)
      cases ea : A r with
      | none => have := h6 ea; omega
      | some a' =>
        simp only [Go.Deep.intRow, bulk_slice]
        have := bulk_len (lits (H := H) .u8 ((Z r).take (L r)))
        simp only [lits, List.length_map, List.length_take] at this
        unfold lits
        omega
    refine ⟨some a, len, cap, A, L, C, fun r i => ((Z r).getD i 0).toNat, rfl, fun h0 => ?_, hl, by omega, fun i hi => (hrow i hi).2, by omega⟩
    obtain ⟨b, off, spot⟩ := a
    have hspot : spot = none := by simpa [Addr.add] using World.cell?_spot (hcell 0 (by omega)).1
    subst hspot
    refine ⟨b, off, rfl, hlt (.cell b off) (List.mem_append.2 (.inl (MemPlace.mem_row.2 ⟨0, by omega, by simp⟩))), fun i hi => ?_⟩
    obtain ⟨h1, h2, h3, _⟩ := hcell i (by omega)
    rw [plain_add] at h1
    exact ⟨h1, h2, h3, (hrow i hi).1⟩
end
end Go.Proofs.Ytakbahhoiggmhaa.nn
