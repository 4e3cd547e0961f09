/- How an argument of type []byte reads, and what the two bounds say of it. -/
import Derived.Test.YthkpjcaphjboeaaOpenS
import Derived.Test.YthkpjcaphjboeaaMem
import Derived.Test.YthkpjcaphjboeaaProg
namespace Go.Proofs.Ythkpjcaphjboeaa.nn
open Go.ChangeShapes Go.WideShapes Go.ChangeAt Go.RowKit

theorem Try.cells8 : Try.prog.cellsOf 5 = 1 := by kernel_rfl
theorem Try.bytes8 : Try.prog.bytesOf 5 = 1 := by kernel_rfl
set_option maxRecDepth 100000 in
/-- a slice that may be: its address stands at a block's own cells -/
theorem slice_spot {W : World} {base : Nat} {t e : TypeId} {a : Addr} {n c : Nat} (ht : Try.prog.underlying t = some (.slice e)) (h : Value.okWide Try.prog W .any base t (.slice (some a) n c)) : a.spot = none := by
  simp only [Value.okWide, ht, Cell.okWide, Cell.ok, World.has] at h
  exact h.2.2.2.1
theorem getD_mem8 {zs : List Int} {i : Nat} (h : i < zs.length) : zs.getD i 0 ∈ zs := by
  have : zs.getD i 0 = zs[i] := by simp [List.getD, h]
  rw [this]
  exact List.getElem_mem h
theorem addr_add8 (b off i : Nat) : (⟨b, off, none⟩ : Addr).add i = ⟨b, off + i, none⟩ := by unfold Addr.add; split <;> simp_all
/-- what a reading of a slice holds: so many bytes, so many with the spare ones -/
def Held8 {H : Type} (d : DataW H) (n c : Nat) : Prop := (n = 0 ∧ c = 0) ∨ ∃ e s, d = .slice e s ∧ e.length = n ∧ e.length + s.length = c
section
variable {H : Type} {enc : TypeId × Value → H} {W : World}
set_option maxRecDepth 100000 in
/-- an argument of type []uint8 -/
theorem open_bytes {base : Nat} {v : Value} {d : DataW H} {p : List MemPlace} (hok : Value.okWide Try.prog W .any base 22 v) (h : DataW.Trod enc Try.prog W 0 (fun _ => true) true 22 v d p) (hlt : ∀ x ∈ p, x.block < W.heap.size) :
    ∃ A n c f, v = .slice A n c ∧ Rd W .u8 A n f ∧ (∀ i, i < n → f i < 256) ∧ n ≤ c ∧ ((A = none ∧ n = 0 ∧ c = 0) ∨ ∃ bb off, A = some ⟨bb, off, none⟩) ∧ Held8 d n c := by
  obtain ⟨a0, len, cap, rfl⟩ := okWide_slice Try.underlying22 hok
  obtain ⟨fuel, hf⟩ := h
  rcases open_ints Try.underlying22 Try.underlying5 Try.cells8 hf with ⟨hcs, hx⟩ | ⟨a, len', cap', zs, hcs, _, hl, hm, hz, hx, hcell, hwz⟩
  · simp [Value.cells] at hcs
    obtain ⟨rfl, rfl, rfl⟩ := hcs
    exact ⟨none, 0, 0, fun _ => 0, rfl, Rd.none_, fun _ h => absurd h (by omega), Nat.le_refl _, .inl ⟨rfl, rfl, rfl⟩, .inl ⟨rfl, rfl⟩⟩
  · simp [Value.cells] at hcs
    obtain ⟨rfl, rfl, rfl⟩ := hcs
    simp only [Prod.mk.injEq] at hx
    obtain ⟨rfl, rfl⟩ := hx
    simp only [if_true] at hz
    obtain ⟨b, off, spot⟩ := a
    obtain rfl : spot = none := slice_spot Try.underlying22 hok
    refine ⟨some ⟨b, off, none⟩, len, cap, fun i => (zs.getD i 0).toNat, rfl, fun h0 => ⟨b, off, rfl, hlt (.cell b off) (MemPlace.mem_row.2 ⟨0, by omega, by simp⟩), fun i hi => ?_⟩, fun i hi => ?_, hl, .inr ⟨b, off, rfl⟩,
      .inr ⟨_, _, rfl, by simp only [lits, List.length_map, List.length_take]; omega, by simp only [lits, List.length_map, List.length_take, List.length_drop]; omega⟩⟩
    · have h2 := hcell i (by omega)
      rw [addr_add8] at h2
      have h3 := (wf_u8 (hwz _ (getD_mem8 (by omega : i < zs.length)))).1
      rw [h2]
      congr 2
      show zs.getD i 0 = ((zs.getD i 0).toNat : Int)
      omega
    · have h3 := wf_u8 (hwz _ (getD_mem8 (by omega : i < zs.length)))
      show (zs.getD i 0).toNat < 256
      omega
/-- the reach bounds it -/
theorem held_reach {ts : List TypeId} {ds : List (DataW H)} {j n c : Nat} {d : DataW H} (hsz : (DataW.weightsEach Try.prog ts ds).all (· ≤ reachBytes) = true) (ht : ts[j]? = some 22) (hd : ds[j]? = some d) (h : Held8 d n c) : c ≤ 140737488351232 := by
  rcases h with ⟨_, h⟩ | ⟨e, s, rfl, _, h⟩
  · omega
  · have := sized_slice hsz ht hd Try.underlying22
    rw [Try.bytes8] at this
    unfold reachBytes at this
    omega
theorem bulk_pos (d : DataW H) : 1 ≤ Rows.uptoBulk d := by
  cases d with
  | lit l => cases l <;> simp [Rows.uptoBulk]
  | nil => simp [Rows.uptoBulk]
  | ptr d => simp [Rows.uptoBulk]
  | slice elems spare => simp [Rows.uptoBulk]
  | agg parts => simp [Rows.uptoBulk]
  | iface t d => simp [Rows.uptoBulk]
  | map entries => simp [Rows.uptoBulk]
  | held h => simp [Rows.uptoBulk]
theorem bulk_all (l : List (DataW H)) : l.length ≤ Rows.uptoBulkAll l := by
  induction l with
  | nil => simp [Rows.uptoBulkAll]
  | cons x r ih => have := bulk_pos x; simp only [Rows.uptoBulkAll, List.length_cons]; omega
/-- the second form's bound, too -/
theorem held_bulk {d : DataW H} {n c : Nat} (h : Held8 d n c) : c ≤ Rows.uptoBulk d := by
  rcases h with ⟨_, h⟩ | ⟨e, s, rfl, _, h⟩
  · omega
  · have h1 := bulk_all e
    have h2 := bulk_all s
    simp only [Rows.uptoBulk]
    omega
end
end Go.Proofs.Ythkpjcaphjboeaa.nn
