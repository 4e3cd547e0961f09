/- Words for slices of bytes: one that reads as a text, and the text that a conversion makes of it. -/
import Derived.Test.YthkpjcaphjboeaaProg
import Derived.Test.YthkpjcaphjboeaaBt
import Derived.Test.YthkpjcaphjboeaaMem
import Derived.Laws.BytesArg
namespace Go.Proofs.Ythkpjcaphjboeaa.nn
open Go.RowKit

/-- the text of n bytes f -/
def pc (f : Nat → Nat) (n : Nat) : ByteArray := strOfNums ((List.range n).map fun i => (f i : Int))
theorem pc_size (f : Nat → Nat) (n : Nat) : (pc f n).size = n := by unfold pc; rw [strOfNums_size]; simp
theorem bt_pc {f : Nat → Nat} {n i : Nat} (h : i < n) (hf : f i < 256) : bt (pc f n) i = f i := by
  have h2 : i < (pc f n).size := by rw [pc_size]; exact h
  rw [bt_at h2]
  show ((pc f n).data[i]).toNat = f i
  have : (pc f n).data[i]? = some (UInt8.ofNat (f i)) := by
    unfold pc strOfNums
    simp [h]
  have e : (pc f n).data[i] = UInt8.ofNat (f i) := by
    have h3 := Array.getElem?_eq_getElem (xs := (pc f n).data) (i := i) h2
    rw [this] at h3
    injection h3 with h3
    exact h3.symm
  rw [e, UInt8.toNat_ofNat']
  omega

/-- a text made of a slice of bytes, nil or not -/
theorem conv_row (A : Option Addr) (n c : Nat) (f : Nat → Nat) (w : World) (h : Rd w .u8 A n f) :
    (convert 22 9 (.slice A n c)).run Try.prog w = .ok (.string (pc f n)) w := by
  by_cases h0 : 0 < n
  · obtain ⟨b, off, rfl, _, hc⟩ := h h0
    exact run_convert_bytes_arg w 22 5 Try.underlying22 Try.underlying5 b off n c _ (by simp) (fun i hi => by
      rw [hc i hi]
      simp [hi]) 9 Try.underlying9
  · obtain rfl : n = 0 := by omega
    have e : pc f 0 = ByteArray.empty := rfl
    rw [e]
    cases A with
    | none => exact run_convert_bytes_nil w 22 5 Try.underlying22 Try.underlying5 0 c 9 Try.underlying9
    | some a =>
      rw [run_convert_bytes_string w 22 9 5 (some a) 0 c Try.underlying22 Try.underlying5 Try.underlying9]
      exact run_bytesToString w a 0 c [] (run_loadCells_list (P := Try.prog) w a [] (fun j v hv => by simp at hv))
end Go.Proofs.Ythkpjcaphjboeaa.nn
