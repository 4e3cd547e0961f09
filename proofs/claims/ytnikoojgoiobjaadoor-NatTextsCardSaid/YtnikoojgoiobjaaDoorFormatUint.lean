/- The walk of strconv.FormatUint at base 10: the decimal digits of a number of 64 bits. The table of the powers of ten is asked for. -/
import Derived.Test.YtnikoojgoiobjaaDoorShelf
import Derived.Lib.AppendIntMem
import Derived.Lib.LaidTab
import Derived.WalkKit
import Derived.Lib.Hide
import Derived.Below
namespace Go.Proofs.YtnikoojgoiobjaaDoor.nn
open Go.RowKit Go.Sort

/-- the table of the powers of ten stands in w -/
def Pow10 (w : World) : Prop := Lib.TabIs Tryd.prog w "internal/strconv.uint64pow10" .u64 Lib.pow10Tab

theorem below_put {α : Type} [Inhabited α] (enc : α → Value) (w : World) (o : Obj) (off : Nat) (d : Array α) (k : Nat) : Below w.heap.size w ((putRow enc (w.alloc o) w.heap.size off d).drewN k) :=
  ⟨rfl, rfl, rfl, by show w.heap.size ≤ (putRow enc (w.alloc o) w.heap.size off d).heap.size; rw [size_putRow]; simp, fun i hi => by
    show (putRow enc (w.alloc o) w.heap.size off d).heap[i]? = _
    unfold putRow mapBlock
    rw [Array.getElem?_modify, if_neg (by omega)]
    exact Below.heap_alloc _ _ _ hi⟩

set_option maxRecDepth 100000 in
set_option maxHeartbeats 2000000 in
theorem fmt_any (u : Nat) (w : World) (hu : u < 18446744073709551616) (ht : Pow10 w) :
    Calls Tryd.prog 50 #[.int .u64 (u : Int), .int .i64 10] w fun e w' => e = .returned (.string ⟨(Lib.decDigits u).toArray⟩) ∧ Below w.heap.size w w' := by
  have HB := Lib.hid (Below.refl w.heap.size w)
  by_cases h100 : u < 100
  · have HS := Lib.hid (fun W => (Tryd.internal_strconv_small u h100 W))
    have e1 : wrap64 (u : Int) = (u : Int) := by unfold wrap64; omega
    clear ht
    go_enter Tryd.func50, Tryd.ntmps50
    go_wp2_with fail
    refine (HS.out _).mono ?_
    rintro e w' ⟨rfl, rfl⟩
    go_wp2_with fail
    go_ret
    exact ⟨rfl, HB.out⟩
  · have hu1 : 1 ≤ u := by omega
    have hnd20 : Lib.nDigits u ≤ 20 := by have := Lib.numDigits_eq u hu1 hu; split at this <;> omega
    have hH := Lib.holds_zero0 w 91 (Lib.nDigits u) (by omega)
    have hfmt := Tryd.internal_strconv_formatBase10 w.heap.size 0 24 u (Array.replicate (Lib.nDigits u) 0) (w.alloc (.cells Lib.zeros24 91)) hH (by rw [Array.size_replicate]; exact Lib.lt_pow_nDigits u) hu (by rw [Array.size_replicate]; omega)
    rw [Array.size_replicate] at hfmt
    have hnum := Tryd.internal_strconv_numDigits u hu1 hu (w.alloc (.cells Lib.zeros24 91)) (Lib.tabIs_alloc ht _)
    have HNUM := Lib.hid hnum
    have HF := Lib.hid hfmt
    have HH := Lib.hid hH
    obtain ⟨nd, hnd⟩ : ∃ nd, Lib.nDigits u = nd := ⟨_, rfl⟩
    have HND := Lib.hid hnd
    rw [hnd] at HNUM HF hnd20
    have hal : Tryd.prog.arrayLen 91 = 24 := by kernel_rfl
    have hel : Tryd.prog.elem 91 = 5 := by kernel_rfl
    have hsl : ∀ W, (Instr.sliceAt 91 (.pointer (some ⟨w.heap.size, 0, none⟩)) none (some (.int .i64 (nd : Int))) none).run Tryd.prog W = .ok (.slice (some ⟨w.heap.size, 0, none⟩) nd 24) W := fun W => by
      rw [run_sliceAt_array_h W 91 ⟨w.heap.size, 0, none⟩ (by rw [hal, hel]; exact Tryd.underlying91) .i64 (nd : Int) (by omega) (by rw [hal]; omega), hal, hel]
      have z5 := Tryd.sizeOf5 W
      rw [z5]
      simp [Result.andThen, slicedAt]
      rfl
    clear hH hfmt hnum hnd ht hal hel
    go_enter Tryd.func50, Tryd.ntmps50
    go_wp2_with fail
    refine HNUM.out.mono ?_
    rintro e w' ⟨rfl, rfl⟩
    go_wp2_with fail
    refine HF.out.mono ?_
    rintro e w' ⟨rfl, k, v', dk, rfl, hF⟩
    have hcv : (convert 23 9 (.slice (some ⟨w.heap.size, 0, none⟩) nd 24)).run Tryd.prog ((putRow (fun (b : UInt8) => Value.int .u8 (b.toNat : Int)) (w.alloc (.cells Lib.zeros24 91)) w.heap.size 0 dk).drewN k) =
        .ok (.string ⟨(Lib.decDigits u).toArray⟩) ((putRow (fun (b : UInt8) => Value.int .u8 (b.toNat : Int)) (w.alloc (.cells Lib.zeros24 91)) w.heap.size 0 dk).drewN k) := by
      have hF' : Lib.FmtInv (Lib.nDigits u) u 0 v' dk := by rw [HND.out]; exact hF
      have h := run_convert_bytes_back (P := Tryd.prog) ((putRow (fun (b : UInt8) => Value.int .u8 (b.toNat : Int)) (w.alloc (.cells Lib.zeros24 91)) w.heap.size 0 dk).drewN k) 23 9 5 ⟨w.heap.size, 0, none⟩ 24 (Lib.decDigits u) Tryd.underlying23 Tryd.underlying5 Tryd.underlying9 (fun j hj => by
        rw [Lib.add_plain, Lib.row_is_numeral hF' j hj, World.cell?_drewN]
        exact cell?_putRow (fun (b : UInt8) => Value.int .u8 (b.toNat : Int)) _ w.heap.size 0 _ dk HH.out (by rw [hF'.size, Array.size_replicate]) j (by rw [hF'.size]; rw [Lib.decDigits_length] at hj; exact hj))
      rw [Lib.decDigits_length, HND.out] at h
      exact h
    have hb := Lib.hid (below_put (fun (b : UInt8) => Value.int .u8 (b.toNat : Int)) w (.cells Lib.zeros24 91) 0 dk k)
    go_wp2_with fail
    go_ret
    exact ⟨rfl, hb.out⟩
end Go.Proofs.YtnikoojgoiobjaaDoor.nn
