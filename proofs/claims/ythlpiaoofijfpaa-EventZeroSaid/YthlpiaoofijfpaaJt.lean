/- Joined texts, what is wanted of them: EvZero, EvZeroW. -/
import Derived.Test.YthlpiaoofijfpaaProg
import Derived.WalkKit
import Derived.Lib.Hide
import Derived.Deep.QuietTactic
import Derived.BigQuiet
import Derived.IntWalk
import Derived.Test.YthlpiaoofijfpaaJn
import Derived.Test.YthlpiaoofijfpaaJc
import Derived.Test.YthlpiaoofijfpaaJk
import Derived.Test.YthlpiaoofijfpaaJb
import Derived.Test.YthlpiaoofijfpaaJa
import Derived.Test.YthlpiaoofijfpaaJg
import Derived.Test.YthlpiaoofijfpaaJe
import Derived.Test.YthlpiaoofijfpaaJh
import Derived.Test.YthlpiaoofijfpaaJo
namespace Go.Proofs.Ythlpiaoofijfpaa.nn
open Go.RowKit

/-- nil, or one that no call made -/
def Unm (p : Value) (W : World) : Prop := p = .pointer none ∨ ∃ g, p = .pointer (some ⟨g, 0, none⟩) ∧ Bk W g 62 #[.int .i64 0, .int .i64 0, .slice none 0 0]
theorem Unm.on {p : Value} {W W' : World} (h : Unm p W) (hB : Below W.heap.size W W') : Unm p W' := by
  rcases h with h | ⟨g, h, hb⟩
  · exact .inl h
  · exact .inr ⟨g, h, hb.below hB hb.lt⟩
theorem unm_made {p : Value} {W : World} (h : Unm p W) : Calls Try.prog 32 #[p] W fun e w' => e = .returned (.bool false) ∧ Below W.heap.size W w' := by
  rcases h with rfl | ⟨g, rfl, hb⟩
  · exact made_nil W
  · exact made_zero g 0 none W (hb.cell 2)
set_option maxRecDepth 100000 in
theorem zero_done {p : Value} {W : World} (h : Unm p W) : Calls Try.prog 21 #[p] W fun e w' => e = .returned (.bool false) ∧ Below W.heap.size W w' := by
  have HM : Hid (∀ W', Below W.heap.size W W' → Calls Try.prog 32 #[p] W' fun e w' => e = .returned (.bool false) ∧ Below W.heap.size W w') := Lib.hid fun W' hB => (unm_made (h.on hB)).mono fun e w' ⟨he, hb⟩ => ⟨he, hB.trans (hb.mono hB.size)⟩
  have HB := Lib.hid (Below.refl W.heap.size W)
  obtain ⟨v, hv⟩ : ∃ v, p = v := ⟨_, rfl⟩
  rw [hv] at HM ⊢
  clear h hv
  go_enter Try.func21, Try.ntmps21
  go_wp2_with fail
  refine (HM.out _ HB.out).mono ?_
  rintro e w1 ⟨rfl, hb⟩
  have HB1 := Lib.hid hb
  clear hb
  go_wp2_with fail
  go_ret
  exact ⟨rfl, HB1.out⟩
set_option maxRecDepth 100000 in
theorem zero_depth {p : Value} {W : World} (h : Unm p W) : Calls Try.prog 22 #[p] W fun e w' => e = .returned (.int .i64 0) ∧ Below W.heap.size W w' := by
  have HM : Hid (∀ W', Below W.heap.size W W' → Calls Try.prog 32 #[p] W' fun e w' => e = .returned (.bool false) ∧ Below W.heap.size W w') := Lib.hid fun W' hB => (unm_made (h.on hB)).mono fun e w' ⟨he, hb⟩ => ⟨he, hB.trans (hb.mono hB.size)⟩
  have HB := Lib.hid (Below.refl W.heap.size W)
  obtain ⟨v, hv⟩ : ∃ v, p = v := ⟨_, rfl⟩
  rw [hv] at HM ⊢
  clear h hv
  go_enter Try.func22, Try.ntmps22
  go_wp2_with fail
  refine (HM.out _ HB.out).mono ?_
  rintro e w1 ⟨rfl, hb⟩
  have HB1 := Lib.hid hb
  clear hb
  go_wp2_with fail
  go_ret
  exact ⟨rfl, HB1.out⟩
set_option maxRecDepth 100000 in
theorem zero_count {p : Value} {W : World} (h : Unm p W) : Calls Try.prog 23 #[p] W fun e w' => e = .returned (.int .i64 0) ∧ Below W.heap.size W w' := by
  have HM : Hid (∀ W', Below W.heap.size W W' → Calls Try.prog 32 #[p] W' fun e w' => e = .returned (.bool false) ∧ Below W.heap.size W w') := Lib.hid fun W' hB => (unm_made (h.on hB)).mono fun e w' ⟨he, hb⟩ => ⟨he, hB.trans (hb.mono hB.size)⟩
  have HB := Lib.hid (Below.refl W.heap.size W)
  obtain ⟨v, hv⟩ : ∃ v, p = v := ⟨_, rfl⟩
  rw [hv] at HM ⊢
  clear h hv
  go_enter Try.func23, Try.ntmps23
  go_wp2_with fail
  refine (HM.out _ HB.out).mono ?_
  rintro e w1 ⟨rfl, hb⟩
  have HB1 := Lib.hid hb
  clear hb
  go_wp2_with fail
  go_ret
  exact ⟨rfl, HB1.out⟩
set_option maxRecDepth 100000 in
theorem zero_put {p : Value} {W : World} (h : Unm p W) (e : Ev) : Calls Try.prog 19 #[p, evv e] W fun x w' => x = .returned (.int .i64 7) ∧ Below W.heap.size W w' := by
  have HM : Hid (∀ W', Below W.heap.size W W' → Calls Try.prog 32 #[p] W' fun e w' => e = .returned (.bool false) ∧ Below W.heap.size W w') := Lib.hid fun W' hB => (unm_made (h.on hB)).mono fun e w' ⟨he, hb⟩ => ⟨he, hB.trans (hb.mono hB.size)⟩
  have HB : Hid (∀ o, Below W.heap.size W (W.alloc o)) := Lib.hid fun o => (Below.refl W.heap.size W).alloc (Nat.le_refl _) o
  obtain ⟨v, hv⟩ : ∃ v, p = v := ⟨_, rfl⟩
  rw [hv] at HM ⊢
  unfold evv
  clear h hv
  go_enter Try.func19, Try.ntmps19
  go_wp2_with fail
  refine (HM.out _ (HB.out _)).mono ?_
  rintro x w1 ⟨rfl, hb⟩
  have HB1 := Lib.hid hb
  clear hb
  go_wp2_with fail
  go_ret
  exact ⟨rfl, HB1.out⟩
end Go.Proofs.Ythlpiaoofijfpaa.nn
namespace Go.Proofs.Ythlpiaoofijfpaa.nn
open Go.RowKit

set_option maxRecDepth 100000 in
set_option maxHeartbeats 1000000 in
theorem zero_value {p : Value} {W : World} (h : Unm p W) : Calls Try.prog 24 #[p] W fun e w' => e = .returned (.tuple #[.agg #[.int .i64 0, .bool false, .int .u64 0, .string ⟨#[]⟩, .slice none 0 0], .int .i64 7]) ∧ Below W.heap.size W w' := by
  have HM : Hid (∀ W', Below W.heap.size W W' → Calls Try.prog 32 #[p] W' fun e w' => e = .returned (.bool false) ∧ Below W'.heap.size W' w') := Lib.hid fun W' hB => unm_made (h.on hB)
  obtain ⟨W1, hW1⟩ : ∃ W1, W.alloc (.cells #[.int .i64 0, .bool false, .int .u64 0, .string ⟨#[]⟩, .slice none 0 0] 25) = W1 := ⟨_, rfl⟩
  have HB : Hid (Below W.heap.size W W1) := Lib.hid (by rw [← hW1]; exact (Below.refl _ _).alloc (Nat.le_refl _) _)
  have HK : Hid (Bk W1 W.heap.size 25 #[.int .i64 0, .bool false, .int .u64 0, .string ⟨#[]⟩, .slice none 0 0]) := Lib.hid (by rw [← hW1]; exact heap_alloc_last _ _)
  obtain ⟨v, hv⟩ : ∃ v, p = v := ⟨_, rfl⟩
  rw [hv] at HM ⊢
  clear h hv
  go_enter Try.func24, Try.ntmps24
  go_wp2_with fail
  refine (HM.out _ HB.out).mono ?_
  rintro e w1 ⟨rfl, hb⟩
  have hk := HK.out.below hb HK.out.lt
  obtain ⟨f0, f1, f2, f3, f4⟩ := hk.c5
  obtain ⟨ff0, ff1, ff2, ff3, ff4⟩ := hk.f5
  have HB1 : Hid (Below W.heap.size W w1) := Lib.hid (HB.out.trans (hb.mono HB.out.size))
  clear hb hk HK hW1
  go_wp2_with fail
  exact bodyPost_ret (v := .tuple #[.agg #[.int .i64 0, .bool false, .int .u64 0, .string ⟨#[]⟩, .slice none 0 0], .int .i64 7]) (by simp [results, Try.results24, go_sem, f0, f1, f2, f3, f4]) rfl ⟨rfl, below_set5 HB1.out (Nat.le_refl _) _ _ _ _ _⟩
/-- behind the box of the event and the build that no call made -/
structure Zz (w : World) (e : Ev) (gb : Nat) (W : World) : Prop where
  eb : Eb w e W
  z : Bk W gb 62 #[.int .i64 0, .int .i64 0, .slice none 0 0]
theorem Zz.on {w W W' : World} {e : Ev} {gb : Nat} (h : Zz w e gb W) (hB : Below W.heap.size W W') : Zz w e gb W' := ⟨h.eb.on hB, h.z.below hB h.z.lt⟩
set_option maxRecDepth 100000 in
set_option maxHeartbeats 4000000 in
theorem zeros_any (e : Ev) (w : World) : Calls Try.prog 8 #[evv e] w fun x w' => x = .returned (.bool true) ∧ Below w.heap.size w w' := by
  obtain ⟨W1, hW1⟩ : ∃ W1, w.alloc (.cells #[.int .i64 e.k, .bool e.g, .int .u64 (e.n : Int), .string e.s] 47) = W1 := ⟨_, rfl⟩
  obtain ⟨W2, hW2⟩ : ∃ W2, W1.alloc (.cells #[.int .i64 0, .int .i64 0, .slice none 0 0] 62) = W2 := ⟨_, rfl⟩
  obtain ⟨gb, hgb⟩ : ∃ g, W1.heap.size = g := ⟨_, rfl⟩
  have HZ0 : Hid (Zz w e gb W2) := Lib.hid ⟨by rw [← hW2, ← hW1]; exact (Eb.new w e).on ((Below.refl _ _).alloc (Nat.le_refl _) _), by rw [← hW2, ← hgb]; exact heap_alloc_last _ _⟩
  have N1 : Hid (∀ W, Zz w e gb W → Calls Try.prog 24 #[.pointer none] W fun x w' => x = .returned (.tuple #[.agg #[.int .i64 0, .bool false, .int .u64 0, .string ⟨#[]⟩, .slice none 0 0], .int .i64 7]) ∧ Zz w e gb w') := Lib.hid fun W h => (zero_value (.inl rfl)).mono fun x w' ⟨hx, hb⟩ => ⟨hx, h.on hb⟩
  have N2 : Hid (∀ W, Zz w e gb W → Calls Try.prog 24 #[.pointer (some ⟨gb, 0, none⟩)] W fun x w' => x = .returned (.tuple #[.agg #[.int .i64 0, .bool false, .int .u64 0, .string ⟨#[]⟩, .slice none 0 0], .int .i64 7]) ∧ Zz w e gb w') := Lib.hid fun W h => (zero_value (.inr ⟨gb, rfl, h.z⟩)).mono fun x w' ⟨hx, hb⟩ => ⟨hx, h.on hb⟩
  have N3 : Hid (∀ W, Zz w e gb W → Calls Try.prog 19 #[.pointer none, evv e] W fun x w' => x = .returned (.int .i64 7) ∧ Zz w e gb w') := Lib.hid fun W h => (zero_put (.inl rfl) e).mono fun x w' ⟨hx, hb⟩ => ⟨hx, h.on hb⟩
  have N4 : Hid (∀ W, Zz w e gb W → Calls Try.prog 19 #[.pointer (some ⟨gb, 0, none⟩), evv e] W fun x w' => x = .returned (.int .i64 7) ∧ Zz w e gb w') := Lib.hid fun W h => (zero_put (.inr ⟨gb, rfl, h.z⟩) e).mono fun x w' ⟨hx, hb⟩ => ⟨hx, h.on hb⟩
  have N5 : Hid (∀ W, Zz w e gb W → Calls Try.prog 21 #[.pointer none] W fun x w' => x = .returned (.bool false) ∧ Zz w e gb w') := Lib.hid fun W h => (zero_done (.inl rfl)).mono fun x w' ⟨hx, hb⟩ => ⟨hx, h.on hb⟩
  have N6 : Hid (∀ W, Zz w e gb W → Calls Try.prog 21 #[.pointer (some ⟨gb, 0, none⟩)] W fun x w' => x = .returned (.bool false) ∧ Zz w e gb w') := Lib.hid fun W h => (zero_done (.inr ⟨gb, rfl, h.z⟩)).mono fun x w' ⟨hx, hb⟩ => ⟨hx, h.on hb⟩
  have N7 : Hid (∀ W, Zz w e gb W → Calls Try.prog 22 #[.pointer none] W fun x w' => x = .returned (.int .i64 0) ∧ Zz w e gb w') := Lib.hid fun W h => (zero_depth (.inl rfl)).mono fun x w' ⟨hx, hb⟩ => ⟨hx, h.on hb⟩
  have N8 : Hid (∀ W, Zz w e gb W → Calls Try.prog 23 #[.pointer (some ⟨gb, 0, none⟩)] W fun x w' => x = .returned (.int .i64 0) ∧ Zz w e gb w') := Lib.hid fun W h => (zero_count (.inr ⟨gb, rfl, h.z⟩)).mono fun x w' ⟨hx, hb⟩ => ⟨hx, h.on hb⟩
  have HC : Hid (∀ W, Zz w e gb W → W.cell? ⟨w.heap.size, 0, none⟩ = some (.int .i64 e.k) ∧ W.cell? ⟨w.heap.size, 1, none⟩ = some (.bool e.g) ∧ W.cell? ⟨w.heap.size, 2, none⟩ = some (.int .u64 (e.n : Int)) ∧ W.cell? ⟨w.heap.size, 3, none⟩ = some (.string e.s)) := Lib.hid fun W h => h.eb.cells
  have HAL : Hid (∀ W o, Zz w e gb W → Zz w e gb (W.alloc o)) := Lib.hid fun W o h => h.on ((Below.refl _ _).alloc (Nat.le_refl _) o)
  unfold evv at *
  go_enter Try.func8, Try.ntmps8
  go_wp2_with fail
  clear hW1 hW2 hgb
  refine (N1.out _ HZ0.out).mono ?_
  rintro x w1 ⟨rfl, h1⟩
  have H1 := Lib.hid (HAL.out _ (.cells #[.int .i64 0, .bool false, .int .u64 0, .string ⟨#[]⟩, .slice none 0 0] 25) h1)
  clear h1
  go_wp2_with fail
  refine (N2.out _ H1.out).mono ?_
  rintro x w2 ⟨rfl, h2⟩
  have H2 := Lib.hid (HAL.out _ (.cells #[.int .i64 0, .bool false, .int .u64 0, .string ⟨#[]⟩, .slice none 0 0] 25) h2)
  obtain ⟨c0, c1, c2, c3⟩ := HC.out _ H2.out
  clear h2
  go_wp2_with fail
  refine (N3.out _ H2.out).mono ?_
  rintro x w3 ⟨rfl, h3⟩
  obtain ⟨d0, d1, d2, d3⟩ := HC.out _ h3
  have H3 := Lib.hid h3
  clear h3 c0 c1 c2 c3
  go_wp2_with fail
  refine (N4.out _ H3.out).mono ?_
  rintro x w4 ⟨rfl, h4⟩
  have H4 := Lib.hid h4
  clear h4 d0 d1 d2 d3
  go_wp2_with fail
  refine (N5.out _ H4.out).mono ?_
  rintro x w5 ⟨rfl, h5⟩
  have H5 := Lib.hid h5
  clear h5
  go_wp2_with fail
  refine (N6.out _ H5.out).mono ?_
  rintro x w6 ⟨rfl, h6⟩
  have H6 := Lib.hid h6
  clear h6
  go_wp2_with fail
  refine (N7.out _ H6.out).mono ?_
  rintro x w7 ⟨rfl, h7⟩
  have H7 := Lib.hid h7
  clear h7
  go_wp2_with fail
  refine (N8.out _ H7.out).mono ?_
  rintro x w8 ⟨rfl, h8⟩
  have H8 := Lib.hid h8.eb.b
  clear h8
  go_wp2_with fail
  go_ret
  exact ⟨rfl, H8.out⟩
end Go.Proofs.Ythlpiaoofijfpaa.nn
