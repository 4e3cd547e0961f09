/- The walks of base's gather, of the closure that it answers, and of the one that Encode hands to it. -/
import Derived.Test.YthkpjcaphjboeaaBaseOf
import Derived.Test.YthkpjcaphjboeaaBldString
import Derived.Deep.CutBlock
import Derived.StillTailTactics
import Derived.Deep.DeepCutAuto
namespace Go.Proofs.Ythkpjcaphjboeaa.nn
open Go.RowKit

theorem gv_add {f : Nat → Nat} {n i a b : Nat} : gv f n i (a + b) = gv f n i a * 2 ^ b + gv f n (i + a) b := by
  induction b with
  | zero => simp [gv]
  | succ b ih =>
    have e : gv f n i a * 2 ^ (b + 1) = 2 * (gv f n i a * 2 ^ b) := by rw [Nat.pow_succ, ← Nat.mul_assoc, Nat.mul_comm]
    rw [← Nat.add_assoc, gv, ih, gv, e, Nat.add_assoc i a b]
    omega
theorem Bld.set {B b j : Nat} {l : List UInt8} {w : World} {v : Value} {T : TypeId} (h : Bld B b l w) (hj : w.heap[j]? = some (.cells #[v] T (0, 0))) (hT : T ≠ 5) (hb : j ≠ b) (u : Value) : Bld B b l (w.setCell ⟨j, 0, none⟩ u) := by
  have key : ∀ p, Lib.BuilderAt 39 5 B b p (Lib.byteCells l) w → Lib.BuilderAt 39 5 B b p (Lib.byteCells l) (w.setCell ⟨j, 0, none⟩ u) := by
    rintro p ⟨hB, x, hbk, hown, hne⟩
    exact ⟨hB, x, (Below.heap_setCell _ _ _ _ (fun e => hb (by simp [e]))).trans hbk, ownsRow_setCell_other hown (Lib.ownBlock_ne hown hj hT) u, hne⟩
  rcases h with h | h
  · exact .inl (key _ h)
  · exact .inr (key _ h)
theorem ne_of_type {w : World} {b c : Nat} {x y : Array Value} {S T : TypeId} {p q : Nat × Nat} (h : w.heap[b]? = some (.cells x S p)) (k : w.heap[c]? = some (.cells y T q)) (hST : S ≠ T) : b ≠ c := by
  rintro rfl
  rw [h] at k
  simp at k
  exact hST k.2.1

/-- what gathers bits: the builder holds m letters, k bits wait, they are v -/
structure Gt (B bo ba bs bq bh bk : Nat) (L : ByteArray) (W M : Nat) (l : List UInt8) (v k : Nat) (w : World) : Prop where
  o : Bld B bo l w
  a : Av ba L W M w
  s : w.heap[bs]? = some (.cells #[.int .i64 (W : Int)] 3 (0, 0))
  y : w.heap[bq]? = some (.cells #[.func (.func 16) #[] #[.pointer (some ⟨bo, 0, none⟩), .pointer (some ⟨ba, 0, none⟩)]] 48 (0, 0))
  h : w.heap[bh]? = some (.cells #[.int .u64 (v : Int)] 44 (0, 0))
  k : w.heap[bk]? = some (.cells #[.int .i64 (k : Int)] 3 (0, 0))
section
variable {B bo ba bs bq bh bk W M v k : Nat} {L : ByteArray} {l : List UInt8} {w w' : World}
theorem bld_block (h : Bld B bo l w) : ∃ x, w.heap[bo]? = some (.cells x 39 (0, 0)) := by
  rcases h with ⟨_, v, h, _⟩ | ⟨_, v, h, _⟩
  · exact ⟨_, h⟩
  · exact ⟨_, h⟩
theorem Gt.held (g : Gt B bo ba bs bq bh bk L W M l v k w) (u : Nat) : Gt B bo ba bs bq bh bk L W M l u k (w.setCell ⟨bh, 0, none⟩ (.int .u64 (u : Int))) := by
  obtain ⟨x, hx⟩ := bld_block g.o
  have keep : ∀ (c : Nat) (y : Array Value) (T : TypeId), w.heap[c]? = some (.cells y T (0, 0)) → T ≠ 44 → (w.setCell ⟨bh, 0, none⟩ (.int .u64 (u : Int))).heap[c]? = some (.cells y T (0, 0)) := fun c y T hc hT =>
    (Below.heap_setCell _ _ _ _ (fun e => ne_of_type hc g.h hT (by simp [e]))).trans hc
  exact ⟨g.o.set g.h (by decide) (ne_of_type g.h hx (by decide)) _, keep _ _ _ g.a (by decide), keep _ _ _ g.s (by decide), keep _ _ _ g.y (by decide), one_setCell g.h, keep _ _ _ g.k (by decide)⟩
theorem Gt.wait (g : Gt B bo ba bs bq bh bk L W M l v k w) (hne : bs ≠ bk) (u : Nat) : Gt B bo ba bs bq bh bk L W M l v u (w.setCell ⟨bk, 0, none⟩ (.int .i64 (u : Int))) := by
  obtain ⟨x, hx⟩ := bld_block g.o
  have keep : ∀ (c : Nat) (y : Array Value) (T : TypeId), w.heap[c]? = some (.cells y T (0, 0)) → T ≠ 3 → (w.setCell ⟨bk, 0, none⟩ (.int .i64 (u : Int))).heap[c]? = some (.cells y T (0, 0)) := fun c y T hc hT =>
    (Below.heap_setCell _ _ _ _ (fun e => ne_of_type hc g.k hT (by simp [e]))).trans hc
  exact ⟨g.o.set g.k (by decide) (ne_of_type g.k hx (by decide)) _, keep _ _ _ g.a (by decide), (Below.heap_setCell _ _ _ _ (fun e => hne (by simp [e]))).trans g.s, keep _ _ _ g.y (by decide), keep _ _ _ g.h (by decide), one_setCell g.k⟩
theorem Gt.kp (g : Gt B bo ba bs bq bh bk L W M l v k w) (hk : Kp bo w w') {l' : List UInt8} (ho : Bld B bo l' w') : Gt B bo ba bs bq bh bk L W M l' v k w' := by
  obtain ⟨x, hx⟩ := bld_block g.o
  exact ⟨ho, hk _ _ _ (ne_of_type g.a hx (by decide)) (by decide) g.a, hk _ _ _ (ne_of_type g.s hx (by decide)) (by decide) g.s, hk _ _ _ (ne_of_type g.y hx (by decide)) (by decide) g.y, hk _ _ _ (ne_of_type g.h hx (by decide)) (by decide) g.h, hk _ _ _ (ne_of_type g.k hx (by decide)) (by decide) g.k⟩
theorem Gt.drewN (g : Gt B bo ba bs bq bh bk L W M l v k w) (j : Nat) : Gt B bo ba bs bq bh bk L W M l v k (w.drewN j) := ⟨g.o, g.a, g.s, g.y, g.h, g.k⟩
end

set_option maxRecDepth 100000 in
set_option maxHeartbeats 1000000 in
theorem say_any (B bo ba W M : Nat) (L : ByteArray) (l : List UInt8) (x : Nat) (w : World) (ho : Bld B bo l w) (ha : Av ba L W M w) (hx : x < L.size) (_ : L.size ≤ 1000) (hlen : l.length + 1 ≤ 140737488355328) (hBw : B ≤ w.heap.size) :
    Calls Try.prog 16 #[.int .u64 (x : Int), .pointer (some ⟨bo, 0, none⟩), .pointer (some ⟨ba, 0, none⟩)] w fun e w' => e = .returned (.tuple #[]) ∧ Bld B bo (l ++ [L[x]]) w' ∧ Below B w w' ∧ Kp bo w w' := by
  have HC := Lib.hid (writeByte_any B bo l L[x] w ho hlen hBw)
  have c0 := ha.c0
  clear ho ha
  go_enter Try.func16, Try.ntmps16
  go_wp2_with fail
  refine HC.out.mono ?_
  rintro e w1 ⟨rfl, h1, h2, h3⟩
  go_wp2_with fail
  go_end0
  exact ⟨rfl, h1, h2, h3⟩

set_option maxRecDepth 100000 in
set_option maxHeartbeats 1000000 in
theorem put_any (B bo ba bs bq bh bk W M : Nat) (L : ByteArray) (f : Nat → Nat) (n m k g bits : Nat) (w : World) (hg : Gt B bo ba bs bq bh bk L W M (ltrs L W f n m) (gv f n (m * W) k) k w) (hne : bs ≠ bk)
    (hW : 4 ≤ W ∧ W ≤ 6) (hk : k < W) (hb : bits ≤ 8) (he : g = gv f n (m * W + k) bits) (hL : 2 ^ W ≤ L.size) (hLs : L.size ≤ 1000) (hm : m ≤ 100000000) (hBw : B ≤ w.heap.size) (hBh : B ≤ bh) (hBk : B ≤ bk) :
    Calls Try.prog 25 #[.int .u64 (g : Int), .int .i64 (bits : Int), .pointer (some ⟨bh, 0, none⟩), .pointer (some ⟨bk, 0, none⟩), .pointer (some ⟨bs, 0, none⟩), .pointer (some ⟨bq, 0, none⟩)] w
      fun e w' => e = .returned (.tuple #[]) ∧ (∃ m' k', m' * W + k' = m * W + k + bits ∧ k' < W ∧ Gt B bo ba bs bq bh bk L W M (ltrs L W f n m') (gv f n (m' * W) k') k' w') ∧ Below B w w' := by
  obtain ⟨v, hv⟩ : ∃ v, gv f n (m * W) k = v := ⟨_, rfl⟩
  rw [hv] at hg
  obtain ⟨v2, hv2⟩ : ∃ v2, gv f n (m * W) (k + bits) = v2 := ⟨_, rfl⟩
  have hk8 : k + bits ≤ 13 := by omega
  have hor : Go.bits BinOp.or IntKind.u64 (IntKind.u64.wrap ((v : Int) * 2 ^ bits)) (g : Int) = (v2 : Int) := by
    have e := gv_add (f := f) (n := n) (i := m * W) (a := k) (b := bits)
    have h1 : gv f n (m * W) (k + bits) < 2 ^ (k + bits) := gv_lt
    have h2 : 2 ^ (k + bits) ≤ 2 ^ 13 := Nat.pow_le_pow_right (by omega) hk8
    have h3 : gv f n (m * W + k) bits < 2 ^ bits := gv_lt
    have h4 : 2 ^ bits ≤ 2 ^ 8 := Nat.pow_le_pow_right (by omega) hb
    rw [hv, ← he] at e
    rw [← he] at h3
    have h5 : ((v : Int) * 2 ^ bits) = ((v * 2 ^ bits : Nat) : Int) := by push_cast; rfl
    rw [h5, show IntKind.u64.wrap ((v * 2 ^ bits : Nat) : Int) = ((v * 2 ^ bits : Nat) : Int) from by rw [IntKind.wrap_u64]; omega, u64_or_nat _ _ (by omega) (by omega), nat_join bits _ _ (Nat.mul_mod_left _ _) h3, ← e, hv2]
  have hh := cell_of_one hg.h
  have hf := free_of_one hg.h
  have G1 := Lib.hid (hg.held v2)
  have B1 := Lib.hid ((Below.refl B w).setCell (p := ⟨bh, 0, none⟩) hBh (.int .u64 (v2 : Int)))
  obtain ⟨w1, hw1⟩ : ∃ w1, w.setCell ⟨bh, 0, none⟩ (.int .u64 (v2 : Int)) = w1 := ⟨_, rfl⟩
  rw [hw1] at G1 B1
  clear he hv hg
  go_enter Try.func25, Try.ntmps25
  go_upto_region 1 with fail
  clear hw1 hh hf hor
  have hh := cell_of_one G1.out.k
  have hf := free_of_one G1.out.k
  have B2 := Lib.hid (B1.out.setCell (p := ⟨bk, 0, none⟩) hBk (.int .i64 ((k + bits : Nat) : Int)))
  have G2 := Lib.hid (G1.out.wait hne (k + bits))
  obtain ⟨k2, hk2⟩ : ∃ k2, k + bits = k2 := ⟨_, rfl⟩
  have f1 : IntKind.i64.wrap ((k : Int) + (bits : Int)) = (k2 : Int) := by rw [IntWalk.i64_in _ (by omega)]; omega
  rw [hk2] at B2 G2 hk8 hv2
  obtain ⟨w2, hw2⟩ : ∃ w2, w1.setCell ⟨bk, 0, none⟩ (.int .i64 (k2 : Int)) = w2 := ⟨_, rfl⟩
  rw [hw2] at G2 B2
  go_wp2_with fail
  clear hw2 hh hf f1
  go_loopw [] (fun wr => ∃ m' k', k' ≤ k2 ∧ Hid (m' * W + k' = m * W + k2) ∧ Hid (Gt B bo ba bs bq bh bk L W M (ltrs L W f n m') (gv f n (m' * W) k') k' wr) ∧ Hid (Below B w wr)) (fun wr => match wr.cell? ⟨bk, 0, none⟩ with | some v => (intOf v).toNat | none => 0)
  case atStart => exact ⟨m, k2, Nat.le_refl _, Lib.hid rfl, by rw [hv2]; exact G2, B2⟩
  case round =>
    obtain ⟨m', k', hkk, hs, hG, hB⟩ := hrel
    have h1 := cell_of_one hG.out.k
    have h2 := free_of_one hG.out.k
    have h3 := cell_of_one hG.out.s
    by_cases hlt : W ≤ k'
    · obtain ⟨r, hr⟩ : ∃ r, k' - W = r := ⟨_, rfl⟩
      have f1 : IntKind.i64.wrap ((k' : Int) - (W : Int)) = (r : Int) := by rw [IntWalk.i64_in _ (by omega)]; omega
      have B3 := Lib.hid (hB.out.setCell (p := ⟨bk, 0, none⟩) hBk (.int .i64 (r : Int)))
      have G3 := Lib.hid (hG.out.wait hne r)
      obtain ⟨w3, hw3⟩ : ∃ w3, wr.setCell ⟨bk, 0, none⟩ (.int .i64 (r : Int)) = w3 := ⟨_, rfl⟩
      rw [hw3] at G3 B3
      go_upto_region 4 with fail
      clear hw3 h1 h2 h3 f1
      have h1 := cell_of_one G3.out.y
      have h2 := cell_of_one G3.out.h
      have h3 := cell_of_one G3.out.k
      obtain ⟨v', hv'⟩ : ∃ v', gv f n (m' * W) k' = v' := ⟨_, rfl⟩
      obtain ⟨x, hx⟩ : ∃ x, gv f n (m' * W) W = x := ⟨_, rfl⟩
      obtain ⟨y, hy⟩ : ∃ y, gv f n ((m' + 1) * W) r = y := ⟨_, rfl⟩
      have hm' : m' ≤ 200000000 := by
        have h5 : m' * 4 ≤ m' * W := Nat.mul_le_mul_left _ hW.1
        have h6 : m * W ≤ m * 6 := Nat.mul_le_mul_left _ hW.2
        have := hs.out
        omega
      have hxL : x < L.size := by rw [← hx]; exact Nat.lt_of_lt_of_le gv_lt hL
      have hy2 : y < 2 ^ r := by rw [← hy]; exact gv_lt
      have hvx : v' = x * 2 ^ r + y := by
        rw [← hv', ← hx, ← hy, show k' = W + r by omega, gv_add, Nat.add_mul, Nat.one_mul]
      have hv64 : v' < 18446744073709551616 := by
        have h1 : gv f n (m' * W) k' < 2 ^ k' := gv_lt
        have h2 : 2 ^ k' ≤ 2 ^ 13 := Nat.pow_le_pow_right (by omega) (by omega)
        rw [hv'] at h1
        omega
      have hT : ltrs L W f n m' ++ [L[x]] = ltrs L W f n (m' + 1) := by
        rw [ltrs_succ, ltr_at (by rw [hx]; exact hxL)]
        congr 2
        simp only [hx]
      rw [hv'] at h2 G3
      have d1 : v' / 2 ^ r = x := by
        rw [hvx, Nat.mul_comm, Nat.mul_add_div (Nat.two_pow_pos r), Nat.div_eq_of_lt hy2, Nat.add_zero]
      have d2 : v' % 2 ^ r = y := by
        rw [hvx, Nat.mul_comm, Nat.mul_add_mod, Nat.mod_eq_of_lt hy2]
      have f1 : (v' : Int) / 2 ^ r = (x : Int) := by rw [← d1]; push_cast; rfl
      have HS := Lib.hid (say_any B bo ba W M L (ltrs L W f n m') x w3.drew G3.out.o G3.out.a hxL hLs (by rw [ltrs_len]; omega) (Nat.le_trans hBw B3.out.size))
      rw [hT] at HS
      clear hT hvx hv' hx
      go_still_tail 4, (by kernel_rfl)
      change wpList _ _ _ _ _ w3.drew
      go_wp2_with fail
      refine HS.out.mono ?_
      rintro e w4 ⟨rfl, o4, b4, k4⟩
      have G4 := Lib.hid ((G3.out.drewN 1).kp k4 o4)
      have B4 := Lib.hid (B3.out.drew.trans b4)
      clear h1 h2 h3 f1 o4 b4 k4
      have h2 := cell_of_one G4.out.h
      have h3 := cell_of_one G4.out.k
      have h1 := free_of_one G4.out.h
      have hand : Go.bits BinOp.and IntKind.u64 (v' : Int) (IntKind.u64.wrap (IntKind.u64.wrap (2 ^ r) - 1)) = (y : Int) := by
        have h7 : 2 ^ r ≤ 2 ^ 13 := Nat.pow_le_pow_right (by omega) (by omega)
        have h8 : 0 < 2 ^ r := Nat.two_pow_pos r
        have h9 : ((2 : Int) ^ r) = ((2 ^ r : Nat) : Int) := by push_cast; rfl
        rw [h9, show IntKind.u64.wrap ((2 ^ r : Nat) : Int) = ((2 ^ r : Nat) : Int) from by rw [IntKind.wrap_u64]; omega,
          show IntKind.u64.wrap (((2 ^ r : Nat) : Int) - 1) = ((2 ^ r - 1 : Nat) : Int) from by rw [IntKind.wrap_u64]; omega]
        rw [u64_and_nat _ _ hv64 (by omega), and_mask, d2]
      have G5 := Lib.hid ((G4.out.held y).drewN 1)
      have B5 := Lib.hid ((B4.out.setCell (p := ⟨bh, 0, none⟩) hBh (.int .u64 (y : Int))).drew)
      go_wp2_with fail
      go_still_tail 5, (by kernel_rfl)
      change wpList _ _ _ _ _ w4.drew
      clear d1 d2 hy2
      go_wp2_with fail
      go_roundw
      case rel => exact ⟨m' + 1, r, by omega, Lib.hid (by have := hs.out; rw [Nat.add_mul]; omega), by rw [hy]; exact G5, B5⟩
      case measure =>
        have e1 := cell_of_one G5.out.k
        have e2 := cell_of_one hG.out.k
        rw [e2]
        have e3 : ((w4.setCell ⟨bh, 0, none⟩ (.int .u64 (y : Int))).drew).cell? ⟨bk, 0, none⟩ = some (.int .i64 (r : Int)) := e1
        rw [e3]
        simp [intOf]
        omega
    · go_wp2_with fail
      go_end0
      exact ⟨rfl, ⟨m', k', by have := hs.out; omega, by omega, hG.out⟩, hB.out⟩
end Go.Proofs.Ythkpjcaphjboeaa.nn
