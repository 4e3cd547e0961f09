/- The walks of base's Encode and Len, of any kind. -/
import Derived.Test.YthkpjcaphjboeaaBaseGather
namespace Go.Proofs.Ythkpjcaphjboeaa.nn
open Go.RowKit

set_option maxRecDepth 100000 in
theorem eight : ∀ x, x < 256 → 2 * (2 * (2 * (2 * (2 * (2 * (2 * (2 * 0 + x / 2 ^ 7 % 2) + x / 2 ^ 6 % 2) + x / 2 ^ 5 % 2) + x / 2 ^ 4 % 2) + x / 2 ^ 3 % 2) + x / 2 ^ 2 % 2) + x / 2 ^ 1 % 2) + x / 2 ^ 0 % 2 = x := by decide
theorem gv_byte {f : Nat → Nat} {n i : Nat} (hi : i < n) (hf : f i < 256) : gv f n (8 * i) 8 = f i := by
  have hb : ∀ j, j < 8 → bt8 f n (8 * i + j) = f i / 2 ^ (7 - j) % 2 := fun j hj => by
    unfold bt8
    rw [if_neg (by omega), show (8 * i + j) / 8 = i by omega, show (8 * i + j) % 8 = j by omega]
  simp only [gv]
  rw [hb 0 (by omega), hb 1 (by omega), hb 2 (by omega), hb 3 (by omega), hb 4 (by omega), hb 5 (by omega), hb 6 (by omega), hb 7 (by omega)]
  exact eight (f i) hf
theorem gv_zero {f : Nat → Nat} {n i k : Nat} (hi : 8 * n ≤ i) : gv f n i k = 0 := by
  induction k with
  | zero => rfl
  | succ k ih => rw [gv, ih]; unfold bt8; rw [if_pos (by omega)]
theorem all_said {W m k p : Nat} (h : m * W + k = p * W) (hk : k < W) : m = p ∧ k = 0 := by
  have h1 : (m * W + k) / W = m := by rw [Nat.mul_comm, Nat.mul_add_div (by omega), Nat.div_eq_of_lt hk, Nat.add_zero]
  have h2 : p * W / W = p := Nat.mul_div_cancel _ (by omega)
  rw [h, h2] at h1
  subst h1
  exact ⟨rfl, by omega⟩

theorem four_new (w : World) (o1 o2 o3 o4 : Obj) : ((((w.alloc o1).alloc o2).alloc o3).alloc o4).heap[w.heap.size]? = some o1 ∧ ((((w.alloc o1).alloc o2).alloc o3).alloc o4).heap[w.heap.size + 1]? = some o2 ∧
    ((((w.alloc o1).alloc o2).alloc o3).alloc o4).heap[w.heap.size + 2]? = some o3 ∧ ((((w.alloc o1).alloc o2).alloc o3).alloc o4).heap[w.heap.size + 3]? = some o4 := by
  have s1 : (w.alloc o1).heap.size = w.heap.size + 1 := by simp
  have s2 : ((w.alloc o1).alloc o2).heap.size = w.heap.size + 2 := by simp
  have s3 : (((w.alloc o1).alloc o2).alloc o3).heap.size = w.heap.size + 3 := by simp
  have n1 := heap_alloc_new w o1
  have n2 := heap_alloc_new (w.alloc o1) o2
  have n3 := heap_alloc_new ((w.alloc o1).alloc o2) o3
  have n4 := heap_alloc_new (((w.alloc o1).alloc o2).alloc o3) o4
  rw [s1] at n2
  rw [s2] at n3
  rw [s3] at n4
  exact ⟨(Lib.alloc_old _ _ _ (by omega)).trans ((Lib.alloc_old _ _ _ (by omega)).trans ((Lib.alloc_old _ _ _ (by omega)).trans n1)),
    (Lib.alloc_old _ _ _ (by omega)).trans ((Lib.alloc_old _ _ _ (by omega)).trans n2), (Lib.alloc_old _ _ _ (by omega)).trans n3, n4⟩
theorem Bld.keep {B b : Nat} {l : List UInt8} {w w' : World} (h : Bld B b l w) (hb : Below w.heap.size w w') : Bld B b l w' := by
  have key : ∀ p, Lib.BuilderAt 39 5 B b p (Lib.byteCells l) w → Lib.BuilderAt 39 5 B b p (Lib.byteCells l) w' := by
    rintro p ⟨hB, x, hbk, hown, hne⟩
    exact ⟨hB, x, (hb.block b (lt_of_block hbk)).trans hbk, own_below hown hb, hne⟩
  rcases h with h | h
  · exact .inl (key _ h)
  · exact .inr (key _ h)
set_option maxRecDepth 100000 in
set_option maxHeartbeats 1000000 in
theorem gather_any (B bo ba W M : Nat) (L : ByteArray) (w : World) (ho : Bld B bo [] w) (ha : Av ba L W M w) (hBw : B ≤ w.heap.size) :
    Calls Try.prog 15 #[.int .i64 (W : Int), .func (.func 16) #[] #[.pointer (some ⟨bo, 0, none⟩), .pointer (some ⟨ba, 0, none⟩)]] w
      fun e w' => e = .returned (.func (.func 25) #[] #[.pointer (some ⟨w.heap.size + 2, 0, none⟩), .pointer (some ⟨w.heap.size + 3, 0, none⟩), .pointer (some ⟨w.heap.size, 0, none⟩), .pointer (some ⟨w.heap.size + 1, 0, none⟩)])
        ∧ Gt B bo ba w.heap.size (w.heap.size + 1) (w.heap.size + 2) (w.heap.size + 3) L W M [] 0 0 w' ∧ Below B w w' := by
  have hmf : ∀ (fn : Fn) (first cap : Array Value) (w : World), (Instr.makeFunc fn first cap).run Try.prog w = .ok (.func fn first cap) w := fun _ _ _ _ => rfl
  have hbl := bld_block ho
  have HO := Lib.hid ho
  have HA := Lib.hid ha
  clear ho ha
  go_enter Try.func15, Try.ntmps15
  go_wp2_with fail
  go_ret
  have hb4 := fun o1 o2 o3 o4 => ((((Below.refl w.heap.size w).alloc (Nat.le_refl _) o1).alloc (by simp) o2).alloc (by simp; omega) o3).alloc (by simp; omega) o4
  have h4 := four_new w (.cells #[.int .i64 (W : Int)] 3) (.cells #[.func (.func 16) #[] #[.pointer (some ⟨bo, 0, none⟩), .pointer (some ⟨ba, 0, none⟩)]] 48) (.cells #[.int .u64 0] 44) (.cells #[.int .i64 0] 3)
  exact ⟨rfl, ⟨HO.out.keep (hb4 _ _ _ _), HA.out.keep (hb4 _ _ _ _), h4.1, h4.2.1, h4.2.2.1, h4.2.2.2⟩, (hb4 _ _ _ _).mono hBw⟩
end Go.Proofs.Ythkpjcaphjboeaa.nn
