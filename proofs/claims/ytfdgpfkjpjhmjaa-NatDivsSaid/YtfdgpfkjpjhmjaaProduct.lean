/- The walk of product: the product of two numbers of wide limbs, in a block of its own. -/
import Derived.Test.YtfdgpfkjpjhmjaaNarrow
namespace Go.Proofs.Ytfdgpfkjpjhmjaa.nn
open Go.RowKit

/-- what holds when i limbs of f are done: the lowest i + m places hold f's first i limbs times h, the rest is 0 -/
def ProdRel (w wr : World) (g : Nat) (e : TypeId) (cur : Array Value) (n m : Nat) (f h : Nat → Nat) (i : Nat) : Prop :=
  ∃ (f' : Nat → Nat) (cur' : Array Value), Wrote w wr g e cur cur' 0 (n + m) ∧ Ints cur' .u64 0 (n + m) f' ∧ Lt W64 f' (n + m) ∧ sm W64 f' (i + m) = sm W64 f i * sm W64 h m ∧ ∀ j, i + m ≤ j → j < n + m → f' j = 0

/-- behind one row: the stretch from i on is rewritten, the carry is stored behind it -/
theorem ProdRel.step {w wr w1 : World} {g : Nat} {e : TypeId} {cur cur' cur1 : Array Value} {n m i k : Nat} {f h f' f1 : Nat → Nat} (hw : Wrote w wr g e cur cur' 0 (n + m)) (hin : Ints cur' .u64 0 (n + m) f') (lf' : Lt W64 f' (n + m))
    (hv : sm W64 f' (i + m) = sm W64 f i * sm W64 h m) (hz : ∀ j, i + m ≤ j → j < n + m → f' j = 0) (hi : i < n) (hk : k < W64)
    (hm : MulRel wr w1 g e cur' i m (fun j => f' (i + j)) h (f i) f1 cur1 k m) :
    ProdRel w (w1.setCell ⟨g, i + m, none⟩ (.int .u64 (k : Int))) g e cur n m f h (i + 1) := by
  obtain ⟨h1, h2, h3, _, h5⟩ := hm
  have hw1 := hw.trans (h1.wide (off' := 0) (n' := n + m) (by omega) (by omega))
  have hi1 : Ints cur1 .u64 0 (n + m) (fun j => if i ≤ j ∧ j < i + m then f1 (j - i) else f' j) := fun j hj => by
    rw [Nat.zero_add]
    by_cases hc : i ≤ j ∧ j < i + m
    · have := h2 (j - i) (by omega)
      rw [show i + (j - i) = j by omega] at this
      simp only [if_pos hc]
      exact this
    · simp only [if_neg hc]
      have := hin j hj
      rw [Nat.zero_add] at this
      rw [h1.out j (by omega)]
      exact this
  have lf1 : Lt W64 (fun j => if i ≤ j ∧ j < i + m then f1 (j - i) else f' j) (n + m) := fun j hj => by
    by_cases hc : i ≤ j ∧ j < i + m
    · simp only [if_pos hc]; exact h3 _ (by omega)
    · simp only [if_neg hc]; exact lf' j hj
  have h6 := hw1.set_ (i + m) (by omega) (.int .u64 (k : Int))
  have h7 := hi1.set_ (i + m) k (by omega)
  simp only [Nat.zero_add] at h6 h7
  refine ⟨_, _, h6, h7, lf1.upd hk, ?_, fun j ha hb => ?_⟩
  · rw [show i + 1 + m = (i + m) + 1 by omega, sm_snoc, sm_split W64 _ i m]
    rw [sm_split W64 f' i m] at hv
    have e1 : sm W64 (fun j => if i ≤ j ∧ j < i + m then f1 (j - i) else f' j) i = sm W64 f' i := sm_congr _ fun j hj => by rw [if_neg (by omega)]
    have e2 : sm W64 (fun t => (fun j => if i ≤ j ∧ j < i + m then f1 (j - i) else f' j) (i + t)) m = sm W64 f1 m := sm_congr _ fun j hj => by
      show (if i ≤ i + j ∧ i + j < i + m then f1 (i + j - i) else f' (i + j)) = _
      rw [if_pos (by omega), Nat.add_sub_cancel_left]
    have e3 : sm W64 f (i + 1) = sm W64 f i + f i * W64 ^ i := rfl
    rw [e1, e2, e3, Nat.add_mul, ← hv, Nat.pow_add]
    have h8 := congrArg (· * W64 ^ i) h5
    simp only [Nat.add_mul] at h8
    have e4 : k * (W64 ^ i * W64 ^ m) = k * W64 ^ m * W64 ^ i := by ac_rfl
    have e5 : f i * W64 ^ i * sm W64 h m = f i * sm W64 h m * W64 ^ i := by ac_rfl
    rw [e4, e5]
    omega
  · rw [upd_ne _ (by omega)]
    rw [if_neg (by omega)]
    exact hz j (by omega) hb

set_option maxRecDepth 100000 in
set_option maxHeartbeats 1000000 in
theorem product_any (A B : Option Addr) (n m c d : Nat) (f h : Nat → Nat) (w : World) (hA : Rd w .u64 A n f) (hB : Rd w .u64 B m h) (lf : Lt W64 f n) (lh : Lt W64 h m) (hn : n ≤ 100000) (hm : m ≤ 100000) :
    Calls Try.prog 46 #[.slice A n c, .slice B m d] w fun e w' => Wide w w' e (sm W64 f n * sm W64 h m) (n + m) := by
  obtain ⟨i0, hi, hz0, hz1, hz2⟩ := info_parts info_u64
  have LF := Lib.hid lf
  have LH := Lib.hid lh
  clear lf lh
  go_enter Try.func46, Try.ntmps46
  go_wp2_with (refine wpList_make_full _ rfl _ _ 59 rfl w.heap.size 63 i0 _ 1 Try.underlying59 hi hz0 hz1 .i64 .i64 _ _ (n + m) rfl rfl ?c1 ?c2 ?c3 ?c4 ?c5 ?_; rotate_left 5; intro w1 hown1 hg1)
  case c1 => omega
  case c2 => omega
  case c3 => rw [hz2]; omega
  case c4 => unfold maxLen; omega
  case c5 => omega
  rw [made_vl64] at hown1
  obtain ⟨cur, hbk, hint, _, _, _, hcs, _⟩ := own_wrote hown1
  have hbw1 : Below w.heap.size w w1 := (Below.refl _ _).grown (row := none) hg1 (Nat.le_refl _) (fun k hk => by cases hk)
  have hA1 := hA.below hbw1
  have hB1 := hB.below hbw1
  have hneA : Hid (∀ b o, A = some ⟨b, o, none⟩ → 0 < n → b ≠ w.heap.size) := Lib.hid fun b o e h0 => by have := hA.lt e h0; omega
  have hneB : Hid (∀ b o, B = some ⟨b, o, none⟩ → 0 < m → b ≠ w.heap.size) := Lib.hid fun b o e h0 => by have := hB.lt e h0; omega
  have HCS := Lib.hid hcs
  clear hown1 hcs hg1 hA hB
  go_loopw [16] (fun s wr => ∃ i : Nat, i ≤ n ∧ s = .int .i64 i ∧ ProdRel w1 wr w.heap.size 63 cur n m f h i) (fun s _ => n - (intOf s).toNat)
  case atStart => exact ⟨0, Nat.zero_le _, rfl, fun _ => 0, cur, Wrote.refl hbk 0 _, hint, fun _ _ => w64_pos, by rw [zero_sm]; simp [sm], fun _ _ _ => rfl⟩
  case round =>
    obtain ⟨i, hi', rfl, f', cur', hw, hin, lf', hv, hz⟩ := hrel
    by_cases hlt : i < n
    · obtain ⟨b, off, rfl, _, hcell⟩ := (hA1.wrote hw hneA.out) (by omega)
      have hx := hcell i hlt
      have hBw := hB1.wrote hw hneB.out
      have HV := Lib.hid (And.intro hv hz)
      have LFF := Lib.hid lf'
      clear hcell hv hz lf'
      have hseg : Ints cur' .u64 i m (fun j => f' (i + j)) := fun j hj => by
        have := hin (i + j) (by omega)
        rwa [Nat.zero_add] at this
      have HR := Lib.hid (addTimes_any w.heap.size i m (n + m - i) 63 cur' (fun j => f' (i + j)) B d h (f i) _ hw.blk hseg hBw hneB.out (fun j hj => LFF.out _ (by omega)) LH.out (LF.out i hlt) (by unfold maxLen; omega))
      have HW := Lib.hid hw
      have HIN := Lib.hid hin
      clear hseg hw hin
      go_wp2_with fail
      refine HR.out.mono ?_
      rintro e w2 ⟨k, rfl, hk, f1, cur1, hrel⟩
      have hc1 : ∃ v, w2.cell? ⟨w.heap.size, i + m, none⟩ = some v := by
        rw [Bk.cell hrel.1.blk]
        have hs : i + m < cur1.size := by rw [hrel.1.size, HW.out.size, HCS.out]; omega
        exact ⟨_, Array.getElem?_eq_getElem hs⟩
      obtain ⟨v1, hc1⟩ := hc1
      have hf1 := Bk.frozen hrel.1.blk (i + m)
      have HREL := Lib.hid hrel
      have HK := Lib.hid hk
      clear hrel hk
      go_wp2
      go_roundw
      case rel => exact ⟨i + 1, by omega, by go_num, ProdRel.step HW.out HIN.out LFF.out HV.out.1 HV.out.2 hlt HK.out HREL.out⟩
      case measure => simp [intOf]; omega
    · obtain rfl : i = n := by omega
      have hbw2 := hbw1.grown hw.grown hbw1.size (fun k hk => by injection hk with hk; exact Nat.le_of_eq hk)
      have HB := Lib.hid hw.blk
      have hcz : Hid (cur'.size = i + m) := Lib.hid (hw.size.trans HCS.out)
      go_wp2
      go_ret
      exact ⟨_, cur', f', rfl, Nat.le_refl _, HB.out, hcz.out, hin, lf', hv, hbw2⟩
end Go.Proofs.Ytfdgpfkjpjhmjaa.nn
