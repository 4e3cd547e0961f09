/- The walk of Bytes: the bytes of a number, the highest first. -/
import Derived.Test.YtnikoojgoiobjaaDoorShifts
import Derived.Test.YtnikoojgoiobjaaDoorWrite
namespace Go.Proofs.YtnikoojgoiobjaaDoor.nn
open Go.RowKit

/-- the number of m bytes, the highest first -/
def be (b : Nat → Nat) : Nat → Nat
  | 0 => 0
  | k + 1 => be b k * 256 + b k
theorem be_congr {b c : Nat → Nat} {m : Nat} (h : ∀ i, i < m → b i = c i) : be b m = be c m := by
  induction m with
  | zero => rfl
  | succ m ih => rw [be, be, ih fun i hi => h i (by omega), h m (by omega)]
theorem pow256 (q r : Nat) : 256 ^ (4 * q + r) = 2 ^ (8 * r) * (2 ^ 32) ^ q := by
  rw [Nat.pow_add, Nat.mul_comm, Nat.pow_mul 256 4 q, Nat.pow_mul 2 8 r]
/-- one byte of a number of limbs -/
theorem sm_byte {f : Nat → Nat} {n q r : Nat} (lf : Lt (2 ^ 32) f n) (hq : q < n) (hr : r < 4) : sm (2 ^ 32) f n / 256 ^ (4 * q + r) % 256 = f q / 2 ^ (8 * r) % 256 := by
  have h1 := sm_split (2 ^ 32) f q (n - q)
  rw [Nat.add_sub_cancel' (by omega)] at h1
  obtain ⟨t, ht⟩ : ∃ t, n - q = 1 + t := ⟨n - q - 1, by omega⟩
  have h2 := sm_split (2 ^ 32) (fun i => f (q + i)) 1 t
  rw [← ht] at h2
  have h3 : sm (2 ^ 32) (fun i => f (q + i)) 1 = f q := by simp [sm]
  rw [h3, Nat.pow_one] at h2
  have hlow : sm (2 ^ 32) f q < (2 ^ 32) ^ q := sm_lt (lf.mono (by omega))
  have hD : 0 < (2 ^ 32) ^ q := Nat.pow_pos (Nat.two_pow_pos 32)
  have hfq := lf q hq
  rw [h1, h2, pow256, Nat.mul_comm (2 ^ (8 * r)), ← Nat.div_div_eq_div_mul, Nat.add_mul_div_right _ _ hD, Nat.div_eq_of_lt hlow, Nat.zero_add]
  generalize sm (2 ^ 32) (fun i => f (q + (1 + i))) t = X
  match r, hr with
  | 0, _ => simp only [Nat.mul_zero, Nat.pow_zero, Nat.div_one]; omega
  | 1, _ => show (f q + X * 4294967296) / 256 % 256 = f q / 256 % 256; omega
  | 2, _ => show (f q + X * 4294967296) / 65536 % 256 = f q / 65536 % 256; omega
  | 3, _ => show (f q + X * 4294967296) / 16777216 % 256 = f q / 16777216 % 256; omega

theorem info_u8 : (Tryd.prog.info? 5).map (fun i => (i.zero, i.size, i.bytes)) = some (some (.int .u8 0), 1, 1) := by kernel_rfl
theorem made_vl8 (n : Nat) : (madeCells (Value.int .u8 0).cells (n * 1)).toList = vl .u8 (fun _ => 0) n := by
  rw [Nat.mul_one]
  show (madeCells #[Value.int .u8 0] n).toList = _
  rw [toList_madeCells_one]
  simp only [vl]
  apply List.ext_getElem (by simp)
  intro i h1 h2
  simp

/-- bytes of its own are the answer: just those of N -/
def OutB (w w' : World) (e : Ending) (N : Nat) : Prop :=
  ∃ g O, e = .returned (.slice (some ⟨g, 0, none⟩) ((bl N + 7) / 8) ((bl N + 7) / 8)) ∧ w.heap.size ≤ g ∧ Rd w' .u8 (some ⟨g, 0, none⟩) ((bl N + 7) / 8) O ∧
    (∀ i, i < (bl N + 7) / 8 → O i = N / 256 ^ ((bl N + 7) / 8 - 1 - i) % 256) ∧ Below w.heap.size w w'

def BytRel (w wr : World) (g : Nat) (e : TypeId) (cur : Array Value) (m N i : Nat) : Prop :=
  ∃ (f' : Nat → Nat) (cur' : Array Value), Wrote w wr g e cur cur' 0 m ∧ Ints cur' .u8 0 m f' ∧ ∀ j, j < i → f' j = N / 256 ^ (m - 1 - j) % 256
theorem BytRel.step {w wr : World} {g : Nat} {e : TypeId} {cur : Array Value} {m N i : Nat} (h : BytRel w wr g e cur m N i) (hi : i < m) (v : Nat) (hv : v = N / 256 ^ (m - 1 - i) % 256) (z : Int) (hz : z = (v : Int)) : BytRel w (wr.setCell ⟨g, i, none⟩ (.int .u8 z)) g e cur m N (i + 1) := by
  subst hz
  obtain ⟨f', cur', h1, h2, h3⟩ := h
  have a := h1.set_ i hi (.int .u8 (v : Int))
  have b := h2.set_ i v hi
  rw [Nat.zero_add] at a b
  refine ⟨_, _, a, b, fun j hj => ?_⟩
  by_cases e : j = i
  · subst e; rw [upd_at]; exact hv
  · rw [upd_ne _ e]; exact h3 j (by omega)

set_option maxRecDepth 100000 in
set_option maxHeartbeats 1000000 in
theorem bytes_any (A : Option Addr) (n c : Nat) (f : Nat → Nat) (w : World) (hA : Rd w .u32 A n f) (lf : Lt (2 ^ 32) f n) (hn : n ≤ c) (hc : c ≤ maxLen) (hreach : n * 4 ≤ 140737488351232) :
    Calls Tryd.prog 10 #[.slice A n c] w fun e w' => OutB w w' e (sm (2 ^ 32) f n) := by
  obtain ⟨i0, hi, hz0, hz1, hz2⟩ := info_parts info_u8
  have HB := Lib.hid (bits_any A n c f w hA lf hn hc (by omega))
  obtain ⟨N, hN⟩ : ∃ N, sm (2 ^ 32) f n = N := ⟨_, rfl⟩
  have hbl : bl N ≤ 32 * n := by
    rw [← hN]
    refine bl_le ?_
    rw [Nat.pow_mul 2 32 n]
    exact sm_lt lf
  rw [hN] at HB
  rw [hN]
  obtain ⟨m, hm⟩ : ∃ m, (bl N + 7) / 8 = m := ⟨_, rfl⟩
  have hm' : ((bl N : Int) + 7) / 8 = (m : Int) := by omega
  have hm4 : m ≤ 4 * n := by omega
  have HM := Lib.hid (And.intro hm hN)
  have hlf := Lib.hid lf
  have hmb : m ≤ 140737488351232 := by omega
  obtain ⟨B, hB⟩ : ∃ B, bl N = B := ⟨_, rfl⟩
  rw [hB] at HB hm' hbl
  clear hm hN hB lf
  go_enter Tryd.func10, Tryd.ntmps10
  go_wp2_with (first
    | (go_at_call 25; refine HB.out.mono ?_; rintro e w' ⟨rfl, rfl⟩)
    | (refine wpList_make_full _ rfl _ _ 23 rfl w.heap.size 5 i0 _ 1 Tryd.underlying23 hi hz0 hz1 .i64 .i64 _ _ m rfl rfl ?c1 ?c2 ?c3 ?c4 ?c5 ?_; rotate_left 5; intro w1 hown1 hg1))
  case c1 => exact hm'
  case c2 => exact hm'
  case c3 => rw [hz2]; omega
  case c4 => unfold maxLen; omega
  case c5 => omega
  rw [made_vl8] at hown1
  obtain ⟨cur, hbk, hint, _, _, _, hcs, _⟩ := own_wrote hown1
  have hbw1 : Below w.heap.size w w1 := (Below.refl _ _).grown (row := none) hg1 (Nat.le_refl _) (fun k hk => by cases hk)
  have hA1 := hA.below hbw1
  have hne : Hid (∀ b o, A = some ⟨b, o, none⟩ → 0 < n → b ≠ w.heap.size) := Lib.hid fun b o e h0 => by have := hA.lt e h0; omega
  clear hown1 hcs hg1 hm'
  go_loopw [15] (fun s wr => ∃ i : Nat, i ≤ m ∧ s = .int .i64 i ∧ Hid (BytRel w1 wr w.heap.size 5 cur m N i)) (fun s _ => m - (intOf s).toNat)
  case atStart => exact ⟨0, Nat.zero_le _, rfl, Lib.hid ⟨fun _ => 0, cur, Wrote.refl hbk 0 _, hint, fun j hj => absurd hj (by omega)⟩⟩
  case round =>
    obtain ⟨i, hi', rfl, hrel⟩ := hrel
    by_cases hlt : i < m
    · obtain ⟨f', cur', hw, hin, _⟩ := hrel.out
      obtain ⟨q, hq⟩ : ∃ q, (m - 1 - i) / 4 = q := ⟨_, rfl⟩
      obtain ⟨r, hr⟩ : ∃ r, (m - 1 - i) % 4 = r := ⟨_, rfl⟩
      have hp : m - 1 - i = 4 * q + r := by omega
      have hr4 : r < 4 := by omega
      have hqn : q < n := by omega
      have hval := sm_byte hlf.out hqn hr4
      rw [HM.out.2, ← hp] at hval
      obtain ⟨b, off, rfl, _, hcell⟩ := (hA1.wrote hw hne.out) (by omega)
      have hx := hcell q hqn
      have bx := hlf.out q hqn
      have hc1 := (Bk.cell hw.blk (0 + i)).trans (hin i hlt)
      have hf1 := Bk.frozen hw.blk (0 + i)
      rw [Nat.zero_add] at hc1 hf1
      have HV := Lib.hid hval.symm
      obtain ⟨p, hpp⟩ : ∃ p, 4 * q + r = p := ⟨_, rfl⟩
      obtain ⟨t, htt⟩ : ∃ t, 8 * r = t := ⟨_, rfl⟩
      have t32 : t < 32 := by omega
      have e1 : (m : Int) - 1 - (i : Int) = (p : Int) := by omega
      have e2 : (p : Int) / 4 = (q : Int) := by omega
      have e3 : (p : Int) % 4 = (r : Int) := by omega
      have e4 : (8 : Int) * (r : Int) = (t : Int) := by omega
      rw [htt] at HV
      clear hcell hval hq hr hp hpp htt hw hin
      go_wp2_with fail
      go_roundw
      case rel => exact ⟨i + 1, by omega, by go_num, Lib.hid (hrel.out.step hlt _ HV.out _ (by first | rfl | simp))⟩
      case measure => simp [intOf]; omega
    · obtain rfl : i = m := by omega
      obtain ⟨f', cur', hw, hin, hall⟩ := hrel.out
      have hbw2 := hbw1.grown hw.grown hbw1.size (fun k hk => by injection hk with hk; exact Nat.le_of_eq hk)
      have HR := Lib.hid (hin.rd hw.blk)
      have HL := Lib.hid hall
      clear hall hw hin
      go_wp2
      go_ret
      refine ⟨w.heap.size, f', ?_, Nat.le_refl _, ?_, ?_, hbw2⟩
      · rw [HM.out.1]; rfl
      · rw [HM.out.1]; exact HR.out
      · rw [HM.out.1]; exact HL.out
end Go.Proofs.YtnikoojgoiobjaaDoor.nn
