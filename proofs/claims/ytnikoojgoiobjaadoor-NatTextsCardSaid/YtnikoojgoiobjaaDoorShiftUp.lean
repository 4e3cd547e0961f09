/- The walks of widthOf and shiftUp at 32 bits: a number times two to a power. -/
import Derived.Test.YtnikoojgoiobjaaDoorShelf
import Derived.Test.YtnikoojgoiobjaaDoorAwake
import Derived.Test.YtnikoojgoiobjaaDoorAddRel
import Derived.Test.YtnikoojgoiobjaaDoorRefSum
import Derived.Deep.RegionWith
import Derived.Deep.QuietTactic
import Derived.BigQuiet
import Derived.Test.YtnikoojgoiobjaaDoorShiftNum
import Derived.IntWalk
import Derived.Test.YtnikoojgoiobjaaDoorRefCmp
namespace Go.Proofs.YtnikoojgoiobjaaDoor.nn
open Go.RowKit

theorem bitLen_max32 : Lib.bitLen 4294967295 = 32 := by decide +kernel

set_option maxRecDepth 100000 in
set_option maxHeartbeats 400000 in
theorem width32 (w : World) : Calls Tryd.prog 58 #[] w fun e w' => e = .returned (.int .i64 32) ∧ w = w' := by
  have h := (Go.Proofs.Tryd.bits_Len64 4294967295 w (by decide) (by decide)).mono (R' := fun e w' => e = .returned (.int .i64 32) ∧ w = w') (by
    rintro e w' ⟨rfl, rfl⟩
    exact ⟨by rw [show (4294967295 : Int).toNat = 4294967295 from rfl, bitLen_max32]; rfl, rfl⟩)
  have H := Lib.hid h
  clear h
  go_enter Tryd.func58, Tryd.ntmps58
  go_wp2_with (go_at_call 68; refine H.out.mono ?_; rintro e w' ⟨rfl, rfl⟩)
  go_ret
  exact ⟨rfl, rfl⟩

theorem made_vl (n : Nat) : (madeCells (Value.int .u32 0).cells (n * 1)).toList = vl .u32 (fun _ => 0) n := by
  rw [Nat.mul_one]
  show (madeCells #[Value.int .u32 0] n).toList = _
  rw [toList_madeCells_one]
  simp only [vl]
  apply List.ext_getElem (by simp)
  intro i h1 h2
  simp

theorem zero_sm (B n : Nat) : sm B (fun _ => 0) n = 0 := by
  induction n with
  | zero => rfl
  | succ n ih => rw [sm, ih]; simp

/-- what holds when i limbs are shifted -/
def UpRel (w wr : World) (g : Nat) (e : TypeId) (cur : Array Value) (N q r s : Nat) (f : Nat → Nat) (i : Nat) : Prop :=
  ∃ (f' : Nat → Nat) (cur' : Array Value), Wrote w wr g e cur cur' 0 N ∧ Ints cur' .u32 0 N f' ∧ Lt (2 ^ 32) f' N ∧ sm (2 ^ 32) f' (q + i + 1) = sm (2 ^ 32) f i * 2 ^ s ∧ f' (q + i) < 2 ^ r

theorem up_step {w wr : World} {g : Nat} {e : TypeId} {cur cur' : Array Value} {n q r s i : Nat} {f f' : Nat → Nat} (hw : Wrote w wr g e cur cur' 0 (q + n + 1)) (hin : Ints cur' .u32 0 (q + n + 1) f') (lf' : Lt (2 ^ 32) f' (q + n + 1))
    (hv : sm (2 ^ 32) f' (q + i + 1) = sm (2 ^ 32) f i * 2 ^ s) (hlow : f' (q + i) < 2 ^ r) (hi : i < n) (bx : f i < 2 ^ 32) (hr : r < 32) (hs : s = 32 * q + r) :
    UpRel w ((wr.setCell ⟨g, q + i, none⟩ (.int .u32 (bits BinOp.or IntKind.u32 (f' (q + i) : Int) ((f i : Int) * 2 ^ r % 4294967296)))).setCell ⟨g, q + i + 1, none⟩ (.int .u32 ((f i : Int) / 2 ^ (32 - r)))).drew g e cur (q + n + 1) q r s f (i + 1) := by
  obtain ⟨p1, p2, p3, p4⟩ := shl_parts 32 r (f i) (f' (q + i)) (by omega) bx hlow
  have b0 := lf' (q + i) (by omega)
  have x1 : f i * 2 ^ r % 4294967296 < 4294967296 := Nat.mod_lt _ (by decide)
  have c1 : (f i : Int) * 2 ^ r % 4294967296 = ((f i * 2 ^ r % 4294967296 : Nat) : Int) := by simp
  have c2 : (f i : Int) / 2 ^ (32 - r) = ((f i / 2 ^ (32 - r) : Nat) : Int) := by simp
  have c3 : bits BinOp.or IntKind.u32 (f' (q + i) : Int) ((f i : Int) * 2 ^ r % 4294967296) = ((f' (q + i) + f i * 2 ^ r % 2 ^ 32 : Nat) : Int) := by
    rw [c1, u32_or_nat _ _ b0 x1]
    exact congrArg _ p1
  have hp : (2 : Nat) ^ r ≤ 2 ^ 32 := Nat.pow_le_pow_right (by decide) (by omega)
  rw [c3, c2]
  have h1 := (hw.set_ (q + i) (by omega) (.int .u32 ((f' (q + i) + f i * 2 ^ r % 2 ^ 32 : Nat) : Int))).set_ (q + i + 1) (by omega) (.int .u32 ((f i / 2 ^ (32 - r) : Nat) : Int))
  have h2 := (hin.set_ (q + i) (f' (q + i) + f i * 2 ^ r % 2 ^ 32) (by omega)).set_ (q + i + 1) (f i / 2 ^ (32 - r)) (by omega)
  simp only [Nat.zero_add] at h1 h2
  refine ⟨_, _, h1.drewN 1, h2, (lf'.upd p2).upd (Nat.lt_of_lt_of_le p3 hp), ?_, by rw [← Nat.add_assoc, upd_at]; exact p3⟩
  rw [hs] at hv ⊢
  exact up_val 32 hv rfl p4

set_option maxRecDepth 100000 in
set_option maxHeartbeats 1000000 in
theorem shiftUp_any (A : Option Addr) (n c s q r : Nat) (f : Nat → Nat) (w : World) (hA : Rd w .u32 A n f) (lf : Lt (2 ^ 32) f n) (hs : s = 32 * q + r) (hr : r < 32) (hq : q + n + 1 ≤ 1000000) :
    Calls Tryd.prog 41 #[.slice A n c, .int .i64 s] w fun e w' => One w w' e (sm (2 ^ 32) f n * 2 ^ s) 1000000 := by
  obtain ⟨i0, hi, hz0, hz1, hz2⟩ := info_parts info_u32
  have e1 : (s : Int) / 32 = (q : Int) := by omega
  have e2 : (s : Int) % 32 = (r : Int) := by omega
  have HS := Lib.hid hs
  clear hs
  have bs : s ≤ 100000000 := by have := HS.out; omega
  go_enter Tryd.func41, Tryd.ntmps41
  go_wp2_with (go_at_call 58; refine (width32 _).mono ?_; rintro e w' ⟨rfl, rfl⟩)
  go_quiet (fail)
  clear e1 e2
  go_wp2_with (refine wpList_make_full _ rfl _ _ 22 rfl w.heap.size 45 i0 _ 1 Tryd.underlying22 hi hz0 hz1 .i64 .i64 _ _ (q + n + 1) rfl rfl ?c1 ?c2 ?c3 ?c4 ?c5 ?_; rotate_left 5; intro w1 hown1 hg1)
  case c1 => omega
  case c2 => omega
  case c3 => rw [hz2]; omega
  case c4 => unfold maxLen; omega
  case c5 => simp
  rw [show (s : Int) % 32 = (r : Int) from by have := HS.out; omega]
  rw [made_vl] at hown1
  obtain ⟨cur, hbk, hint, _, _, _, _, hfin⟩ := own_wrote hown1
  have HF := Lib.hid hfin
  have hbw1 : Below w.heap.size w w1 := (drew_below (Below.refl w.heap.size w) _).grown (row := none) hg1 (Nat.le_refl _) (fun k hk => by cases hk)
  have hA1 := hA.below hbw1
  have hsz1 : w.heap.size + 0 ≤ w1.heap.size := hbw1.size
  have hp0 : 0 < 2 ^ r := Nat.two_pow_pos r
  clear hfin hown1
  go_loopw [26] (fun s26 wr => ∃ i : Nat, i ≤ n ∧ s26 = .int .i64 i ∧ UpRel w1 wr w.heap.size 45 cur (q + n + 1) q r s f i) (fun s26 _ => n - (intOf s26).toNat)
  case atStart => exact ⟨0, Nat.zero_le _, rfl, fun _ => 0, cur, Wrote.refl hbk 0 _, hint, fun _ _ => Nat.two_pow_pos 32, by rw [zero_sm]; simp [sm], hp0⟩
  case round =>
    obtain ⟨i, hi', rfl, f', cur', hw, hin, lf', hv, hlow⟩ := hrel
    by_cases hlt : i < n
    · obtain ⟨b, off, rfl, _, hcell⟩ := (hA1.wrote hw (fun b o e h0 => by have := hA.lt e h0; omega)) (by omega)
      have hx := hcell i hlt
      have bx := lf i hlt
      have hc1 := (Bk.cell hw.blk (0 + (q + i))).trans (hin (q + i) (by omega))
      have hc2 := (Bk.cell hw.blk (0 + (q + i + 1))).trans (hin (q + i + 1) (by omega))
      have hf1 := Bk.frozen hw.blk (0 + (q + i))
      have hf2 := Bk.frozen hw.blk (0 + (q + i + 1))
      have b1 := lf' (q + i) (by omega)
      rw [Nat.zero_add] at hc1 hc2 hf1 hf2
      have HV := Lib.hid (And.intro hv hlow)
      clear hcell hv hlow
      go_wp2_with fail
      have k1 : IntKind.i64.wrap ((q : Int) + (i : Int)) = (q : Int) + (i : Int) := IntWalk.i64_in _ (by omega)
      have k2 : 0 ≤ (q : Int) + (i : Int) := by omega
      have k3 : ((q : Int) + (i : Int)).toNat = q + i := by omega
      have k4 : (q : Int) + (i : Int) < ((q + n + 1 : Nat) : Int) := by omega
      go_region_with (fail)
      clear k1 k3
      go_wp2
      go_roundw
      case rel => exact ⟨i + 1, by omega, by go_num, up_step hw hin lf' HV.out.1 HV.out.2 hlt bx hr HS.out⟩
      case measure => simp [intOf]; omega
    · obtain rfl : i = n := by omega
      have ho := HF.out _ cur' f' hw hin
      have hbw2 := hbw1.grown hw.grown hbw1.size (fun k hk => by injection hk with hk; exact Nat.le_of_eq hk)
      obtain ⟨A2, c2, e2, hc2, hm2, hr2⟩ := Rd.of_own ho
      injection e2 with e2 _ e3
      subst e2
      subst e3
      have hle := tr_le f' (q + i + 1)
      have hN : Num _ (some ⟨w.heap.size, 0, none⟩) (tr f' (q + i + 1)) (q + i + 1) f' (sm (2 ^ 32) f i * 2 ^ s) := ⟨hle, hm2, hr2.mono hle, lf'.mono hle, tr_trm _ _, by rw [sm_tr]; exact hv⟩
      have HN := Lib.hid hN
      have HT := Lib.hid (trim_any _ _ _ f' _ hr2 hc2 hm2)
      clear hN hv hlow ho hm2
      go_wp2_with (go_at_call 30; refine HT.out.mono ?_; rintro e w' ⟨rfl, rfl⟩)
      go_ret
      exact ⟨_, _, _, f', rfl, HN.out, by omega, hbw2⟩
end Go.Proofs.YtnikoojgoiobjaaDoor.nn
