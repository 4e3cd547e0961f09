/- The walk of shiftDown at 32 bits: the quotient of a number by two to a power. -/
import Derived.Test.YtnikoojgoiobjaaDoorShiftUp
namespace Go.Proofs.YtnikoojgoiobjaaDoor.nn
open Go.RowKit

/-- what holds when i limbs are shifted -/
def DownRel (w wr : World) (g : Nat) (e : TypeId) (cur : Array Value) (N r : Nat) (F : Nat → Nat) (i : Nat) : Prop :=
  ∃ (f' : Nat → Nat) (cur' : Array Value), Wrote w wr g e cur cur' 0 N ∧ Ints cur' .u32 0 N f' ∧ Lt (2 ^ 32) f' N ∧ sm (2 ^ 32) f' i * 2 ^ r + F 0 % 2 ^ r = sm (2 ^ 32) F i + F i % 2 ^ r * (2 ^ 32) ^ i

theorem down_step {w wr : World} {g : Nat} {e : TypeId} {cur cur' : Array Value} {L r i x y : Nat} {F f' : Nat → Nat} (hw : Wrote w wr g e cur cur' 0 L) (hin : Ints cur' .u32 0 L f') (lf' : Lt (2 ^ 32) f' L)
    (hv : sm (2 ^ 32) f' i * 2 ^ r + F 0 % 2 ^ r = sm (2 ^ 32) F i + F i % 2 ^ r * (2 ^ 32) ^ i) (hi : i < L) (ex : F i = x) (ey : F (i + 1) = y) (bx : x < 2 ^ 32) (hr : r < 32) :
    DownRel w ((wr.setCell ⟨g, i, none⟩ (.int .u32 ((x : Int) / 2 ^ r))).setCell ⟨g, i, none⟩ (.int .u32 (bits BinOp.or IntKind.u32 ((x : Int) / 2 ^ r) ((y : Int) * 2 ^ (32 - r) % 4294967296)))).drew g e cur L r F (i + 1) := by
  obtain ⟨p1, p2, p3⟩ := shr_parts 32 r x y (by omega) bx
  have hr0 := Nat.two_pow_pos r
  have b0 : x / 2 ^ r < 4294967296 := Nat.lt_of_le_of_lt (Nat.div_le_self _ _) bx
  have x1 : y * 2 ^ (32 - r) % 4294967296 < 4294967296 := Nat.mod_lt _ (by decide)
  have c1 : (y : Int) * 2 ^ (32 - r) % 4294967296 = ((y * 2 ^ (32 - r) % 4294967296 : Nat) : Int) := by simp
  have c2 : (x : Int) / 2 ^ r = ((x / 2 ^ r : Nat) : Int) := by simp
  have c3 : bits BinOp.or IntKind.u32 ((x : Int) / 2 ^ r) ((y : Int) * 2 ^ (32 - r) % 4294967296) = ((x / 2 ^ r + y % 2 ^ r * 2 ^ (32 - r) : Nat) : Int) := by
    rw [c1, c2, u32_or_nat _ _ b0 x1]
    exact congrArg _ p1
  rw [c3, c2]
  have h1 := (hw.set_ i hi (.int .u32 ((x / 2 ^ r : Nat) : Int))).set_ i hi (.int .u32 ((x / 2 ^ r + y % 2 ^ r * 2 ^ (32 - r) : Nat) : Int))
  have h2 := (hin.set_ i (x / 2 ^ r) hi).set_ i (x / 2 ^ r + y % 2 ^ r * 2 ^ (32 - r)) hi
  simp only [Nat.zero_add] at h1 h2
  refine ⟨_, _, h1.drewN 1, h2, (lf'.upd b0).upd p2, ?_⟩
  subst ex
  subst ey
  exact down_val 32 (by rw [sm_upd_out _ _ _ (Nat.le_refl i)]; exact hv) p3

theorem down_last {w wr : World} {g : Nat} {e : TypeId} {cur cur' : Array Value} {L r i x : Nat} {F f' : Nat → Nat} (hw : Wrote w wr g e cur cur' 0 L) (hin : Ints cur' .u32 0 L f') (lf' : Lt (2 ^ 32) f' L)
    (hv : sm (2 ^ 32) f' i * 2 ^ r + F 0 % 2 ^ r = sm (2 ^ 32) F i + F i % 2 ^ r * (2 ^ 32) ^ i) (hi : i < L) (ex : F i = x) (ey : F (i + 1) = 0) (bx : x < 2 ^ 32) (hr : r < 32) :
    DownRel w (wr.setCell ⟨g, i, none⟩ (.int .u32 ((x : Int) / 2 ^ r))) g e cur L r F (i + 1) := by
  obtain ⟨_, _, p3⟩ := shr_parts 32 r x 0 (by omega) bx
  have b0 : x / 2 ^ r < 4294967296 := Nat.lt_of_le_of_lt (Nat.div_le_self _ _) bx
  have c2 : (x : Int) / 2 ^ r = ((x / 2 ^ r : Nat) : Int) := by simp
  rw [c2]
  have h1 := hw.set_ i hi (.int .u32 ((x / 2 ^ r : Nat) : Int))
  have h2 := hin.set_ i (x / 2 ^ r) hi
  simp only [Nat.zero_add] at h1 h2
  refine ⟨_, _, h1, h2, lf'.upd b0, ?_⟩
  subst ex
  refine down_val 32 hv ?_
  rw [ey]
  simpa using p3

set_option maxRecDepth 100000 in
set_option maxHeartbeats 1000000 in
theorem shiftDown_none (A : Option Addr) (n c s q r : Nat) (f : Nat → Nat) (w : World) (lf : Lt (2 ^ 32) f n) (hs : s = 32 * q + r) (hr : r < 32) (hq : n ≤ q) (hb : s ≤ 9223372036854775807) :
    Calls Tryd.prog 42 #[.slice A n c, .int .i64 s] w fun e w' => One w w' e (sm (2 ^ 32) f n / 2 ^ s) n := by
  have e1 : (s : Int) / 32 = (q : Int) := by omega
  have HS := Lib.hid hs
  have H0 := Lib.hid (down_none 32 (r := r) lf hq)
  clear hs
  go_enter Tryd.func42, Tryd.ntmps42
  go_wp2_with (go_at_call 58; refine (width32 _).mono ?_; rintro e w' ⟨rfl, rfl⟩)
  go_quiet (fail)
  go_wp2
  go_ret
  have h := H0.out
  rw [← HS.out] at h
  rw [h]
  exact ⟨none, 0, 0, _, rfl, num_nil _, by omega, drew_below (Below.refl _ _) _⟩

set_option maxRecDepth 100000 in
set_option maxHeartbeats 1000000 in
theorem shiftDown_some (A : Option Addr) (n c s q r : Nat) (f : Nat → Nat) (w : World) (hA : Rd w .u32 A n f) (lf : Lt (2 ^ 32) f n) (hs : s = 32 * q + r) (hr : r < 32) (hq : q < n) (hn : n ≤ c) (_hcm : c ≤ maxLen) (hreach : n * 4 ≤ 140737488355328) :
    Calls Tryd.prog 42 #[.slice A n c, .int .i64 s] w fun e w' => One w w' e (sm (2 ^ 32) f n / 2 ^ s) n := by
  obtain ⟨i0, hi, hz0, hz1, hz2⟩ := info_parts info_u32
  have e1 : (s : Int) / 32 = (q : Int) := by omega
  have HS := Lib.hid hs
  have bs : s ≤ 9223372036854775807 := by omega
  clear hs
  unfold maxLen at _hcm
  obtain ⟨L, hL⟩ : ∃ L, n = q + L := ⟨n - q, by omega⟩
  have hF : ∀ i, i < L → pad (fun j => f (q + j)) L i = f (q + i) := fun i hi => by simp [pad, hi]
  have HE := Lib.hid (fun f' => down_end 32 (r := r) (f := f) (F := pad (fun j => f (q + j)) L) (f' := f') (q := q) (L := L) (by rw [← hL]; exact lf) hF (by simp [pad]))
  have HFF := Lib.hid hF
  obtain ⟨b, off, rfl, hbl, hcell⟩ := hA (by omega)
  have hrd : Rd w .u32 (some ⟨b, off + q, none⟩) L (fun j => f (q + j)) := fun _ => ⟨b, off + q, rfl, hbl, fun i hi => by rw [Nat.add_assoc]; exact hcell (q + i) (by omega)⟩
  have hlF : Lt (2 ^ 32) (fun j => f (q + j)) L := fun i hi => lf (q + i) (by omega)
  subst hL
  have e3 : q + L - q = L := by omega
  clear hcell hA lf hF
  go_enter Tryd.func42, Tryd.ntmps42
  go_wp2_with (go_at_call 58; refine (width32 _).mono ?_; rintro e w' ⟨rfl, rfl⟩)
  go_quiet (fail)
  clear e1
  go_wp2_with (refine wpList_make_full _ rfl _ _ 22 rfl w.heap.size 45 i0 _ 1 Tryd.underlying22 hi hz0 hz1 .i64 .i64 _ _ L rfl rfl ?c1 ?c2 ?c3 ?c4 ?c5 ?_; rotate_left 5; intro w1 hown1 hg1)
  case c1 => rfl
  case c2 => rfl
  case c3 => rw [hz2]; omega
  case c4 => unfold maxLen; omega
  case c5 => simp
  rw [show (s : Int) % 32 = (r : Int) from by have := HS.out; omega]
  rw [made_vl] at hown1
  obtain ⟨cur, hbk, hint, _, _, _, _, hfin⟩ := own_wrote hown1
  have HF := Lib.hid hfin
  have hbw1 : Below w.heap.size w w1 := (drew_below (Below.refl w.heap.size w) _).grown (row := none) hg1 (Nat.le_refl _) (fun k hk => by cases hk)
  have hA1 := hrd.below hbw1
  have hne : ∀ b' o', some (⟨b, off + q, none⟩ : Addr) = some ⟨b', o', none⟩ → 0 < L → b' ≠ w.heap.size := fun b' o' e h0 => by
    injection e with e
    injection e with e
    omega
  have HN := Lib.hid hne
  clear hfin hown1 hne hrd
  go_loopw [29] (fun s29 wr => ∃ i : Nat, i ≤ L ∧ s29 = .int .i64 i ∧ DownRel w1 wr w.heap.size 45 cur L r (pad (fun j => f (q + j)) L) i) (fun s29 _ => L - (intOf s29).toNat)
  case atStart => exact ⟨0, Nat.zero_le _, rfl, fun _ => 0, cur, Wrote.refl hbk 0 _, hint, fun _ _ => Nat.two_pow_pos 32, by simp [sm]⟩
  case round =>
    obtain ⟨i, hi', rfl, f', cur', hw, hin, lf', hv⟩ := hrel
    by_cases hlt : i < L
    · obtain ⟨b', off', e, _, hcell⟩ := (hA1.wrote hw HN.out) (by omega)
      injection e with e
      injection e with e4 e5
      subst e4
      subst e5
      have hx := hcell i hlt
      have bx := hlF i hlt
      have hc1 := (Bk.cell hw.blk (0 + i)).trans (hin i (by omega))
      have hf1 := Bk.frozen hw.blk (0 + i)
      rw [Nat.zero_add] at hc1 hf1
      have HV := Lib.hid hv
      by_cases hl2 : i + 1 < L
      · have hy := hcell (i + 1) hl2
        have by_ := hlF (i + 1) hl2
        clear hcell hv
        go_wp2_with fail
        have k1 : IntKind.i64.wrap ((i : Int) + 1) = (i : Int) + 1 := IntWalk.i64_in _ (by omega)
        have k2 : 0 ≤ (i : Int) + 1 := by omega
        have k3 : ((i : Int) + 1).toNat = i + 1 := by omega
        have k4 : (i : Int) + 1 < (L : Int) := by omega
        have k5 : IntKind.i64.wrap (32 - (r : Int)) = 32 - (r : Int) := IntWalk.i64_in _ (by omega)
        have k6 : 0 ≤ 32 - (r : Int) := by omega
        go_region_with (fail)
        clear k1 k3 k5
        all_goals
          go_wp2
          go_roundw
          case rel => exact ⟨i + 1, by omega, by go_num, down_step hw hin lf' HV.out hlt (HFF.out i hlt) (HFF.out (i + 1) hl2) bx hr⟩
          case measure => simp [intOf]; omega
      · clear hcell hv
        go_wp2
        go_roundw
        case rel => exact ⟨i + 1, by omega, by go_num, down_last hw hin lf' HV.out hlt (HFF.out i hlt) (by simp only [pad]; rw [if_neg (by omega)]) bx hr⟩
        case measure => simp [intOf]; omega
    · obtain rfl : i = L := by omega
      have ho := HF.out _ cur' f' hw hin
      have hbw2 := hbw1.grown hw.grown hbw1.size (fun k hk => by injection hk with hk; exact Nat.le_of_eq hk)
      obtain ⟨A2, c2, e2, hc2, hm2, hr2⟩ := Rd.of_own ho
      injection e2 with e2 _ e6
      subst e2
      subst e6
      have hle := tr_le f' i
      have he := HE.out f' hv
      rw [← HS.out] at he
      have hN : Num _ (some ⟨w.heap.size, 0, none⟩) (tr f' i) i f' (sm (2 ^ 32) f (q + i) / 2 ^ s) := ⟨hle, hm2, hr2.mono hle, lf'.mono hle, tr_trm _ _, by rw [sm_tr]; exact he⟩
      have HN2 := Lib.hid hN
      have HT := Lib.hid (trim_any _ _ _ f' _ hr2 hc2 hm2)
      clear hN hv ho hm2 he
      go_wp2_with (go_at_call 30; refine HT.out.mono ?_; rintro e w' ⟨rfl, rfl⟩)
      go_ret
      exact ⟨_, _, _, f', rfl, HN2.out, by omega, hbw2⟩
end Go.Proofs.YtnikoojgoiobjaaDoor.nn
