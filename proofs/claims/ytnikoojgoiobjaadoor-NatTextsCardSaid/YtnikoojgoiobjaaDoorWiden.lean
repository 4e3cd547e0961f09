/- The walk of widen: two limbs of 32 bits go into each of 64. -/
import Derived.Test.YtnikoojgoiobjaaDoorAddTimes
import Derived.Test.YtnikoojgoiobjaaDoorShiftUp
namespace Go.Proofs.YtnikoojgoiobjaaDoor.nn
open Go.RowKit

theorem info_u64 : (Tryd.prog.info? 48).map (fun i => (i.zero, i.size, i.bytes)) = some (some (.int .u64 0), 1, 8) := by kernel_rfl

theorem made_vl64 (n : Nat) : (madeCells (Value.int .u64 0).cells (n * 1)).toList = vl .u64 (fun _ => 0) n := by
  rw [Nat.mul_one]
  show (madeCells #[Value.int .u64 0] n).toList = _
  rw [toList_madeCells_one]
  simp only [vl]
  apply List.ext_getElem (by simp)
  intro i h1 h2
  simp

theorem w64_pos : 0 < W64 := by decide
theorem w64_pow (j : Nat) : W64 ^ j = (2 ^ 32) ^ (2 * j) := by
  rw [Nat.pow_mul (2 ^ 32) 2 j]
  rfl

/-- what holds when i limbs are in -/
def WidRel (w wr : World) (g : Nat) (e : TypeId) (cur : Array Value) (N : Nat) (f : Nat → Nat) (i : Nat) : Prop :=
  ∃ (f' : Nat → Nat) (cur' : Array Value), Wrote w wr g e cur cur' 0 N ∧ Ints cur' .u64 0 N f' ∧ Lt W64 f' N ∧ sm W64 f' N = sm (2 ^ 32) f i ∧ (∀ j, (i + 1) / 2 ≤ j → j < N → f' j = 0) ∧ (i % 2 = 1 → f' (i / 2) < 2 ^ 32)

theorem wid_even {w wr : World} {g : Nat} {e : TypeId} {cur cur' : Array Value} {N i j : Nat} {f f' : Nat → Nat} (hw : Wrote w wr g e cur cur' 0 N) (hin : Ints cur' .u64 0 N f') (lf' : Lt W64 f' N)
    (hv : sm W64 f' N = sm (2 ^ 32) f i) (hz : ∀ t, (i + 1) / 2 ≤ t → t < N → f' t = 0) (hi : i = 2 * j) (hj : j < N) (bx : f i < 2 ^ 32) :
    WidRel w (wr.setCell ⟨g, j, none⟩ (.int .u64 (f i : Int))).drew g e cur N f (i + 1) := by
  have h1 := hw.set_ j hj (.int .u64 (f i : Int))
  have h2 := hin.set_ j (f i) hj
  simp only [Nat.zero_add] at h1 h2
  refine ⟨_, _, h1.drewN 1, h2, lf'.upd (Nat.lt_trans bx (by decide)), ?_, fun t ht hN => ?_, fun _ => ?_⟩
  · have h3 := sm_upd W64 f' (f i) hj
    rw [hz j (by omega) hj] at h3
    have er : sm (2 ^ 32) f (i + 1) = sm (2 ^ 32) f i + f i * (2 ^ 32) ^ i := rfl
    have e2 : W64 ^ j = (2 ^ 32) ^ i := by rw [w64_pow, hi]
    rw [e2] at h3
    rw [er]
    omega
  · rw [upd_ne f' (by omega)]; exact hz t (by omega) hN
  · have : (i + 1) / 2 = j := by omega
    rw [this, upd_at]; exact bx

theorem wid_odd {w wr : World} {g : Nat} {e : TypeId} {cur cur' : Array Value} {N i j y : Nat} {f f' : Nat → Nat} (hw : Wrote w wr g e cur cur' 0 N) (hin : Ints cur' .u64 0 N f') (lf' : Lt W64 f' N)
    (hv : sm W64 f' N = sm (2 ^ 32) f i) (hz : ∀ t, (i + 1) / 2 ≤ t → t < N → f' t = 0) (hi : i = 2 * j + 1) (hj : j < N) (bx : f i < 2 ^ 32) (hy : f' j = y) (by_ : y < 2 ^ 32) :
    WidRel w (wr.setCell ⟨g, j, none⟩ (.int .u64 ((y + f i * 4294967296 : Nat) : Int))).drew g e cur N f (i + 1) := by
  have h1 := hw.set_ j hj (.int .u64 ((y + f i * 4294967296 : Nat) : Int))
  have h2 := hin.set_ j (y + f i * 4294967296) hj
  simp only [Nat.zero_add] at h1 h2
  refine ⟨_, _, h1.drewN 1, h2, lf'.upd (by simp only [W64]; omega), ?_, fun t ht hN => ?_, fun h => absurd h (by omega)⟩
  · have h3 := sm_upd W64 f' (y + f i * 4294967296) hj
    rw [hy, Nat.add_mul] at h3
    have er : sm (2 ^ 32) f (i + 1) = sm (2 ^ 32) f i + f i * (2 ^ 32) ^ i := rfl
    have e2 : f i * 4294967296 * W64 ^ j = f i * (2 ^ 32) ^ i := by
      rw [w64_pow, hi, Nat.pow_succ (2 ^ 32) (2 * j), Nat.mul_assoc, Nat.mul_comm ((2 ^ 32) ^ (2 * j))]
    rw [e2] at h3
    rw [er]
    omega
  · rw [upd_ne f' (by omega)]; exact hz t (by omega) hN

theorem or_zero64 {x : Nat} (h : x < 2 ^ 32) : bits BinOp.or IntKind.u64 0 (x : Int) = (x : Int) := by
  have := u64_or_nat 0 x (by decide) (Nat.lt_trans h (by decide))
  rw [Nat.zero_or] at this
  exact this
theorem or_high64 {y x : Nat} (hy : y < 2 ^ 32) (hx : x < 2 ^ 32) : bits BinOp.or IntKind.u64 (y : Int) ((x : Int) * 4294967296) = ((y + x * 4294967296 : Nat) : Int) := by
  have e : (x : Int) * 4294967296 = ((x * 4294967296 : Nat) : Int) := by omega
  rw [e, u64_or_nat y (x * 4294967296) (Nat.lt_trans hy (by decide)) (by omega), Nat.or_comm, nat_join 32 _ _ (Nat.mul_mod_left _ _) hy, Nat.add_comm]

/-- wide limbs: a slice of them that reads as R, in a block of its own -/
def Wide (w w' : World) (e : Ending) (R N : Nat) : Prop :=
  ∃ g cur f, e = .returned (.slice (some ⟨g, 0, none⟩) N N) ∧ w.heap.size ≤ g ∧ Bk w' g 48 cur ∧ cur.size = N ∧ Ints cur .u64 0 N f ∧ Lt W64 f N ∧ sm W64 f N = R ∧ Below w.heap.size w w'

set_option maxRecDepth 100000 in
set_option maxHeartbeats 1000000 in
theorem widen_any (A : Option Addr) (n c : Nat) (f : Nat → Nat) (w : World) (hA : Rd w .u32 A n f) (lf : Lt (2 ^ 32) f n) (hn : n ≤ 1000000) :
    Calls Tryd.prog 29 #[.slice A n c] w fun e w' => Wide w w' e (sm (2 ^ 32) f n) ((n + 1) / 2) := by
  obtain ⟨i0, hi, hz0, hz1, hz2⟩ := info_parts info_u64
  obtain ⟨N, hN⟩ : ∃ N, (n + 1) / 2 = N := ⟨_, rfl⟩
  have e1 : ((n : Int) + 1) / 2 = (N : Int) := by omega
  rw [hN]
  have HN := Lib.hid hN
  have hNn : N ≤ 1000000 := by omega
  clear hN
  go_enter Tryd.func29, Tryd.ntmps29
  go_wp2_with (refine wpList_make_full _ rfl _ _ 47 rfl w.heap.size 48 i0 _ 1 Tryd.underlying47 hi hz0 hz1 .i64 .i64 _ _ N rfl rfl ?c1 ?c2 ?c3 ?c4 ?c5 ?_; rotate_left 5; intro w1 hown1 hg1)
  case c1 => exact e1
  case c2 => exact e1
  case c3 => rw [hz2]; omega
  case c4 => unfold maxLen; omega
  case c5 => omega
  clear e1
  rw [made_vl64] at hown1
  obtain ⟨cur, hbk, hint, _, _, _, hcs, _⟩ := own_wrote hown1
  have hbw1 : Below w.heap.size w w1 := (Below.refl _ _).grown (row := none) hg1 (Nat.le_refl _) (fun k hk => by cases hk)
  have hA1 := hA.below hbw1
  have hne : Hid (∀ b o, A = some ⟨b, o, none⟩ → 0 < n → b ≠ w.heap.size) := Lib.hid fun b o e h0 => by have := hA.lt e h0; omega
  have HCS := Lib.hid hcs
  clear hown1 hcs hg1
  go_loopw [13] (fun s wr => ∃ i : Nat, i ≤ n ∧ s = .int .i64 i ∧ WidRel w1 wr w.heap.size 48 cur N f i) (fun s _ => n - (intOf s).toNat)
  case atStart => exact ⟨0, Nat.zero_le _, rfl, fun _ => 0, cur, Wrote.refl hbk 0 _, hint, fun _ _ => w64_pos, by rw [zero_sm]; rfl, fun _ _ _ => rfl, fun h => absurd h (by omega)⟩
  case round =>
    obtain ⟨i, hi', rfl, f', cur', hw, hin, lf', hv, hz, hodd⟩ := hrel
    by_cases hlt : i < n
    · obtain ⟨b, off, rfl, _, hcell⟩ := (hA1.wrote hw hne.out) (by omega)
      have hx := hcell i hlt
      have bx := lf i hlt
      have hNN := HN.out
      obtain ⟨j, hj⟩ : ∃ j, i / 2 = j := ⟨_, rfl⟩
      have hjN : j < N := by omega
      have hc1 := (Bk.cell hw.blk (0 + j)).trans (hin j hjN)
      have hf1 := Bk.frozen hw.blk (0 + j)
      rw [Nat.zero_add] at hc1 hf1
      have HV := Lib.hid hv
      have HZ := Lib.hid hz
      have hj0 : (i : Int) / 2 = (j : Int) := by omega
      have hjl : (j : Int) < (N : Int) := by omega
      have t1 : Int.tdiv (i : Int) 2 = (j : Int) := by rw [Int.tdiv_eq_ediv_of_nonneg (by omega)]; omega
      have t2 : IntKind.i64.wrap (j : Int) = (j : Int) := IntWalk.i64_in _ (by omega)
      have t4 : IntKind.i64.wrap 0 = 0 := IntWalk.i64_in _ (by omega)
      have t5 : IntKind.i64.wrap 32 = 32 := IntWalk.i64_in _ (by omega)
      have t6 : IntKind.u64.wrap (f i : Int) = (f i : Int) := by
        have : f i < 4294967296 := bx
        simp [IntKind.wrap, IntKind.bits, IntKind.signed]
        omega
      rcases (by omega : i % 2 = 0 ∨ i % 2 = 1) with hp | hp
      · have hy : f' j = 0 := hz j (by omega) hjN
        rw [hy] at hc1
        have t3 : Int.tmod (i : Int) 2 = 0 := by rw [Int.tmod_eq_emod_of_nonneg (by omega)]; omega
        have HI := Lib.hid (show i = 2 * j by omega)
        clear hcell hv hz hj hNN hy hp hodd
        go_wp2_with fail
        go_region_with (fail)
        clear t1 t2 t3 t4 t5 t6
        go_wp2
        go_roundw
        case rel => exact ⟨i + 1, by omega, by go_num, by rw [or_zero64 bx]; exact wid_even hw hin lf' HV.out HZ.out HI.out hjN bx⟩
        case measure => simp [intOf]; omega
      · have hy := hodd hp
        rw [hj] at hy
        have t3 : Int.tmod (i : Int) 2 = 1 := by rw [Int.tmod_eq_emod_of_nonneg (by omega)]; omega
        have HI := Lib.hid (show i = 2 * j + 1 by omega)
        clear hcell hv hz hj hNN hp hodd
        go_wp2_with fail
        go_region_with (fail)
        clear t1 t2 t3 t4 t5 t6
        go_wp2
        go_roundw
        case rel => exact ⟨i + 1, by omega, by go_num, by rw [or_high64 hy bx]; exact wid_odd hw hin lf' HV.out HZ.out HI.out hjN bx rfl hy⟩
        case measure => simp [intOf]; omega
    · obtain rfl : i = n := by omega
      have hbw2 := hbw1.grown hw.grown hbw1.size (fun k hk => by injection hk with hk; exact Nat.le_of_eq hk)
      have HB := Lib.hid hw.blk
      have hcz : Hid (cur'.size = N) := Lib.hid (hw.size.trans HCS.out)
      go_wp2
      go_ret
      exact ⟨_, cur', f', rfl, Nat.le_refl _, HB.out, hcz.out, hin, lf', hv, hbw2⟩
end Go.Proofs.YtnikoojgoiobjaaDoor.nn
