/- Joined texts, what is wanted of them: DivideBy, DivideA, Guess, Sub32, RefSub, Subtract, SubTimes, AddInto64, TakeOut, ShiftUp64, ShiftDown64, DivideB, Narrow, Product, Sub, Mul, Shifts, Div, TimesPlus, Bt, FromDigits. -/
import Derived.Test.YtljbnnpmnoejeaaGreatDoorProg
import Derived.WalkKit
import Derived.Lib.Hide
import Derived.Laws.BitsAllLaws
import Derived.Laws.BitsLemmas
import Derived.Deep.RegionWith
import Derived.Deep.DeepCutAuto
import Derived.Shelf.Spec.BitsCarry
import Derived.Laws.Bits64
import Derived.Laws.CopyOwn
import Derived.Lib.MinMax
import Derived.Test.YtljbnnpmnoejeaaGreatDoorJa
namespace Go.Proofs.YtljbnnpmnoejeaaGreatDoor.nn
open Go.RowKit

/-- what holds when the limbs from t on are divided, with the rest r -/
def DivRel (w wr : World) (g : Nat) (e : TypeId) (cur : Array Value) (off n : Nat) (f : Nat → Nat) (d : Nat) (f' : Nat → Nat) (cur' : Array Value) (r t : Nat) : Prop :=
  Wrote w wr g e cur cur' off n ∧ Ints cur' .u64 off n f' ∧ Lt W64 f' n ∧ r < d ∧ sm W64 f n + d * sm W64 f' t = d * sm W64 f' n + r * W64 ^ t + sm W64 f' t

theorem DivRel.step {w wr : World} {g : Nat} {e : TypeId} {cur : Array Value} {off n : Nat} {f : Nat → Nat} {d : Nat} {f' : Nat → Nat} {cur' : Array Value} {r s q r' : Nat} (H : DivRel w wr g e cur off n f d f' cur' r (s + 1)) (hs : s < n) (j : Nat)
    (hq : d * q + r' = r * W64 + f' s) (hqq : q < W64) (hr : r' < d) :
    DivRel w ((wr.drewN j).setCell ⟨g, off + s, none⟩ (.int .u64 (q : Int))) g e cur off n f d (upd f' s q) (cur'.setIfInBounds (off + s) (.int .u64 (q : Int))) r' s := by
  obtain ⟨h1, h2, h3, _, h5⟩ := H
  refine ⟨(h1.drewN j).set_ s hs _, h2.set_ s _ hs, h3.upd hqq, hr, ?_⟩
  have a1 := sm_upd W64 f' q hs
  have a2 : sm W64 f' (s + 1) = sm W64 f' s + f' s * W64 ^ s := rfl
  rw [sm_upd_out W64 f' q (Nat.le_refl s)]
  rw [a2, Nat.pow_succ W64 s, Nat.mul_add d] at h5
  have b1 := congrArg (d * ·) a1
  simp only [Nat.mul_add] at b1
  have b2 := congrArg (· * W64 ^ s) hq
  simp only [Nat.add_mul] at b2
  have b3 : d * (q * W64 ^ s) = d * q * W64 ^ s := by rw [Nat.mul_assoc]
  have b4 : r * (W64 ^ s * W64) = r * W64 * W64 ^ s := by rw [Nat.mul_comm (W64 ^ s), ← Nat.mul_assoc]
  rw [b3] at b1
  rw [b4] at h5
  omega

/-- behind divideBy: the rest, and the quotient in place -/
def DivEnd (w w' : World) (g : Nat) (e : TypeId) (cur : Array Value) (off n : Nat) (f : Nat → Nat) (d : Nat) (e' : Ending) : Prop :=
  ∃ (r : Nat) (f' : Nat → Nat) (cur' : Array Value), e' = .returned (.int .u64 (r : Int)) ∧ r < d ∧ Wrote w w' g e cur cur' off n ∧ Ints cur' .u64 off n f' ∧ Lt W64 f' n ∧ sm W64 f n = d * sm W64 f' n + r

theorem quo_lt {r x d : Nat} (hr : r < d) (hx : x < W64) : (r * W64 + x) / d < W64 := by
  rw [Nat.div_lt_iff_lt_mul (by omega), Nat.mul_comm W64]
  have h : (r + 1) * W64 ≤ d * W64 := Nat.mul_le_mul_right _ hr
  rw [Nat.add_mul] at h
  omega

set_option maxRecDepth 100000 in
set_option maxHeartbeats 1000000 in
theorem divideBy_any (g off n c : Nat) (e : TypeId) (cur : Array Value) (f : Nat → Nat) (d : Nat) (w : World)
    (hb : Bk w g e cur) (hi : Ints cur .u64 off n f) (lf : Lt W64 f n) (h0 : 0 < d) (hd : d < W64) (hn : n ≤ maxLen) :
    Calls Tryz.prog 134 #[.slice (some ⟨g, off, none⟩) n c, .int .u64 d] w fun e' w' => DivEnd w w' g e cur off n f d e' := by
  unfold maxLen at hn
  have LF := Lib.hid lf
  have HD := Lib.hid hd
  clear lf hd
  go_enter Tryz.func134, Tryz.ntmps134
  go_wp2
  go_loopw [5, 6] (fun s5 s6 wr => ∃ (r t : Nat) (f' : Nat → Nat) (cur' : Array Value), t ≤ n ∧ s5 = .int .u64 (r : Int) ∧ s6 = .int .i64 ((t : Int) - 1) ∧ Hid (DivRel w wr g e cur off n f d f' cur' r t)) (fun _ s6 _ => (intOf s6 + 1).toNat)
  case atStart => exact ⟨0, n, f, cur, Nat.le_refl _, rfl, rfl, Lib.hid ⟨Wrote.refl hb off n, hi, LF.out, h0, by omega⟩⟩
  case round =>
    obtain ⟨r, t, f', cur', ht, rfl, rfl, hh⟩ := hrel
    by_cases h1 : 0 < t
    · obtain ⟨s, rfl⟩ : ∃ s, t = s + 1 := ⟨t - 1, by omega⟩
      have hx := (Bk.cell hh.out.1.blk (off + s)).trans (hh.out.2.1 s (by omega))
      have hxf := Bk.frozen hh.out.1.blk (off + s)
      have bx := hh.out.2.2.1 s (by omega)
      have br := hh.out.2.2.2.1
      have HC : ∀ W, Calls Tryz.prog 173 #[.int .u64 (r : Nat), .int .u64 (f' s : Nat), .int .u64 d] W fun e w' => e = .returned (.tuple #[.int .u64 (((r * W64 + f' s) / d : Nat) : Int), .int .u64 (((r * W64 + f' s) % d : Nat) : Int)]) ∧ ∃ j, w' = W.drewN j := fun W =>
        div64_any r (f' s) d W bx HD.out br
      have e1 := Nat.div_add_mod (r * W64 + f' s) d
      have e2 := quo_lt br bx
      have e3 := Nat.mod_lt (r * W64 + f' s) h0
      obtain ⟨q, hq⟩ : ∃ q, (r * W64 + f' s) / d = q := ⟨_, rfl⟩
      obtain ⟨r', hr'⟩ : ∃ r', (r * W64 + f' s) % d = r' := ⟨_, rfl⟩
      simp only [hq, hr'] at HC e1 e2 e3
      have HCC := Lib.hid HC
      have E1 := Lib.hid e1
      have E2 := Lib.hid e2
      have E3 := Lib.hid e3
      have hs0 : (((s + 1 : Nat) : Int) - 1) = (s : Int) := by omega
      clear HC e1 e2 e3 hq hr' bx br
      rw [hs0]
      clear hs0
      go_wp2_with (go_at_call 173; refine (HCC.out _).mono ?_; rintro e' w' ⟨rfl, j, rfl⟩)
      go_roundw
      case rel => exact ⟨r', s, _, _, by omega, rfl, by go_num, Lib.hid (hh.out.step (by omega) j E1.out E2.out E3.out)⟩
      case measure => simp [intOf]
    · obtain rfl : t = 0 := by omega
      go_wp2
      go_ret
      exact ⟨r, f', cur', rfl, hh.out.2.2.2.1, hh.out.1, hh.out.2.1, hh.out.2.2.1, by have := hh.out.2.2.2.2; simp [sm] at this; omega⟩
end Go.Proofs.YtljbnnpmnoejeaaGreatDoor.nn
namespace Go.Proofs.YtljbnnpmnoejeaaGreatDoor.nn
open Go.RowKit

/-- two slices of wide limbs: quotient and rest -/
def Two (w w' : World) (e : Ending) (Q R : Nat) : Prop :=
  ∃ A1 n1 c1 f1 A2 n2 c2 f2, e = .returned (.tuple #[.slice A1 n1 c1, .slice A2 n2 c2]) ∧ Rd w' .u64 A1 n1 f1 ∧ Rd w' .u64 A2 n2 f2 ∧ Lt W64 f1 n1 ∧ Lt W64 f2 n2 ∧
    sm W64 f1 n1 = Q ∧ sm W64 f2 n2 = R ∧ n1 ≤ 400001 ∧ n2 ≤ 400001 ∧ Below w.heap.size w w'

theorem W64_two : W64 = 2 ^ 64 := rfl

theorem compare64_w (A B : Option Addr) (n m c d : Nat) (f g : Nat → Nat) (w : World) (hA : Rd w .u64 A n f) (hB : Rd w .u64 B m g)
    (lf : Lt W64 f n) (lg : Lt W64 g m) (tf : Trm f n) (tg : Trm g m) (hn : n ≤ maxLen) (hm : m ≤ maxLen) :
    Calls Tryz.prog 205 #[.slice A n c, .slice B m d] w fun e w' => e = .returned (.int .i64 (cm (sm W64 f n) (sm W64 g m))) ∧ ∃ j, w' = w.drewN j := by
  rw [W64_two] at *
  exact compare64_any A B n m c d f g w hA hB lf lg tf tg hn hm

set_option maxHeartbeats 1000000 in
theorem divide_less (A B : Option Addr) (n m c d : Nat) (f h : Nat → Nat) (w : World) (hA : Rd w .u64 A n f) (hB : Rd w .u64 B m h)
    (lf : Lt W64 f n) (lh : Lt W64 h m) (tf : Trm f n) (th : Trm h m) (hn : n ≤ 400000) (hm : m ≤ 400000) (hlt : sm W64 f n < sm W64 h m) :
    Calls Tryz.prog 198 #[.slice A n c, .slice B m d] w fun e w' => Two w w' e (sm W64 f n / sm W64 h m) (sm W64 f n % sm W64 h m) := by
  have hc := compare64_w A B n m c d f h w hA hB lf lh tf th (by unfold maxLen; omega) (by unfold maxLen; omega)
  rw [cm_lt hlt] at hc
  have HC := Lib.hid hc
  have LF := Lib.hid lf
  have HV : Hid (sm W64 f n / sm W64 h m = 0 ∧ sm W64 f n % sm W64 h m = sm W64 f n) := Lib.hid ⟨Nat.div_eq_of_lt hlt, Nat.mod_eq_of_lt hlt⟩
  clear hc lf lh tf th hlt hB
  go_enter Tryz.func198, Tryz.ntmps198
  go_wp2_with fail
  refine HC.out.mono ?_
  rintro e w' ⟨rfl, j, rfl⟩
  go_wp2_with fail
  refine (clone64_any A n c f _ (hA.drewN j) (by omega)).mono ?_
  rintro e w2 ⟨v2, rfl, hown2, hb2⟩
  have hb2' : Below w.heap.size w w2 := (drew_below (Below.refl w.heap.size w) j).trans hb2
  obtain ⟨A2, c2, rfl, _, _, hr2⟩ := Rd.of_own hown2
  clear hown2 hb2
  go_wp2
  go_ret2
  rw [HV.out.1, HV.out.2]
  exact ⟨none, 0, 0, fun _ => 0, A2, n, c2, f, rfl, Rd.none_, hr2, fun _ h => absurd h (by omega), LF.out, rfl, rfl, by omega, by omega, hb2'⟩

set_option maxHeartbeats 1000000 in
theorem divide_one (A B : Option Addr) (n c d : Nat) (f h : Nat → Nat) (w : World) (hA : Rd w .u64 A n f) (hB : Rd w .u64 B 1 h)
    (lf : Lt W64 f n) (lh : Lt W64 h 1) (tf : Trm f n) (th : Trm h 1) (hn : n ≤ 400000) (hge : sm W64 h 1 ≤ sm W64 f n) :
    Calls Tryz.prog 198 #[.slice A n c, .slice B 1 d] w fun e w' => Two w w' e (sm W64 f n / sm W64 h 1) (sm W64 f n % sm W64 h 1) := by
  have hc := compare64_w A B n 1 c d f h w hA hB lf lh tf th (by unfold maxLen; omega) (by unfold maxLen; omega)
  have hz : 0 ≤ cm (sm W64 f n) (sm W64 h 1) := by
    unfold cm; rw [if_neg (by omega)]; split <;> omega
  obtain ⟨z, ez⟩ : ∃ z, cm (sm W64 f n) (sm W64 h 1) = z := ⟨_, rfl⟩
  rw [ez] at hc hz
  have h1 : sm W64 h 1 = h 0 := by simp [sm]
  have hy0 : 0 < h 0 := by
    rcases th with th | th
    · omega
    · simp at th; omega
  obtain ⟨b, off, rfl, hbl, hcell⟩ := hB (by omega)
  have hx := hcell 0 (by omega)
  rw [Nat.add_zero] at hx
  have hyl := lh 0 (by omega)
  rw [h1] at hge ⊢
  obtain ⟨y, hy⟩ : ∃ y, h 0 = y := ⟨_, rfl⟩
  rw [hy] at hx hy0 hyl hge ⊢
  have hn0 : Hid (n ≠ 0) := Lib.hid (by rintro rfl; simp [sm] at hge; omega)
  have HC := Lib.hid hc
  have LF := Lib.hid lf
  have HYL := Lib.hid hyl
  clear hc lf lh tf th hge hcell hB ez h1 hy hyl
  go_enter Tryz.func198, Tryz.ntmps198
  go_wp2_with fail
  refine HC.out.mono ?_
  rintro e w' ⟨rfl, j, rfl⟩
  go_wp2_with fail
  refine (clone64_any A n c f _ (hA.drewN j) (by omega)).mono ?_
  rintro e w2 ⟨v2, rfl, hown2, hb2⟩
  have hb2' : Below w.heap.size w w2 := (drew_below (Below.refl w.heap.size w) j).trans hb2
  have hx2 : w2.cell? ⟨b, off, none⟩ = some (.int .u64 (y : Int)) := (hb2'.cell (p := ⟨b, off, none⟩) hbl).trans hx
  rcases hown2.2 with ⟨rfl, hp0⟩ | ⟨g0, cap, _, rfl, hg0, _⟩
  · exact absurd hp0 hn0.out
  · obtain ⟨cur, hbk, hint, hbg, hcap, hcm, _, _⟩ := own_wrote hown2
    have hne : w.heap.size ≤ g0 := hg0
    have HB2 := Lib.hid hb2'
    clear hown2 hb2 hb2' hx hg0 hbg
    go_wp2_with fail
    refine (divideBy_any g0 0 n cap _ cur f y w2 hbk hint LF.out hy0 HYL.out (by unfold maxLen; omega)).mono ?_
    rintro e' w3 ⟨r, f3, cur3, rfl, hr, hw3, hi3, l3, v3⟩
    have hb3 : Below w.heap.size w w3 := HB2.out.grown hw3.grown HB2.out.size (fun k hk => by injection hk with hk; omega)
    have hq : Hid (sm W64 f3 n = sm W64 f n / y ∧ r = sm W64 f n % y) := Lib.hid (by
      rw [v3, Nat.mul_comm, Nat.mul_add_mod_of_lt' hr hy0, Nat.mul_add_div' hr hy0]
      exact ⟨rfl, rfl⟩)
    have HRL : Hid (r < W64) := Lib.hid (Nat.lt_trans hr HYL.out)
    have hr3 := hi3.rd hw3.blk
    have L3 := Lib.hid l3
    clear v3 hi3 l3 hw3 hbk hint hr hx2
    go_wp2
    go_ret2
    rw [← hq.out.1, ← hq.out.2]
    exact ⟨_, n, cap, f3, _, 1, 1, fun _ => r, rfl, hr3.alloc _, rd_one _ _ _ _, L3.out, fun _ _ => HRL.out, rfl, by simp [sm], by omega, by omega, hb3.alloc (by have := hb3.size; omega) _⟩
end Go.Proofs.YtljbnnpmnoejeaaGreatDoor.nn
namespace Go.Proofs.YtljbnnpmnoejeaaGreatDoor.nn
open Go.RowKit

theorem quiet_add {P : Program} {f : FuncId} {args : Array Value} {w : World} {a n : Nat} {v : Value}
    (h : Calls P f args (w.drewN (a + n)) fun e w' => e = .returned v ∧ ∃ m, w' = (w.drewN (a + n)).drewN m) :
    Calls P f args (w.drewN (a + n)) fun e w'' => e = .returned v ∧ ∃ m, w'' = w.drewN (a + m) :=
  h.mono fun _ _ ⟨he, m, hm⟩ => ⟨he, n + m, by rw [hm, World.drewN_drewN, Nat.add_assoc]⟩

/-- what holds at the loop's head -/
structure GsRel (U d y1 y0 q r hi lo : Nat) : Prop where
  gs : Guess W64 U d y1 y0 q r
  mul : q * y0 = hi * W64 + lo
  qlt : q < W64
  rlt : r < W64
  llt : lo < W64

theorem GsRel.more {U d y1 y0 q r hi lo : Nat} (H : GsRel U d y1 y0 q r hi lo) (hc : r < hi ∨ (hi = r ∧ d < lo)) (hd : d < W64) : 0 < q ∧ Guess W64 U d y1 y0 (q - 1) (r + y1) := by
  refine H.gs.next ?_
  rw [H.mul]
  rcases hc with hc | ⟨hc, hl⟩
  · have : (r + 1) * W64 ≤ hi * W64 := Nat.mul_le_mul_right _ hc
    rw [Nat.add_mul] at this
    omega
  · subst hc; omega

theorem GsRel.ends {U d y1 y0 q r hi lo : Nat} (H : GsRel U d y1 y0 q r hi lo) (hc : hi < r ∨ (hi = r ∧ lo ≤ d)) : q = (U * W64 + d) / (y1 * W64 + y0) := by
  refine H.gs.fits ?_
  rw [H.mul]
  rcases hc with hc | ⟨hc, hl⟩
  · have : (hi + 1) * W64 ≤ r * W64 := Nat.mul_le_mul_right _ hc
    rw [Nat.add_mul] at this
    have := H.llt
    omega
  · subst hc; omega

theorem GsRel.mk_ {U d y1 y0 q r : Nat} (h : Guess W64 U d y1 y0 q r) (hq : q < W64) (hr : r < W64) : GsRel U d y1 y0 q r (q * y0 / W64) (q * y0 % W64) :=
  ⟨h, by rw [Nat.mul_comm (q * y0 / W64)]; exact (Nat.div_add_mod _ _).symm, hq, hr, Nat.mod_lt _ (by decide)⟩

theorem quo_lt' {r x d : Nat} (hr : r < d) (hx : x < W64) : (r * W64 + x) / d < W64 := by
  rw [Nat.div_lt_iff_lt_mul (by omega), Nat.mul_comm W64]
  have h : (r + 1) * W64 ≤ d * W64 := Nat.mul_le_mul_right _ hr
  rw [Nat.add_mul] at h
  omega

def GsIs (e : Ending) (w w' : World) (t : Nat) : Prop := e = .returned (.int .u64 (t : Int)) ∧ ∃ j, w' = w.drewN j

set_option maxRecDepth 100000 in
set_option maxHeartbeats 2000000 in
theorem guess_any (A B : Option Addr) (n c d : Nat) (f h : Nat → Nat) (w : World) (hA : Rd w .u64 A (n + 1) f) (hB : Rd w .u64 B n h) (lf : Lt W64 f (n + 1)) (lh : Lt W64 h n) (hn : 2 ≤ n) (hm : n + 1 ≤ maxLen) (h0 : 0 < h (n - 1)) :
    Calls Tryz.prog 213 #[.slice A (n + 1 : Nat) c, .slice B n d] w fun e w' => GsIs e w w' (gs W64 (f n) (f (n - 1)) (f (n - 2)) (h (n - 1)) (h (n - 2))) := by
  unfold maxLen at hm
  obtain ⟨ba, oa, rfl, _, hca⟩ := hA (by omega)
  obtain ⟨bb, ob, rfl, _, hcb⟩ := hB (by omega)
  have x2 := hca n (by omega)
  have x1 := hca (n - 1) (by omega)
  have x0 := hca (n - 2) (by omega)
  have y1 := hcb (n - 1) (by omega)
  have y0 := hcb (n - 2) (by omega)
  have b2 := lf n (by omega)
  have b1 := lf (n - 1) (by omega)
  have b0 := lf (n - 2) (by omega)
  have t1 := lh (n - 1) (by omega)
  have t0 := lh (n - 2) (by omega)
  obtain ⟨X2, e⟩ : ∃ X2, f n = X2 := ⟨_, rfl⟩
  rw [e] at x2 b2 ⊢
  clear e
  obtain ⟨X1, e⟩ : ∃ X1, f (n - 1) = X1 := ⟨_, rfl⟩
  rw [e] at x1 b1 ⊢
  clear e
  obtain ⟨X0, e⟩ : ∃ X0, f (n - 2) = X0 := ⟨_, rfl⟩
  rw [e] at x0 b0 ⊢
  clear e
  obtain ⟨Y1, e⟩ : ∃ Y1, h (n - 1) = Y1 := ⟨_, rfl⟩
  rw [e] at y1 t1 h0 ⊢
  clear e
  obtain ⟨Y0, e⟩ : ∃ Y0, h (n - 2) = Y0 := ⟨_, rfl⟩
  rw [e] at y0 t0 ⊢
  clear e hca hcb hA hB lf lh
  have k1 : IntKind.i64.wrap ((n : Int) - 1) = (n : Int) - 1 := IntWalk.i64_in _ (by omega)
  have k2 : IntKind.i64.wrap ((n : Int) - 2) = (n : Int) - 2 := IntWalk.i64_in _ (by omega)
  have k3 : ((n : Int) - 1).toNat = n - 1 := by omega
  have k4 : ((n : Int) - 2).toNat = n - 2 := by omega
  have k5 : 0 ≤ (n : Int) - 1 := by omega
  have k6 : 0 ≤ (n : Int) - 2 := by omega
  have B2 : X2 ≤ 18446744073709551615 := by unfold W64 at b2; omega
  have B1 : X1 ≤ 18446744073709551615 := by unfold W64 at b1; omega
  have B0 : X0 ≤ 18446744073709551615 := by unfold W64 at b0; omega
  have T1 : Y1 ≤ 18446744073709551615 := by unfold W64 at t1; omega
  have T0 : Y0 ≤ 18446744073709551615 := by unfold W64 at t0; omega
  have HB1 := Lib.hid b1
  have HB0 := Lib.hid b0
  have HT1 := Lib.hid t1
  have HT0 := Lib.hid t0
  clear b2 b1 b0 t1 t0
  by_cases hc : Y1 ≤ X2
  · have HG : Hid (gs W64 X2 X1 X0 Y1 Y0 = W64 - 1) := Lib.hid (if_pos hc)
    go_enter Tryz.func213, Tryz.ntmps213
    go_wp2
    go_quiet (fail)
    go_wp2
    go_ret
    rw [HG.out]
    exact ⟨rfl, _, rfl⟩
  · have hlt : X2 < Y1 := by omega
    have HG : Hid (gs W64 X2 X1 X0 Y1 Y0 = ((X2 * W64 + X1) * W64 + X0) / (Y1 * W64 + Y0)) := Lib.hid (if_neg hc)
    have HD : ∀ W, Calls Tryz.prog 173 #[.int .u64 (X2 : Nat), .int .u64 (X1 : Nat), .int .u64 (Y1 : Nat)] W fun e w' => e = .returned (.tuple #[.int .u64 (((X2 * W64 + X1) / Y1 : Nat) : Int), .int .u64 (((X2 * W64 + X1) % Y1 : Nat) : Int)]) ∧ ∃ j, w' = W.drewN j := fun W =>
      div64_any X2 X1 Y1 W HB1.out HT1.out hlt
    have g0 := guess_start (B := W64) (U := X2 * W64 + X1) (d := X0) (y1 := Y1) (y0 := Y0) h0 HB0.out
    have g1 := quo_lt' hlt HB1.out
    have g2 := Nat.lt_trans (Nat.mod_lt (X2 * W64 + X1) h0) HT1.out
    obtain ⟨U, hU⟩ : ∃ U, X2 * W64 + X1 = U := ⟨_, rfl⟩
    rw [hU] at HD g0 g1 g2 HG
    obtain ⟨q0, hq0⟩ : ∃ q0, U / Y1 = q0 := ⟨_, rfl⟩
    obtain ⟨r0, hr0⟩ : ∃ r0, U % Y1 = r0 := ⟨_, rfl⟩
    rw [hq0] at HD g0 g1
    rw [hr0] at HD g0 g2
    have HH := Lib.hid (GsRel.mk_ g0 g1 g2)
    have HM : Hid (∀ (W : World) (q : Nat) (z : Int), z = (q : Int) → q < W64 → Calls Tryz.prog 106 #[.int .u64 z, .int .u64 Y0] W fun e w' => e = .returned (.tuple #[.int .u64 ((q * Y0 / W64 : Nat) : Int), .int .u64 ((q * Y0 % W64 : Nat) : Int)]) ∧ W = w') := Lib.hid fun W q z hz hq => by
      subst hz
      exact (Go.Proofs.Tryz.bits_Mul64 q Y0 hq HT0.out W).mono fun e w' ⟨h1, h2⟩ => ⟨h1, h2.symm⟩
    have HDD := Lib.hid HD
    have G1 := Lib.hid g1
    clear HD g0 g1 g2 hU hq0 hr0 hc
    go_enter Tryz.func213, Tryz.ntmps213
    go_wp2
    go_quiet (fail)
    go_wp2
    go_quiet ((go_at_call 173; exact quiet_add (HDD.out _)))
    clear k1 k3 k5
    go_wp2_with fail
    refine (HM.out _ q0 _ rfl G1.out).mono ?_
    rintro e w' ⟨rfl, rfl⟩
    obtain ⟨hi0, hhi⟩ : ∃ hi, q0 * Y0 / W64 = hi := ⟨_, rfl⟩
    obtain ⟨lo0, hlo⟩ : ∃ lo, q0 * Y0 % W64 = lo := ⟨_, rfl⟩
    rw [hhi, hlo] at HH
    rw [hhi, hlo]
    clear hhi hlo k2 k4
    go_wp2
    go_loopw [8, 9, 10, 11] (fun s8 s9 s10 s11 wr => ∃ (q r hi lo : Nat), s8 = .int .u64 (q : Int) ∧ s9 = .int .u64 (r : Int) ∧ s10 = .int .u64 (hi : Int) ∧ s11 = .int .u64 (lo : Int) ∧ Hid (GsRel U X0 Y1 Y0 q r hi lo) ∧ ∃ j, wr = w.drewN j) (fun s8 _ _ _ _ => (intOf s8).toNat)
    case atStart => exact ⟨q0, r0, hi0, lo0, rfl, rfl, rfl, rfl, HH, _, rfl⟩
    case round =>
      clear HH HDD G1
      obtain ⟨q, r, hi, lo, rfl, rfl, rfl, rfl, HR, j, rfl⟩ := hrel
      have bq : q ≤ 18446744073709551615 := by have := HR.out.qlt; unfold W64 at this; omega
      by_cases hc : r < hi ∨ (hi = r ∧ X0 < lo)
      · have hnx := HR.out.more hc HB0.out
        obtain ⟨p, rfl⟩ : ∃ p, q = p + 1 := ⟨q - 1, by omega⟩
        rw [Nat.add_sub_cancel] at hnx
        have HN := Lib.hid hnx.2
        have hpl : Hid (p < W64) := Lib.hid (by have := HR.out.qlt; omega)
        have bp : p ≤ 18446744073709551614 := by omega
        have hz : Hid (((p + 1 : Nat) : Int) - 1 = (p : Int)) := Lib.hid (by omega)
        clear hnx bq
        by_cases h3 : r + Y1 < W64
        · have hA1 : ∀ W, (callFunc 107 #[.int .u64 r, .int .u64 Y1, .int .u64 0]).run Tryz.prog W = .ok (.value (.tuple #[.int .u64 ((r + Y1 : Nat) : Int), .int .u64 0])) W := fun W => by
            rw [run_add64_at r Y1 W, Nat.mod_eq_of_lt h3, Nat.div_eq_of_lt h3]; rfl
          obtain ⟨s, hs⟩ : ∃ s, r + Y1 = s := ⟨_, rfl⟩
          rw [hs] at hA1 HN h3
          have H3 := Lib.hid h3
          clear hs h3
          rcases hc with hc | ⟨rfl, hc⟩
          all_goals
            go_wp2_with (go_at_call 106; refine (HM.out _ p _ (by omega) hpl.out).mono ?_; rintro e w' ⟨rfl, rfl⟩)
            go_roundw
            case rel => exact ⟨p, s, _, _, by go_num, rfl, rfl, rfl, Lib.hid (GsRel.mk_ HN.out hpl.out H3.out), _, rfl⟩
            case measure => simp [intOf]
        · have hA1 : ∀ W, (callFunc 107 #[.int .u64 r, .int .u64 Y1, .int .u64 0]).run Tryz.prog W = .ok (.value (.tuple #[.int .u64 (((r + Y1) % W64 : Nat) : Int), .int .u64 1])) W := fun W => by
            have h4 : (r + Y1) / W64 = 1 := by have := HR.out.rlt; have := HT1.out; unfold W64 at *; omega
            rw [run_add64_at r Y1 W, h4]; rfl
          have HE := Lib.hid (HN.out.wide (Nat.le_of_lt hpl.out) HT0.out (by omega))
          obtain ⟨s, hs⟩ : ∃ s, (r + Y1) % W64 = s := ⟨_, rfl⟩
          rw [hs] at hA1
          clear hs h3
          rcases hc with hc | ⟨rfl, hc⟩
          all_goals
            go_wp2
            go_ret
            rw [HG.out, ← HE.out]
            exact ⟨congrArg (fun z => Ending.returned (Value.int .u64 z)) (by omega), _, rfl⟩
      · have hc2 : hi < r ∨ (hi = r ∧ lo ≤ X0) := by omega
        have HE := Lib.hid (HR.out.ends hc2)
        clear hc
        rcases hc2 with hc | ⟨rfl, hc⟩
        all_goals
          go_wp2
          go_ret
          rw [HG.out, ← HE.out]
          exact ⟨rfl, _, rfl⟩
end Go.Proofs.YtljbnnpmnoejeaaGreatDoor.nn
namespace Go.Proofs.YtljbnnpmnoejeaaGreatDoor.nn
open Go.RowKit

/-- difference and borrow -/
def sd (x y b : Nat) : Nat := (x + 4294967296 - y - b) % 4294967296
def sb (x y b : Nat) : Nat := if x < y + b then 1 else 0

theorem top_bit {n : Nat} (h : n < 4294967296) : n / 2147483648 = (n.testBit 31).toNat := by
  rw [Nat.testBit_eq_decide_div_mod_eq]
  have e : (2 : Nat) ^ 31 = 2147483648 := by decide
  rw [e]
  by_cases h1 : n / 2147483648 % 2 = 1
  · simp [h1]; omega
  · simp [h1]; omega

theorem sub32_nat (x y b : Nat) (hx : x < 4294967296) (hy : y < 4294967296) (hb : b ≤ 1) :
    (((4294967295 ^^^ x) &&& y) ||| ((4294967295 ^^^ (x ^^^ y)) &&& sd x y b)) / 2147483648 = sb x y b := by
  have hd : sd x y b < 4294967296 := Nat.mod_lt _ (by decide)
  have l1 : (4294967295 ^^^ x) &&& y < 2 ^ 32 := Nat.and_lt_two_pow _ (by omega)
  have l2 : (4294967295 ^^^ (x ^^^ y)) &&& sd x y b < 2 ^ 32 := Nat.and_lt_two_pow _ (by omega)
  have l3 := Nat.or_lt_two_pow l1 l2
  rw [top_bit (by omega)]
  simp only [Nat.testBit_or, Nat.testBit_and, Nat.testBit_xor]
  have t0 : Nat.testBit 4294967295 31 = true := by decide
  rw [t0]
  have e : (2 : Nat) ^ 31 = 2147483648 := by decide
  have tx : x.testBit 31 = decide (2147483648 ≤ x) := by
    rw [Nat.testBit_eq_decide_div_mod_eq, e]; congr 1; apply propext; omega
  have ty : y.testBit 31 = decide (2147483648 ≤ y) := by
    rw [Nat.testBit_eq_decide_div_mod_eq, e]; congr 1; apply propext; omega
  have td : (sd x y b).testBit 31 = decide (2147483648 ≤ sd x y b) := by
    rw [Nat.testBit_eq_decide_div_mod_eq, e]; congr 1; apply propext; omega
  rw [tx, ty, td]
  have hs : sd x y b = if x < y + b then x + 4294967296 - y - b else x - y - b := by
    unfold sd; split <;> omega
  have hq : sb x y b = if x < y + b then 1 else 0 := rfl
  rw [hq]
  rw [hs]
  by_cases h1 : x < y + b
  · simp only [if_pos h1]
    by_cases h2 : 2147483648 ≤ x <;> by_cases h3 : 2147483648 ≤ y <;> by_cases h4 : 2147483648 ≤ x + 4294967296 - y - b <;> simp [h2, h3, h4] <;> omega
  · simp only [if_neg h1]
    by_cases h2 : 2147483648 ≤ x <;> by_cases h3 : 2147483648 ≤ y <;> by_cases h4 : 2147483648 ≤ x - y - b <;> simp [h2, h3, h4] <;> omega

theorem sub32_bits (x y b : Nat) (hx : x < 4294967296) (hy : y < 4294967296) (hb : b ≤ 1) :
    bits .or .u32 (bits .and .u32 (bits .xor .u32 IntKind.u32.max (x : Int)) (y : Int)) (bits .and .u32 (bits .xor .u32 IntKind.u32.max (bits .xor .u32 (x : Int) (y : Int))) (((x : Int) - (y : Int) - (b : Int)) % 4294967296)) / 2147483648 = ((sb x y b : Nat) : Int) := by
  have hm : IntKind.u32.max = ((4294967295 : Nat) : Int) := rfl
  have hd : ((x : Int) - (y : Int) - (b : Int)) % 4294967296 = ((sd x y b : Nat) : Int) := by unfold sd; omega
  have hd' : sd x y b < 4294967296 := Nat.mod_lt _ (by decide)
  have x1 : 4294967295 ^^^ x < 2 ^ 32 := Nat.xor_lt_two_pow (by decide) (by omega)
  have x2 : x ^^^ y < 2 ^ 32 := Nat.xor_lt_two_pow (by omega) (by omega)
  have x3 : 4294967295 ^^^ (x ^^^ y) < 2 ^ 32 := Nat.xor_lt_two_pow (by decide) x2
  have l1 : (4294967295 ^^^ x) &&& y < 2 ^ 32 := Nat.and_lt_two_pow _ (by omega)
  have l2 : (4294967295 ^^^ (x ^^^ y)) &&& sd x y b < 2 ^ 32 := Nat.and_lt_two_pow _ (by omega)
  rw [hm, hd, u32_xor_nat _ _ (by decide) hx, u32_xor_nat _ _ hx hy, u32_and_nat _ _ (by omega) hy, u32_xor_nat _ _ (by decide) (by omega), u32_and_nat _ _ (by omega) hd', u32_or_nat _ _ (by omega) (by omega)]
  rw [← sub32_nat x y b hx hy hb]
  rfl

set_option maxHeartbeats 400000 in
theorem sub32_any (x y b : Nat) (w : World) (hx : x < 4294967296) (hy : y < 4294967296) (hb : b ≤ 1) :
    Calls Tryz.prog 109 #[.int .u32 x, .int .u32 y, .int .u32 b] w fun e w' => e = .returned (.tuple #[.int .u32 (sd x y b : Nat), .int .u32 (sb x y b : Nat)]) ∧ w = w' := by
  have H := Lib.hid (sub32_bits x y b hx hy hb)
  have hd := Lib.hid (show ((x : Int) - (y : Int) - (b : Int)) % 4294967296 = ((sd x y b : Nat) : Int) by unfold sd; omega)
  go_enter Tryz.func109, Tryz.ntmps109
  go_wp2
  all_goals
    go_ret2
    rw [← H.out, ← hd.out]
    exact ⟨rfl, rfl⟩
end Go.Proofs.YtljbnnpmnoejeaaGreatDoor.nn
namespace Go.Proofs.YtljbnnpmnoejeaaGreatDoor.nn
open Go.RowKit

/-- limbs beyond what the value needs are 0 -/
theorem sm_low {B : Nat} (hB : 0 < B) {g : Nat → Nat} {n m : Nat} (h : sm B g m < B ^ n) : sm B (pad g m) n = sm B g m := by
  rcases Nat.le_total m n with h1 | h1
  · exact pad_sm B g h1
  · have e1 : sm B (pad g m) n = sm B g n := sm_congr B fun i hi => by simp only [pad]; rw [if_pos (by omega)]
    obtain ⟨j, rfl⟩ : ∃ j, m = n + j := ⟨m - n, by omega⟩
    rw [e1]
    rw [sm_split] at h ⊢
    have hp := Nat.pow_pos (n := n) hB
    rcases Nat.eq_zero_or_pos (sm B (fun i => g (n + i)) j) with h2 | h2
    · rw [h2]; simp
    · have := Nat.le_mul_of_pos_left (B ^ n) h2
      omega

/-- what holds at the head of less's loop -/
def LessRel (base : Nat) (w0 wr : World) (s : Value) (i k : Nat) (F G : Nat → Nat) : Prop :=
  ∃ f' : Nat → Nat, wr.ownsRow base 72 1 s i (vl .u32 f' i) ∧ Below base w0 wr ∧ base ≤ wr.heap.size ∧ Lt (2 ^ 32) f' i ∧ sm (2 ^ 32) F i + k * (2 ^ 32) ^ i = sm (2 ^ 32) f' i + sm (2 ^ 32) G i

theorem borrow_eq {a b c v k' Bs P : Nat} (hk : a + k' * Bs = v + b + c) : a * P + k' * (P * Bs) = v * P + b * P + c * P := by
  have e2 := congrArg (· * P) hk
  simp only [Nat.add_mul] at e2
  rw [Nat.mul_comm P Bs, ← Nat.mul_assoc]
  exact e2

theorem LessRel.step {base : Nat} {w0 wr w1 : World} {v : Value} {i k : Nat} {F G f' : Nat → Nat} (o : Obj) (hF : F i < 2 ^ 32) (hG : G i < 2 ^ 32) (hk : k ≤ 1)
    (h2 : Below base w0 wr) (h3 : base ≤ wr.heap.size) (h4 : Lt (2 ^ 32) f' i) (h6 : sm (2 ^ 32) F i + k * (2 ^ 32) ^ i = sm (2 ^ 32) f' i + sm (2 ^ 32) G i)
    (ho : w1.ownsRow base 72 1 v (i + 1) (vl .u32 (jn f' i (fun _ => (F i + 4294967296 - G i - k) % 4294967296)) (i + 1))) (hb : Below base (wr.alloc o) w1) :
    LessRel base w0 w1 v (i + 1) (1 - (F i + 4294967296 - G i - k) / 4294967296) F G := by
  have hb1 := (h2.alloc h3 o).trans hb
  have hs := hb.size
  rw [hsz] at hs
  refine ⟨_, ho, hb1, by omega, h4.jn (m := 1) (fun _ _ => Nat.mod_lt _ (by decide)), ?_⟩
  have e1 : sm (2 ^ 32) (fun _ => (F i + 4294967296 - G i - k) % 4294967296) 1 = (F i + 4294967296 - G i - k) % 4294967296 := by simp [sm]
  rw [sm_jn, e1]
  simp only [sm]
  rw [pow_s (2 ^ 32) i]
  have e := borrow_eq (P := (2 ^ 32) ^ i) (Bs := 2 ^ 32) (a := F i) (b := G i) (c := k) (v := (F i + 4294967296 - G i - k) % 4294967296) (k' := 1 - (F i + 4294967296 - G i - k) / 4294967296) (by omega)
  omega

theorem less_end {F f' G : Nat → Nat} {n k S : Nat} (h : sm (2 ^ 32) F n + k * (2 ^ 32) ^ n = sm (2 ^ 32) f' n + sm (2 ^ 32) G n) (hG : sm (2 ^ 32) G n = S) (hle : S ≤ sm (2 ^ 32) F n) (lf : Lt (2 ^ 32) f' n) :
    sm (2 ^ 32) f' n = sm (2 ^ 32) F n - S := by
  have h1 := sm_lt lf
  rcases k with _ | k
  · omega
  · have e3 : (2 ^ 32) ^ n ≤ (k + 1) * (2 ^ 32) ^ n := Nat.le_mul_of_pos_left _ (by omega)
    omega

set_option maxRecDepth 100000 in
set_option maxHeartbeats 1000000 in
theorem less_any (A B : Option Addr) (n m c d : Nat) (f g : Nat → Nat) (w : World) (hA : Rd w .u32 A n f) (hB : Rd w .u32 B m g) (lf : Lt (2 ^ 32) f n) (lg : Lt (2 ^ 32) g m)
    (hn : (n + 1) * 4 ≤ 140737488355328) (hm : (m + 1) * 4 ≤ 140737488355328) (hle : sm (2 ^ 32) g m ≤ sm (2 ^ 32) f n) :
    Calls Tryz.prog 82 #[.slice A n c, .slice B m d] w fun e w' => One w w' e (sm (2 ^ 32) f n - sm (2 ^ 32) g m) n := by
  obtain ⟨i0, hi, hz0, hz1, hz2⟩ := info_parts info_u32
  have HG := Lib.hid (pad_lt (by decide : 0 < 2 ^ 32) lg n)
  have hlow := Lib.hid (sm_low (B := 2 ^ 32) (by decide) (Nat.lt_of_le_of_lt hle (sm_lt lf)))
  have HLE := Lib.hid hle
  have hpf : Hid (∀ i, i < n → pad f n i = f i) := Lib.hid fun i hi => by simp [pad, hi]
  clear hle
  go_enter Tryz.func82, Tryz.ntmps82
  go_wp2
  go_loopw [5, 6, 7] (fun s5 s6 s7 wr => ∃ i k : Nat, i ≤ n ∧ k ≤ 1 ∧ s7 = .int .i64 i ∧ s6 = .int .u64 k ∧ LessRel w.heap.size w wr s5 i k f (pad g m)) (fun _ _ s7 _ => n - (intOf s7).toNat)
  case atStart => exact ⟨0, 0, Nat.zero_le _, by omega, rfl, rfl, fun _ => 0, World.ownsRow_nil _ _ _ _, Below.refl _ _, Nat.le_refl _, fun _ h => absurd h (by omega), by simp [sm]⟩
  case round =>
    obtain ⟨i, k, hi', hk, rfl, rfl, hh⟩ := hrel
    by_cases hlt : i < n
    · have bF := lf i hlt
      have bG := HG.out i hlt
      obtain ⟨f', h1, h2, h3, h4, h6⟩ := hh
      have hA1 := hA.below h2
      have hB1 := hB.below h2
      have hat := Lib.hid (at_any A n c i f wr hA1 lf (by unfold maxLen; omega) (by unfold maxLen; omega))
      rw [hpf.out i hlt] at hat
      have hz := Lib.hid (show ((f i : Int) + 4294967296 - (pad g m i : Int) - (k : Int)) % 4294967296 = (((f i + 4294967296 - pad g m i - k) % 4294967296 : Nat) : Int) by omega)
      have H6 := Lib.hid h6
      clear h6
      go_wp2_with (first
        | (go_at_call_of 78 (Value.slice A n c); refine hat.out.mono ?_; rintro e w' ⟨rfl, rfl⟩)
        | (go_at_call_of 78 (Value.slice B m d); refine (at_any _ _ _ _ g _ hB1 lg (by unfold maxLen; omega) (by unfold maxLen; omega)).mono ?_; rintro e w' ⟨rfl, rfl⟩)
        | (at_builtin; refine wpList_app rfl (.tmp 25) (.tmp 28) _ rfl w.heap.size 72 i0 _ 4 Tryz.underlying48 hi hz0 hz1 hz2 rfl .u32 _ i f' rfl (h1.alloc _) _ 1 1 (fun _ => (f i + 4294967296 - pad g m i - k) % 4294967296) rfl (rd_z _ .u32 _ _ hz.out) (by unfold maxLen; omega) (by omega) (by rw [hsz]; omega) ?_; intro v1 w1 hown1 hb1))
      go_roundw
      case rel => exact ⟨i + 1, 1 - (f i + 4294967296 - pad g m i - k) / 4294967296, by omega, by omega, by go_num, congrArg (Value.int .u64) (by omega), LessRel.step _ bF bG hk h2 h3 h4 H6.out hown1 hb1⟩
      case measure => simp [intOf]; omega
    · obtain rfl : i = n := by omega
      obtain ⟨f', h1, h2, h3, h4, h6⟩ := hh
      obtain ⟨A1, c1, rfl, hc1, hm1, hr1⟩ := Rd.of_own h1
      have HV := Lib.hid (less_end h6 hlow.out HLE.out h4)
      clear h6
      go_wp2_with (go_at_call 79; refine (rtrim_any _ _ _ f' _ hr1 hc1 (by omega)).mono ?_; rintro e w2 ⟨v2, rfl, hown2, hb2⟩)
      go_ret
      exact One.mk_ hown2 h4 HV.out (Nat.le_refl _) h2 hb2
theorem cm_ge {a b : Nat} (h : ¬ a < b) : 0 ≤ cm a b ∧ cm a b ≤ 1 := by
  rw [cm, if_neg h]
  split <;> omega

/-- one of two -/
def two {α : Type} (x y : α) : Nat → α := fun i => match i with | 0 => x | _ + 1 => y

theorem rds_two (w : World) (A B : Option Addr) (n c m d : Nat) (f g : Nat → Nat) (e : TypeId) (hA : Rd w .u32 A n f) (hn : n ≤ c) (hc : c ≤ maxLen) (hB : Rd w .u32 B m g) (hm : m ≤ d) (hd : d ≤ maxLen) :
    Rds (w.alloc (.cells #[.slice A n c, .slice B m d] e)) (some ⟨w.heap.size, 0, none⟩) 2 (two A B) (two n m) (two c d) (two f g) := fun _ =>
  ⟨w.heap.size, 0, rfl, by simp, fun i hi => by
    rcases i with _ | _ | i
    · refine ⟨?_, hn, hc, hA.alloc _⟩
      rw [World.cell?_alloc_at _ _ _ _ rfl]; rfl
    · refine ⟨?_, hm, hd, hB.alloc _⟩
      rw [World.cell?_alloc_at _ _ _ _ rfl]; rfl
    · omega⟩

theorem lg_two (n m : Nat) (f g : Nat → Nat) : lg (two n m) (two f g) 2 = (decide (4096 < tr f n) || decide (4096 < tr g m)) := by
  simp only [lg, Bool.false_or]; rfl

/-- is one of two too long? -/
def tl2 (n m : Nat) (f g : Nat → Nat) : Bool := decide (4096 < tr f n) || decide (4096 < tr g m)
/-- what Sub answers -/
def subR (n m : Nat) (f g : Nat → Nat) : Nat := if tl2 n m f g = true then 0 else if sm (2 ^ 32) f n < sm (2 ^ 32) g m then 0 else sm (2 ^ 32) f n - sm (2 ^ 32) g m
def subE (n m : Nat) (f g : Nat → Nat) : Nat := if tl2 n m f g = true then 2 else if sm (2 ^ 32) f n < sm (2 ^ 32) g m then 1 else 0

set_option maxRecDepth 100000 in
set_option maxHeartbeats 400000 in
theorem rsub_all (A B : Option Addr) (n m c d : Nat) (f g : Nat → Nat) (w : World) (hA : Rd w .u32 A n f) (hB : Rd w .u32 B m g) (lf : Lt (2 ^ 32) f n) (lg : Lt (2 ^ 32) g m)
    (hnc : n ≤ c) (hmd : m ≤ d) (hcm : c ≤ maxLen) (hdm : d ≤ maxLen) (hc : n * 4 ≤ 140737488351232) (hd : m * 4 ≤ 140737488351232) :
    Calls Tryz.prog 43 #[.slice A n c, .slice B m d] w fun e w' => Res w w' e (subR n m f g) (subE n m f g) := by
  have h2 := rds_two w A B n c m d f g 48 hA hnc hcm hB hmd hdm
  unfold maxLen at hcm hdm
  have hlong := rlong_any _ 2 2 _ _ _ _ _ h2 (by simp [maxLen]) (fun i hi => by
    rcases i with _ | _ | i
    · show n * 4 ≤ _; omega
    · show m * 4 ≤ _; omega
    · omega)
  rw [lg_two] at hlong
  have HL0 : Calls Tryz.prog 80 #[.slice (some ⟨w.heap.size, 0, none⟩) 2 2] (w.alloc (.cells #[.slice A n c, .slice B m d] 48)) fun e w' => e = .returned (.bool (tl2 n m f g)) ∧ Below (w.alloc (.cells #[.slice A n c, .slice B m d] 48)).heap.size (w.alloc (.cells #[.slice A n c, .slice B m d] 48)) w' := hlong
  clear hlong h2
  by_cases hl : tl2 n m f g = true
  · rw [hl] at HL0
    have HL := Lib.hid HL0
    have H1 : Hid (subR n m f g = 0) := if_pos hl
    have H2 : Hid (subE n m f g = 2) := if_pos hl
    clear HL0 hl
    go_enter Tryz.func43, Tryz.ntmps43
    go_wp2_with (go_at_call 80; refine HL.out.mono ?_; rintro e w2 ⟨rfl, hb2⟩)
    go_ret2
    rw [H1.out, H2.out]
    exact ⟨none, 0, 0, _, rfl, num_nil _, ((Below.refl _ _).alloc (Nat.le_refl _) _).trans (hb2.mono (by rw [hsz]; omega))⟩
  · have hl' : tl2 n m f g = false := by cases h : tl2 n m f g <;> simp_all
    rw [hl'] at HL0
    have HL := Lib.hid HL0
    by_cases hlt : sm (2 ^ 32) f n < sm (2 ^ 32) g m
    · have H1 : Hid (subR n m f g = 0) := (if_neg hl).trans (if_pos hlt)
      have H2 : Hid (subE n m f g = 1) := (if_neg hl).trans (if_pos hlt)
      have HC := Lib.hid (cm_lt hlt)
      clear HL0 hl hl' hlt
      go_enter Tryz.func43, Tryz.ntmps43
      go_wp2_with (first
        | (go_at_call 80; refine HL.out.mono ?_; rintro e w2 ⟨rfl, hb2⟩; have hb3 := Lib.hid (((Below.refl w.heap.size w).alloc (Nat.le_refl _) (.cells #[.slice A n c, .slice B m d] 48)).trans (hb2.mono (by rw [hsz]; omega))))
        | (go_at_call 81; refine (rcmp_any A B n m c d f g _ (hA.below hb3.out) (hB.below hb3.out) lf lg hnc hmd (by omega) (by omega)).mono ?_; rw [HC.out]; rintro e w4 ⟨rfl, hb4⟩))
      go_ret2
      rw [H1.out, H2.out]
      exact ⟨none, 0, 0, _, rfl, num_nil _, hb3.out.trans (hb4.mono hb3.out.size)⟩
    · have H1 : Hid (subR n m f g = sm (2 ^ 32) f n - sm (2 ^ 32) g m) := (if_neg hl).trans (if_neg hlt)
      have H2 : Hid (subE n m f g = 0) := (if_neg hl).trans (if_neg hlt)
      have hle : sm (2 ^ 32) g m ≤ sm (2 ^ 32) f n := by omega
      have HC : 0 ≤ cm (sm (2 ^ 32) f n) (sm (2 ^ 32) g m) ∧ cm (sm (2 ^ 32) f n) (sm (2 ^ 32) g m) ≤ 1 := cm_ge hlt
      obtain ⟨z, hz⟩ : ∃ z, cm (sm (2 ^ 32) f n) (sm (2 ^ 32) g m) = z := ⟨_, rfl⟩
      rw [hz] at HC
      obtain ⟨z0, z1⟩ := HC
      have HZ := Lib.hid hz
      have HLE := Lib.hid hle
      clear HL0 hl hl' hlt hz hle
      go_enter Tryz.func43, Tryz.ntmps43
      go_wp2_with (first
        | (go_at_call 80; refine HL.out.mono ?_; rintro e w2 ⟨rfl, hb2⟩; have hb3 := Lib.hid (((Below.refl w.heap.size w).alloc (Nat.le_refl _) (.cells #[.slice A n c, .slice B m d] 48)).trans (hb2.mono (by rw [hsz]; omega))))
        | (go_at_call 81; refine (rcmp_any A B n m c d f g _ (hA.below hb3.out) (hB.below hb3.out) lf lg hnc hmd (by omega) (by omega)).mono ?_; rw [HZ.out]; rintro e w4 ⟨rfl, hb4⟩; have hb5 := Lib.hid (hb3.out.trans (hb4.mono hb3.out.size)))
        | (go_at_call 82; refine (less_any A B n m c d f g _ (hA.below hb5.out) (hB.below hb5.out) lf lg (by omega) (by omega) HLE.out).mono ?_; rintro e w6 ⟨A6, n6, c6, f6, rfl, hn6, hle6, hb6⟩))
      go_ret2
      rw [H1.out, H2.out]
      exact ⟨A6, n6, c6, f6, rfl, hn6, hb5.out.trans (hb6.mono hb5.out.size)⟩
end Go.Proofs.YtljbnnpmnoejeaaGreatDoor.nn
namespace Go.Proofs.YtljbnnpmnoejeaaGreatDoor.nn
open Go.RowKit

/-- what holds when the first i limbs are done, with the borrow k -/
def SubRel (w wr : World) (g : Nat) (e : TypeId) (cur : Array Value) (off n : Nat) (f G f' : Nat → Nat) (cur' : Array Value) (k i : Nat) : Prop :=
  Wrote w wr g e cur cur' off n ∧ Ints cur' .u32 off n f' ∧ Lt (2 ^ 32) f' n ∧ (∀ j, i ≤ j → j < n → f' j = f j) ∧
    sm (2 ^ 32) f i + k * (2 ^ 32) ^ i = sm (2 ^ 32) f' i + sm (2 ^ 32) G i

theorem SubRel.step {w wr : World} {g : Nat} {e : TypeId} {cur : Array Value} {off n : Nat} {f G f' : Nat → Nat} {cur' : Array Value} {k i : Nat} (H : SubRel w wr g e cur off n f G f' cur' k i) (hi : i < n) (hG : G i < 4294967296) (hk : k ≤ 1) :
    SubRel w (wr.setCell ⟨g, off + i, none⟩ (.int .u32 (sd (f' i) (G i) k : Nat))) g e cur off n f G (upd f' i (sd (f' i) (G i) k)) (cur'.setIfInBounds (off + i) (.int .u32 (sd (f' i) (G i) k : Nat))) (sb (f' i) (G i) k) (i + 1) := by
  obtain ⟨h1, h2, h3, h4, h5⟩ := H
  have hx : f' i < 2 ^ 32 := h3 i hi
  refine ⟨h1.set_ i hi _, h2.set_ i _ hi, h3.upd (Nat.mod_lt _ (by decide)), fun j ha hb => ?_, ?_⟩
  · rw [upd_ne f' (by omega)]; exact h4 j (by omega) hb
  · rw [sm_snoc]
    simp only [sm]
    rw [pow_s (2 ^ 32) i, ← h4 i (Nat.le_refl _) hi]
    have e := borrow_eq (P := (2 ^ 32) ^ i) (Bs := 2 ^ 32) (a := f' i) (b := G i) (c := k) (v := sd (f' i) (G i) k) (k' := sb (f' i) (G i) k) (by unfold sd sb; split <;> omega)
    omega

theorem SubRel.drew {w wr : World} {g : Nat} {e : TypeId} {cur : Array Value} {off n : Nat} {f G f' : Nat → Nat} {cur' : Array Value} {k i : Nat} (H : SubRel w wr g e cur off n f G f' cur' k i) : SubRel w wr.drew g e cur off n f G f' cur' k i :=
  ⟨H.1.drewN 1, H.2.1, H.2.2.1, H.2.2.2.1, H.2.2.2.2⟩

theorem sb_le (x y b : Nat) : sb x y b ≤ 1 := by unfold sb; split <;> omega

set_option maxRecDepth 100000 in
set_option maxHeartbeats 1000000 in
theorem subtract_any (g off n c : Nat) (e : TypeId) (cur : Array Value) (f : Nat → Nat) (B : Option Addr) (m d : Nat) (h : Nat → Nat) (w : World)
    (hb : Bk w g e cur) (hi : Ints cur .u32 off n f) (hB : Rd w .u32 B m h) (hne : ∀ b o, B = some ⟨b, o, none⟩ → 0 < m → b ≠ g) (lf : Lt (2 ^ 32) f n) (lh : Lt (2 ^ 32) h m) (hn : n ≤ maxLen) (hm : m ≤ maxLen) :
    Calls Tryz.prog 69 #[.slice (some ⟨g, off, none⟩) n c, .slice B m d] w fun e' w' => e' = .returned (.tuple #[]) ∧ ∃ f' cur' k, SubRel w w' g e cur off n f (pad h m) f' cur' k n := by
  unfold maxLen at hn hm
  go_enter Tryz.func69, Tryz.ntmps69
  go_wp2
  go_loopw [4, 8] (fun s4 s8 wr => ∃ (k i : Nat) (f' : Nat → Nat) (cur' : Array Value), k ≤ 1 ∧ i ≤ n ∧ s4 = .int .u32 (k : Int) ∧ s8 = .int .i64 i ∧ SubRel w wr g e cur off n f (pad h m) f' cur' k i) (fun _ s8 _ => n - (intOf s8).toNat)
  case atStart => exact ⟨0, 0, f, cur, by omega, by omega, rfl, rfl, Wrote.refl hb off n, hi, lf, fun _ _ _ => rfl, by simp [sm]⟩
  case round =>
    obtain ⟨k, i, f', cur', hk, hin, rfl, rfl, hh⟩ := hrel
    by_cases hlt : i < n
    · have hx := (Bk.cell hh.1.blk (off + i)).trans (hh.2.1 i (by omega))
      have hxf := Bk.frozen hh.1.blk (off + i)
      have bx : f' i < 4294967296 := hh.2.2.1 i (by omega)
      by_cases hlm : i < m
      · obtain ⟨b, o, rfl, _, hcell⟩ := (hB.wrote hh.1 hne) (by omega)
        have hy := hcell i hlm
        have by_ : h i < 4294967296 := lh i hlm
        have hp : Hid (pad h m i = h i) := if_pos hlm
        clear hcell
        go_wp2_with fail
        go_region_with (go_at_call 109; refine (sub32_any (f' i) (h i) k _ bx by_ hk).mono ?_; rintro e w' ⟨rfl, rfl⟩)
        all_goals
          go_wp2
          go_roundw
          case rel => exact ⟨sb (f' i) (h i) k, i + 1, _, _, sb_le _ _ _, by omega, rfl, by go_num, by rw [← hp.out]; exact hh.drew.step hlt (by rw [hp.out]; exact by_) hk⟩
          case measure => simp [intOf]; omega
      · have hp : Hid (pad h m i = 0) := if_neg hlm
        have h0 : Hid (∀ W, Calls Tryz.prog 109 #[.int .u32 (f' i : Nat), .int .u32 0, .int .u32 (k : Nat)] W fun e w' => e = .returned (.tuple #[.int .u32 (sd (f' i) 0 k : Nat), .int .u32 (sb (f' i) 0 k : Nat)]) ∧ W = w') := Lib.hid fun W => sub32_any (f' i) 0 k W bx (by decide) hk
        go_wp2_with (go_at_call 109; refine (h0.out _).mono ?_; rintro e w' ⟨rfl, rfl⟩)
        go_roundw
        case rel => exact ⟨sb (f' i) 0 k, i + 1, _, _, sb_le _ _ _, by omega, rfl, by go_num, by rw [← hp.out]; exact hh.step hlt (by rw [hp.out]; decide) hk⟩
        case measure => simp [intOf]; omega
    · obtain rfl : i = n := by omega
      go_wp2
      go_end0
      exact ⟨rfl, f', cur', k, hh⟩
end Go.Proofs.YtljbnnpmnoejeaaGreatDoor.nn
namespace Go.Proofs.YtljbnnpmnoejeaaGreatDoor.nn
open Go.RowKit

/-- difference and borrow at 64 bits -/
def sd64 (x y b : Nat) : Nat := (x + W64 - y - b) % W64
def sb64 (x y b : Nat) : Nat := if x < y + b then 1 else 0
theorem sb64_le (x y b : Nat) : sb64 x y b ≤ 1 := by unfold sb64; split <;> omega
theorem sd64_lt (x y b : Nat) : sd64 x y b < W64 := Nat.mod_lt _ (by decide)
theorem sd64_eq {x y b : Nat} (hx : x < W64) (hy : y < W64) (hb : b ≤ 1) : sd64 x y b + y + b = x + sb64 x y b * W64 := by
  unfold sd64 sb64 W64 at *
  split <;> omega

theorem run_sub64_at (x y b : Nat) (hb : b ≤ 1) (w : World) : (callFunc 216 #[.int .u64 x, .int .u64 y, .int .u64 b]).run Tryz.prog w =
    .ok (.value (.tuple #[.int .u64 ((sd64 x y b : Nat) : Int), .int .u64 ((sb64 x y b : Nat) : Int)])) w := by
  rw [run_callFunc_extern Tryz.func216 (by kernel_rfl) (by kernel_rfl) (by kernel_rfl) (e := sub64Entry) (by kernel_rfl), run_sub64 x y b hb]
  rfl

/-- what holds when i limbs are done, with the carry k and the borrow b -/
def StRel (w wr : World) (g : Nat) (e : TypeId) (cur : Array Value) (off n : Nat) (f h : Nat → Nat) (F : Nat) (f' : Nat → Nat) (cur' : Array Value) (k b i : Nat) : Prop :=
  Wrote w wr g e cur cur' off n ∧ Ints cur' .u64 off n f' ∧ Lt W64 f' n ∧ (∀ j, i ≤ j → j < n → f' j = f j) ∧ sm W64 f' i + F * sm W64 h i = sm W64 f i + (k + b) * W64 ^ i ∧ k < W64 ∧ b ≤ 1

theorem StRel.step {w wr : World} {g : Nat} {e : TypeId} {cur : Array Value} {off n : Nat} {f h : Nat → Nat} {F : Nat} {f' : Nat → Nat} {cur' : Array Value} {k b i : Nat} (H : StRel w wr g e cur off n f h F f' cur' k b i) (hi : i < n) (l k' : Nat)
    (hk : h i * F + k = l + k' * W64) (hl : l < W64) (hk' : k' < W64) :
    StRel w (wr.setCell ⟨g, off + i, none⟩ (.int .u64 ((sd64 (f' i) l b : Nat) : Int))) g e cur off n f h F (upd f' i (sd64 (f' i) l b)) (cur'.setIfInBounds (off + i) (.int .u64 ((sd64 (f' i) l b : Nat) : Int))) k' (sb64 (f' i) l b) (i + 1) := by
  obtain ⟨h1, h2, h3, h4, h5, _, h7⟩ := H
  refine ⟨h1.set_ i hi _, h2.set_ i _ hi, h3.upd (sd64_lt _ _ _), fun j ha hb => ?_, ?_, hk', sb64_le _ _ _⟩
  · rw [upd_ne f' (by omega)]; exact h4 j (by omega) hb
  · have e1 : sm W64 f (i + 1) = sm W64 f i + f i * W64 ^ i := rfl
    have e2 : sm W64 h (i + 1) = sm W64 h i + h i * W64 ^ i := rfl
    have e4 := sd64_eq (h3 i hi) hl h7
    rw [sm_snoc, e1, e2, Nat.pow_succ W64 i, Nat.mul_add]
    rw [h4 i (Nat.le_refl _) hi] at e4 ⊢
    generalize sd64 (f i) l b = v at *
    generalize sb64 (f i) l b = b' at *
    have c1 := congrArg (· * W64 ^ i) e4
    have c2 := congrArg (· * W64 ^ i) hk
    simp only [Nat.add_mul] at c1 c2 h5 ⊢
    have e3 : F * (h i * W64 ^ i) = h i * F * W64 ^ i := by rw [← Nat.mul_assoc, Nat.mul_comm F]
    have e5 : k' * (W64 ^ i * W64) = k' * W64 * W64 ^ i := by rw [Nat.mul_comm (W64 ^ i), ← Nat.mul_assoc]
    have e6 : b' * (W64 ^ i * W64) = b' * W64 * W64 ^ i := by rw [Nat.mul_comm (W64 ^ i), ← Nat.mul_assoc]
    rw [e3, e5, e6]
    omega

/-- behind subTimes: the difference, or, with the borrow 1, one power more -/
def StEnd (w w' : World) (g : Nat) (e : TypeId) (cur : Array Value) (off n : Nat) (f h : Nat → Nat) (F : Nat) (e' : Ending) : Prop :=
  ∃ (b : Nat) (f' : Nat → Nat) (cur' : Array Value), e' = .returned (.int .u64 (b : Int)) ∧ b ≤ 1 ∧ Wrote w w' g e cur cur' off (n + 1) ∧ Ints cur' .u64 off (n + 1) f' ∧ Lt W64 f' (n + 1) ∧ sm W64 f' (n + 1) + F * sm W64 h n = sm W64 f (n + 1) + b * W64 ^ (n + 1)

theorem StRel.last {w wr : World} {g : Nat} {e : TypeId} {cur : Array Value} {off n : Nat} {f h : Nat → Nat} {F : Nat} {f' : Nat → Nat} {cur' : Array Value} {k b : Nat} (H : StRel w wr g e cur off (n + 1) f h F f' cur' k b n) :
    StEnd w (wr.setCell ⟨g, off + n, none⟩ (.int .u64 ((sd64 (f' n) k b : Nat) : Int))) g e cur off n f h F (.returned (.int .u64 ((sb64 (f' n) k b : Nat) : Int))) := by
  obtain ⟨h1, h2, h3, h4, h5, h6, h7⟩ := H
  refine ⟨_, _, _, rfl, sb64_le _ _ _, h1.set_ n (Nat.lt_succ_self n) _, h2.set_ n _ (Nat.lt_succ_self n), h3.upd (sd64_lt _ _ _), ?_⟩
  have e1 : sm W64 f (n + 1) = sm W64 f n + f n * W64 ^ n := rfl
  have e4 := sd64_eq (h3 n (Nat.lt_succ_self n)) h6 h7
  rw [sm_snoc, e1, Nat.pow_succ W64 n]
  rw [h4 n (Nat.le_refl _) (Nat.lt_succ_self n)] at e4 ⊢
  generalize sd64 (f n) k b = v at *
  generalize sb64 (f n) k b = b' at *
  have c1 := congrArg (· * W64 ^ n) e4
  simp only [Nat.add_mul] at c1 h5 ⊢
  have e6 : b' * (W64 ^ n * W64) = b' * W64 * W64 ^ n := by rw [Nat.mul_comm (W64 ^ n), ← Nat.mul_assoc]
  rw [e6]
  omega

theorem sub_words {x F k : Nat} (hx : x < W64) (hF : F < W64) (hk : k < W64) :
    x * F / W64 + (x * F % W64 + k) / W64 < W64 ∧ x * F + k = (x * F % W64 + k) % W64 + (x * F / W64 + (x * F % W64 + k) / W64) * W64 := by
  refine ⟨(round_words (a := 0) (by decide) hx hF hk).1, ?_⟩
  have h1 := Nat.div_add_mod (x * F) W64
  have h2 := Nat.div_add_mod (x * F % W64 + k) W64
  generalize x * F = p at *
  generalize p / W64 = u at *
  generalize p % W64 = v at *
  generalize (v + k) / W64 = u1 at *
  generalize (v + k) % W64 = v1 at *
  simp only [W64] at *
  omega

set_option maxRecDepth 100000 in
set_option maxHeartbeats 1000000 in
theorem subTimes_any (g off n c : Nat) (e : TypeId) (cur : Array Value) (f : Nat → Nat) (B : Option Addr) (d : Nat) (h : Nat → Nat) (F : Nat) (w : World)
    (hb : Bk w g e cur) (hi : Ints cur .u64 off (n + 1) f) (hB : Rd w .u64 B n h) (hne : ∀ b o, B = some ⟨b, o, none⟩ → 0 < n → b ≠ g) (lf : Lt W64 f (n + 1)) (lh : Lt W64 h n) (lF : F < W64) (hn : n + 1 ≤ maxLen) :
    Calls Tryz.prog 214 #[.slice (some ⟨g, off, none⟩) (n + 1 : Nat) c, .slice B n d, .int .u64 F] w fun e' w' => StEnd w w' g e cur off n f h F e' := by
  unfold maxLen at hn
  have LF := Lib.hid lF
  have LL := Lib.hid lf
  have LH := Lib.hid lh
  clear lF lf lh
  go_enter Tryz.func214, Tryz.ntmps214
  go_wp2
  go_loopw [7, 8, 16] (fun s7 s8 s16 wr => ∃ (k b i : Nat) (f' : Nat → Nat) (cur' : Array Value), i ≤ n ∧ s7 = .int .u64 (k : Int) ∧ s8 = .int .u64 (b : Int) ∧ s16 = .int .i64 i ∧ Hid (StRel w wr g e cur off (n + 1) f h F f' cur' k b i)) (fun _ _ s16 _ => n - (intOf s16).toNat)
  case atStart => exact ⟨0, 0, 0, f, cur, by omega, rfl, rfl, rfl, Lib.hid ⟨Wrote.refl hb off (n + 1), hi, LL.out, fun _ _ _ => rfl, by simp [sm], by decide, by decide⟩⟩
  case round =>
    obtain ⟨k, b, i, f', cur', hin, rfl, rfl, rfl, hh⟩ := hrel
    by_cases hlt : i < n
    · have hx := (Bk.cell hh.out.1.blk (off + i)).trans (hh.out.2.1 i (by omega))
      have hxf := Bk.frozen hh.out.1.blk (off + i)
      obtain ⟨bb, o, rfl, _, hcell⟩ := (hB.wrote hh.out.1 hne) (by omega)
      have hy := hcell i hlt
      have hkb := hh.out.2.2.2.2.2
      obtain ⟨q1, q3⟩ := sub_words (LH.out i hlt) LF.out hkb.1
      have HM : ∀ W : World, Calls Tryz.prog 106 #[.int .u64 (h i : Nat), .int .u64 F] W fun e w' => e = .returned (.tuple #[.int .u64 ((h i * F / W64 : Nat) : Int), .int .u64 ((h i * F % W64 : Nat) : Int)]) ∧ W = w' := fun W =>
        (Go.Proofs.Tryz.bits_Mul64 (h i) F (LH.out i hlt) LF.out W).mono fun e w' ⟨h1, h2⟩ => ⟨h1, h2.symm⟩
      have hA1 := fun W => run_add64_at (h i * F % W64) k W
      obtain ⟨u, hu⟩ : ∃ u, h i * F / W64 = u := ⟨_, rfl⟩
      obtain ⟨v, hv⟩ : ∃ v, h i * F % W64 = v := ⟨_, rfl⟩
      simp only [hu, hv] at q1 q3 HM
      simp only [hv] at hA1
      obtain ⟨u1, hu1⟩ : ∃ u1, (v + k) / W64 = u1 := ⟨_, rfl⟩
      obtain ⟨v1, hv1⟩ : ∃ v1, (v + k) % W64 = v1 := ⟨_, rfl⟩
      simp only [hu1, hv1] at q1 q3 hA1
      have hv1l : Hid (v1 < W64) := Lib.hid (by rw [← hv1]; exact Nat.mod_lt _ (by decide))
      have hA2 := fun W => run_sub64_at (f' i) v1 b hkb.2 W
      obtain ⟨s, hs⟩ : ∃ s, sd64 (f' i) v1 b = s := ⟨_, rfl⟩
      obtain ⟨t, ht⟩ : ∃ t, sb64 (f' i) v1 b = t := ⟨_, rfl⟩
      simp only [hs, ht] at hA2
      have HMM := Lib.hid HM
      have Q1 := Lib.hid q1
      have Q3 := Lib.hid q3
      have HS := Lib.hid hs
      have HT := Lib.hid ht
      have b1 : u + u1 ≤ 18446744073709551615 := by unfold W64 at q1; omega
      clear hcell HM q1 q3 hu hv hu1 hv1 hs ht hkb
      go_wp2_with (go_at_call 106; refine (HMM.out _).mono ?_; rintro e w' ⟨rfl, rfl⟩)
      go_roundw
      case rel => exact ⟨u + u1, t, i + 1, _, _, by omega, congrArg (Value.int .u64) (by omega), rfl, by go_num, Lib.hid (by rw [← HS.out, ← HT.out]; exact hh.out.step (by omega) v1 (u + u1) Q3.out hv1l.out Q1.out)⟩
      case measure => simp [intOf]; omega
    · obtain rfl : i = n := by omega
      have hx := (Bk.cell hh.out.1.blk (off + i)).trans (hh.out.2.1 i (by omega))
      have hxf := Bk.frozen hh.out.1.blk (off + i)
      have hA2 := fun W => run_sub64_at (f' i) k b hh.out.2.2.2.2.2.2 W
      have hl := Lib.hid hh.out.last
      obtain ⟨s, hs⟩ : ∃ s, sd64 (f' i) k b = s := ⟨_, rfl⟩
      obtain ⟨t, ht⟩ : ∃ t, sb64 (f' i) k b = t := ⟨_, rfl⟩
      have HL : Hid (StEnd w (wr.setCell ⟨g, off + i, none⟩ (.int .u64 (s : Int))) g e cur off i f h F (.returned (.int .u64 (t : Int)))) := Lib.hid (by rw [← hs, ← ht]; exact hl.out)
      simp only [hs, ht] at hA2
      clear hs ht hl hlt
      go_wp2
      go_ret
      exact HL.out
end Go.Proofs.YtljbnnpmnoejeaaGreatDoor.nn
namespace Go.Proofs.YtljbnnpmnoejeaaGreatDoor.nn
open Go.RowKit

set_option maxHeartbeats 400000 in
theorem addInto64_any (g off n c : Nat) (e : TypeId) (cur : Array Value) (f : Nat → Nat) (B : Option Addr) (m d : Nat) (h : Nat → Nat) (w : World)
    (hb : Bk w g e cur) (hi : Ints cur .u64 off n f) (hB : Rd w .u64 B m h) (hne : ∀ b o, B = some ⟨b, o, none⟩ → 0 < m → b ≠ g) (hmn : m ≤ n) (lf : Lt (2 ^ 64) f n) (lh : Lt (2 ^ 64) h m) (hn : n ≤ maxLen) :
    Calls Tryz.prog 215 #[.slice (some ⟨g, off, none⟩) n c, .slice B m d] w fun e' w' => ∃ k : Nat, e' = .returned (.int .u64 (k : Int)) ∧ k ≤ 1 ∧ AddEnd .u64 (2 ^ 64) w w' g e cur off n f (sm (2 ^ 64) h m) k := by
  unfold maxLen at hn
  go_enter Tryz.func215, Tryz.ntmps215
  go_wp2
  go_loopw [5, 13] (fun s5 s13 wr => ∃ (k i : Nat) (f' : Nat → Nat) (cur' : Array Value), k ≤ 1 ∧ i ≤ m ∧ s5 = .int .u64 (k : Int) ∧ s13 = .int .i64 i ∧ AddRel .u64 (2 ^ 64) w wr g e cur off n f h f' cur' k i i) (fun _ s13 _ => m - (intOf s13).toNat)
  case atStart => exact ⟨0, 0, f, cur, by omega, by omega, rfl, rfl, Wrote.refl hb off n, hi, lf, fun _ _ _ => rfl, by simp [sm]⟩
  case round =>
    obtain ⟨k, i, f', cur', hk, him, rfl, rfl, hh⟩ := hrel
    by_cases hlt : i < m
    · have hx := (Bk.cell hh.1.blk (off + i)).trans (hh.2.1 i (by omega))
      have hxf := Bk.frozen hh.1.blk (off + i)
      obtain ⟨b, o, rfl, _, hcell⟩ := (hB.wrote hh.1 hne) (by omega)
      have hy := hcell i hlt
      have bx := hh.2.2.1 i (by omega)
      have by_ := lh i hlt
      clear hcell
      go_wp2
      all_goals
        go_roundw
        case rel =>
          first
            | exact ⟨1, i + 1, _, _, by omega, by omega, by go_num, by go_num, hh.step (by (try simp only [IntKind.wrap_u64] at *); omega) 1 ((f' i + h i + k) % 18446744073709551616) (by (try simp only [IntKind.wrap_u64] at *); omega) (by (try simp only [IntKind.wrap_u64] at *); omega) (by (try simp only [IntKind.wrap_u64] at *); omega)⟩
            | exact ⟨0, i + 1, _, _, by omega, by omega, by go_num, by go_num, hh.step (by (try simp only [IntKind.wrap_u64] at *); omega) 0 ((f' i + h i + k) % 18446744073709551616) (by (try simp only [IntKind.wrap_u64] at *); omega) (by (try simp only [IntKind.wrap_u64] at *); omega) (by (try simp only [IntKind.wrap_u64] at *); omega)⟩
        case measure => simp [intOf]; omega
    · obtain rfl : i = m := by omega
      clear hlt
      go_wp2
      go_loopw [5, 10] (fun s5 s10 wr => ∃ (k i' : Nat) (f' : Nat → Nat) (cur' : Array Value), k ≤ 1 ∧ i' ≤ n ∧ s5 = .int .u64 (k : Int) ∧ s10 = .int .i64 i' ∧ AddRel .u64 (2 ^ 64) w wr g e cur off n f h f' cur' k i' i) (fun _ s10 _ => n - (intOf s10).toNat)
      case atStart => exact ⟨k, i, f', cur', hk, hmn, rfl, rfl, hh⟩
      case round =>
        clear hh
        obtain ⟨k, i', f', cur', hk, him, rfl, rfl, hh⟩ := hrel
        by_cases hlt : i' < n
        · have hx := (Bk.cell hh.1.blk (off + i')).trans (hh.2.1 i' (by omega))
          have hxf := Bk.frozen hh.1.blk (off + i')
          have bx := hh.2.2.1 i' (by omega)
          rcases (by omega : k = 0 ∨ k = 1) with rfl | rfl
          · go_wp2
            go_ret
            exact ⟨0, rfl, by omega, hh.done him (.inr rfl)⟩
          · go_wp2
            · have hb : (IntKind.u64.wrap ((f' i' : Int) + 1) != 0) = true := by assumption
              have hz := bne_iff_ne.1 hb
              go_roundw
              case rel => exact ⟨0, i' + 1, _, _, by omega, by omega, rfl, by go_num, hh.more hlt 0 ((f' i' + 1) % 18446744073709551616) (by (try simp only [IntKind.wrap_u64] at *); omega) (by (try simp only [IntKind.wrap_u64] at *); omega) (by (try simp only [IntKind.wrap_u64] at *); omega)⟩
              case measure => simp [intOf]; omega
            · have hb : (IntKind.u64.wrap ((f' i' : Int) + 1) != 0) = false := by assumption
              have hz : IntKind.u64.wrap ((f' i' : Int) + 1) = 0 := by rw [bne_eq_false_iff_eq] at hb; exact hb
              go_roundw
              case rel => exact ⟨1, i' + 1, _, _, by omega, by omega, rfl, by go_num, hh.more hlt 1 ((f' i' + 1) % 18446744073709551616) (by (try simp only [IntKind.wrap_u64] at *); omega) (by (try simp only [IntKind.wrap_u64] at *); omega) (by (try simp only [IntKind.wrap_u64] at *); omega)⟩
              case measure => simp [intOf]; omega
        · obtain rfl : i' = n := by omega
          go_wp2
          go_ret
          exact ⟨k, rfl, hk, hh.done him (.inl rfl)⟩
end Go.Proofs.YtljbnnpmnoejeaaGreatDoor.nn
namespace Go.Proofs.YtljbnnpmnoejeaaGreatDoor.nn
open Go.RowKit

/-- behind takeOut -/
def TakeEnd (w w' : World) (g : Nat) (e : TypeId) (cur : Array Value) (off n : Nat) (A D : Nat) (e' : Ending) : Prop :=
  ∃ (f' : Nat → Nat) (cur' : Array Value), e' = .returned (.int .u64 ((A / D : Nat) : Int)) ∧ Wrote w w' g e cur cur' off (n + 1) ∧ Ints cur' .u64 off (n + 1) f' ∧ Lt W64 f' (n + 1) ∧ sm W64 f' (n + 1) = A % D

theorem take_none {A D t S : Nat} (hD : 0 < D) (h1 : A / D ≤ t) (hs : S + t * D = A) : t = A / D ∧ S = A % D := by
  have h2 : t ≤ A / D := (Nat.le_div_iff_mul_le hD).2 (by omega)
  have h3 : t = A / D := by omega
  have h4 := Nat.div_add_mod A D
  rw [← h3, Nat.mul_comm] at h4
  exact ⟨h3, by omega⟩

theorem take_back {A D t S S2 c P : Nat} (hD : 0 < D) (h2 : t ≤ A / D + 1) (hs : S + t * D = A + P) (hS : S < P) (_hP : D < P) (hb : S2 + c * P = S + D) (hS2 : S2 < P) (hc : c ≤ 1) : 1 ≤ t ∧ t - 1 = A / D ∧ S2 = A % D := by
  have h3 : ¬ t ≤ A / D := fun h => by
    have := (Nat.le_div_iff_mul_le hD).1 h
    omega
  have h4 : t = A / D + 1 := by omega
  have h5 := Nat.div_add_mod A D
  have h6 := Nat.mod_lt A hD
  rw [Nat.mul_comm] at h5
  rw [h4, Nat.add_mul, Nat.one_mul] at hs
  generalize A / D = q at *
  generalize A % D = r at *
  refine ⟨by omega, by omega, ?_⟩
  rcases (by omega : c = 0 ∨ c = 1) with rfl | rfl
  · omega
  · omega

set_option maxRecDepth 100000 in
set_option maxHeartbeats 1000000 in
theorem takeOut_any (g off n c : Nat) (e : TypeId) (cur : Array Value) (f : Nat → Nat) (B : Option Addr) (d : Nat) (h : Nat → Nat) (w : World)
    (hb : Bk w g e cur) (hi : Ints cur .u64 off (n + 1) f) (hB : Rd w .u64 B n h) (hne : ∀ b o, B = some ⟨b, o, none⟩ → 0 < n → b ≠ g) (lf : Lt W64 f (n + 1)) (lh : Lt W64 h n) (hn2 : 2 ≤ n) (hn : n + 1 ≤ maxLen)
    (htop : W64 ≤ 2 * h (n - 1)) (hlt : sm W64 f (n + 1) < sm W64 h n * W64) :
    Calls Tryz.prog 208 #[.slice (some ⟨g, off, none⟩) (n + 1 : Nat) c, .slice B n d] w fun e' w' => TakeEnd w w' g e cur off n (sm W64 f (n + 1)) (sm W64 h n) e' := by
  have HNE := Lib.hid hne
  have LF := Lib.hid lf
  have LH := Lib.hid lh
  have HN2 := Lib.hid (And.intro hn2 hn)
  have hg := guess_any (some ⟨g, off, none⟩) B n c d f h w (hi.rd hb) hB lf lh hn2 hn (by unfold W64 at htop; omega)
  have hw64 : 0 < W64 := by decide
  have hr := guess_right (B := W64) (P := W64 ^ (n - 2)) (x2 := f n) (x1 := f (n - 1)) (x0 := f (n - 2)) (y1 := h (n - 1)) (y0 := h (n - 2)) (a := sm W64 f (n - 2)) (b := sm W64 h (n - 2)) (A := sm W64 f (n + 1)) (D := sm W64 h n)
    (by
      obtain ⟨m, rfl⟩ : ∃ m, n = m + 2 := ⟨n - 2, by omega⟩
      have e1 : sm W64 f (m + 2 + 1) = sm W64 f m + f m * W64 ^ m + f (m + 1) * W64 ^ (m + 1) + f (m + 2) * W64 ^ (m + 2) := rfl
      rw [e1, show m + 2 - 2 = m from rfl, show m + 2 - 1 = m + 1 from rfl, Nat.pow_succ W64 (m + 1), Nat.pow_succ W64 m]
      simp only [Nat.add_mul]
      have a1 : f (m + 1) * (W64 ^ m * W64) = f (m + 1) * W64 * W64 ^ m := by ac_rfl
      have a2 : f (m + 2) * (W64 ^ m * W64 * W64) = f (m + 2) * W64 * W64 * W64 ^ m := by ac_rfl
      rw [a1, a2]
      omega)
    (by
      obtain ⟨m, rfl⟩ : ∃ m, n = m + 2 := ⟨n - 2, by omega⟩
      have e1 : sm W64 h (m + 2) = sm W64 h m + h m * W64 ^ m + h (m + 1) * W64 ^ (m + 1) := rfl
      rw [e1, show m + 2 - 2 = m from rfl, show m + 2 - 1 = m + 1 from rfl, Nat.pow_succ W64 m]
      simp only [Nat.add_mul]
      have a1 : h (m + 1) * (W64 ^ m * W64) = h (m + 1) * W64 * W64 ^ m := by ac_rfl
      rw [a1]
      omega)
    (sm_lt (lf.mono (by omega))) (sm_lt (lh.mono (by omega))) (lf _ (by omega)) (lf _ (by omega)) (lh _ (by omega)) htop (lh _ (by omega)) hlt (by decide)
  obtain ⟨t, ht⟩ : ∃ t, gs W64 (f n) (f (n - 1)) (f (n - 2)) (h (n - 1)) (h (n - 2)) = t := ⟨_, rfl⟩
  rw [ht] at hr hg
  have HG := Lib.hid hg
  have HR := Lib.hid hr
  have hD0 : Hid (0 < sm W64 h n) := Lib.hid (by
    rcases Nat.eq_zero_or_pos (sm W64 h n) with h0 | h0
    · rw [h0] at hlt; omega
    · exact h0)
  have hDP : Hid (sm W64 h n < W64 ^ (n + 1)) := Lib.hid (Nat.lt_of_lt_of_le (sm_lt lh) (Nat.pow_le_pow_right hw64 (by omega)))
  have b1 : t ≤ 18446744073709551615 := by have := hr.2.2; unfold W64 at this; omega
  clear hg hr ht hne lf lh hw64 htop hlt hn2 hn
  have hw0 := Wrote.refl hb off (n + 1)
  go_enter Tryz.func208, Tryz.ntmps208
  go_wp2_with fail
  refine HG.out.mono ?_
  rintro e' w1 ⟨rfl, j, rfl⟩
  go_wp2_with fail
  refine (subTimes_any g off n c e cur f B d h t _ (hb.drewN j) hi (hB.drewN j) HNE.out LF.out LH.out HR.out.2.2 HN2.out.2).mono ?_
  rintro e' w2 ⟨b, f1, cur1, rfl, hb1, hw1, hi1, l1, v1⟩
  have hw01 := (hw0.drewN j).trans hw1
  have HB2 := (hB.drewN j).wrote hw1 HNE.out
  have HV := Lib.hid v1
  have HS := Lib.hid (sm_lt l1)
  have HI := Lib.hid hi1
  have HL := Lib.hid l1
  have HW := Lib.hid hw01
  have HBK := Lib.hid hw1.blk
  clear hi1 l1 v1 hw01 hw1 hw0 hb hi
  rcases (by omega : b = 0 ∨ b = 1) with rfl | rfl
  · have hv := HV.out
    rw [Nat.zero_mul, Nat.add_zero] at hv
    have HT := Lib.hid (take_none hD0.out HR.out.1 hv)
    clear hv
    go_wp2
    go_ret
    rw [HT.out.1] at *
    exact ⟨f1, cur1, rfl, HW.out, HI.out, HL.out, HT.out.2⟩
  · go_wp2_with fail
    refine (addInto64_any g off (n + 1) c e cur1 f1 B n d h w2 HBK.out HI.out HB2 HNE.out (by omega) HL.out LH.out HN2.out.2).mono ?_
    rintro e' w3 ⟨k, rfl, hk, f2, cur2, hw2, hi2, l2, v2⟩
    have HT := Lib.hid (take_back hD0.out HR.out.2.1 (by have := HV.out; rwa [Nat.one_mul] at this) HS.out hDP.out v2 (sm_lt l2) hk)
    have HW2 := Lib.hid (HW.out.trans hw2)
    have HI2 := Lib.hid hi2
    have HL2 := Lib.hid l2
    have bt : 1 ≤ t := HT.out.1
    clear hw2 hi2 l2 v2 hk
    go_wp2
    go_ret
    exact ⟨f2, cur2, by rw [← HT.out.2.1]; exact congrArg (fun z => Ending.returned (Value.int .u64 z)) (by omega), HW2.out, HI2.out, HL2.out, HT.out.2.2⟩
end Go.Proofs.YtljbnnpmnoejeaaGreatDoor.nn
namespace Go.Proofs.YtljbnnpmnoejeaaGreatDoor.nn
open Go.RowKit

/-- wide limbs: the slice at A of length n reads as the trimmed number R -/
structure Num64 (w : World) (A : Option Addr) (n c : Nat) (f : Nat → Nat) (R : Nat) : Prop where
  le : n ≤ c
  cap : c ≤ maxLen
  rd : Rd w .u64 A n f
  lt : Lt (2 ^ 64) f n
  trm : Trm f n
  val : sm (2 ^ 64) f n = R
/-- an answer of wide limbs -/
def One64 (w w' : World) (e : Ending) (R N : Nat) : Prop :=
  ∃ A n c f, e = .returned (.slice A n c) ∧ Num64 w' A n c f R ∧ n ≤ N ∧ Below w.heap.size w w'
theorem num64_nil (w : World) : Num64 w none 0 0 (fun _ => 0) 0 := ⟨Nat.le_refl _, by simp [maxLen], Rd.none_, fun _ h => absurd h (by omega), .inl rfl, rfl⟩

theorem bitLen_max64 : Lib.bitLen 18446744073709551615 = 64 := by decide +kernel

set_option maxRecDepth 100000 in
set_option maxHeartbeats 400000 in
theorem width64 (w : World) : Calls Tryz.prog 212 #[] w fun e w' => e = .returned (.int .i64 64) ∧ w = w' := by
  have h := (Go.Proofs.Tryz.bits_Len64 18446744073709551615 w (by decide) (by decide)).mono (R' := fun e w' => e = .returned (.int .i64 64) ∧ w = w') (by
    rintro e w' ⟨rfl, rfl⟩
    exact ⟨by rw [show (18446744073709551615 : Int).toNat = 18446744073709551615 from rfl, bitLen_max64]; rfl, rfl⟩)
  have H := Lib.hid h
  clear h
  go_enter Tryz.func212, Tryz.ntmps212
  go_wp2_with (go_at_call 163; refine H.out.mono ?_; rintro e w' ⟨rfl, rfl⟩)
  go_ret
  exact ⟨rfl, rfl⟩

/-- what holds when i limbs are shifted -/
def UpRel64 (w wr : World) (g : Nat) (e : TypeId) (cur : Array Value) (N q r s : Nat) (f : Nat → Nat) (i : Nat) : Prop :=
  ∃ (f' : Nat → Nat) (cur' : Array Value), Wrote w wr g e cur cur' 0 N ∧ Ints cur' .u64 0 N f' ∧ Lt (2 ^ 64) f' N ∧ sm (2 ^ 64) f' (q + i + 1) = sm (2 ^ 64) f i * 2 ^ s ∧ f' (q + i) < 2 ^ r

theorem up64_step {w wr : World} {g : Nat} {e : TypeId} {cur cur' : Array Value} {n q r s i : Nat} {f f' : Nat → Nat} (hw : Wrote w wr g e cur cur' 0 (q + n + 1)) (hin : Ints cur' .u64 0 (q + n + 1) f') (lf' : Lt (2 ^ 64) f' (q + n + 1))
    (hv : sm (2 ^ 64) f' (q + i + 1) = sm (2 ^ 64) f i * 2 ^ s) (hlow : f' (q + i) < 2 ^ r) (hi : i < n) (bx : f i < 2 ^ 64) (hr : r < 64) (hs : s = 64 * q + r) :
    UpRel64 w ((wr.setCell ⟨g, q + i, none⟩ (.int .u64 (bits BinOp.or IntKind.u64 (f' (q + i) : Int) (IntKind.u64.wrap ((f i : Int) * 2 ^ r))))).setCell ⟨g, q + i + 1, none⟩ (.int .u64 ((f i : Int) / 2 ^ (64 - r)))).drew g e cur (q + n + 1) q r s f (i + 1) := by
  obtain ⟨p1, p2, p3, p4⟩ := shl_parts 64 r (f i) (f' (q + i)) (by omega) bx hlow
  have b0 := lf' (q + i) (by omega)
  have x1 : f i * 2 ^ r % 18446744073709551616 < 18446744073709551616 := Nat.mod_lt _ (by decide)
  have c1 : IntKind.u64.wrap ((f i : Int) * 2 ^ r) = ((f i * 2 ^ r % 18446744073709551616 : Nat) : Int) := by rw [IntKind.wrap_u64]; simp
  have c2 : (f i : Int) / 2 ^ (64 - r) = ((f i / 2 ^ (64 - r) : Nat) : Int) := by simp
  have c3 : bits BinOp.or IntKind.u64 (f' (q + i) : Int) (IntKind.u64.wrap ((f i : Int) * 2 ^ r)) = ((f' (q + i) + f i * 2 ^ r % 2 ^ 64 : Nat) : Int) := by
    rw [c1, u64_or_nat _ _ b0 x1]
    exact congrArg _ p1
  have hp : (2 : Nat) ^ r ≤ 2 ^ 64 := Nat.pow_le_pow_right (by decide) (by omega)
  rw [c3, c2]
  have h1 := (hw.set_ (q + i) (by omega) (.int .u64 ((f' (q + i) + f i * 2 ^ r % 2 ^ 64 : Nat) : Int))).set_ (q + i + 1) (by omega) (.int .u64 ((f i / 2 ^ (64 - r) : Nat) : Int))
  have h2 := (hin.set_ (q + i) (f' (q + i) + f i * 2 ^ r % 2 ^ 64) (by omega)).set_ (q + i + 1) (f i / 2 ^ (64 - r)) (by omega)
  simp only [Nat.zero_add] at h1 h2
  refine ⟨_, _, h1.drewN 1, h2, (lf'.upd p2).upd (Nat.lt_of_lt_of_le p3 hp), ?_, by rw [← Nat.add_assoc, upd_at]; exact p3⟩
  rw [hs] at hv ⊢
  exact up_val 64 hv rfl p4

set_option maxRecDepth 100000 in
set_option maxHeartbeats 1000000 in
theorem shiftUp64_any (A : Option Addr) (n c s q r : Nat) (f : Nat → Nat) (w : World) (hA : Rd w .u64 A n f) (lf : Lt (2 ^ 64) f n) (hs : s = 64 * q + r) (hr : r < 64) (hq : q + n + 1 ≤ 1000000) :
    Calls Tryz.prog 207 #[.slice A n c, .int .i64 s] w fun e w' => One64 w w' e (sm (2 ^ 64) f n * 2 ^ s) 1000000 := by
  obtain ⟨i0, hi, hz0, hz1, hz2⟩ := info_parts info_u64
  have e1 : (s : Int) / 64 = (q : Int) := by omega
  have e2 : (s : Int) % 64 = (r : Int) := by omega
  have HS := Lib.hid hs
  clear hs
  have bs : s ≤ 100000000 := by have := HS.out; omega
  go_enter Tryz.func207, Tryz.ntmps207
  go_wp2_with (go_at_call 212; refine (width64 _).mono ?_; rintro e w' ⟨rfl, rfl⟩)
  go_quiet (fail)
  clear e1 e2
  go_wp2_with (refine wpList_make_full _ rfl _ _ 95 rfl w.heap.size 22 i0 _ 1 Tryz.underlying95 hi hz0 hz1 .i64 .i64 _ _ (q + n + 1) rfl rfl ?c1 ?c2 ?c3 ?c4 ?c5 ?_; rotate_left 5; intro w1 hown1 hg1)
  case c1 => omega
  case c2 => omega
  case c3 => rw [hz2]; omega
  case c4 => unfold maxLen; omega
  case c5 => simp
  rw [show (s : Int) % 64 = (r : Int) from by have := HS.out; omega]
  rw [made_vl64] at hown1
  obtain ⟨cur, hbk, hint, _, _, _, _, hfin⟩ := own_wrote hown1
  have HF := Lib.hid hfin
  have hbw1 : Below w.heap.size w w1 := (drew_below (Below.refl w.heap.size w) _).grown (row := none) hg1 (Nat.le_refl _) (fun k hk => by cases hk)
  have hA1 := hA.below hbw1
  have hsz1 : w.heap.size + 0 ≤ w1.heap.size := hbw1.size
  have hp0 : 0 < 2 ^ r := Nat.two_pow_pos r
  clear hfin hown1
  go_loopw [26] (fun s26 wr => ∃ i : Nat, i ≤ n ∧ s26 = .int .i64 i ∧ UpRel64 w1 wr w.heap.size 22 cur (q + n + 1) q r s f i) (fun s26 _ => n - (intOf s26).toNat)
  case atStart => exact ⟨0, Nat.zero_le _, rfl, fun _ => 0, cur, Wrote.refl hbk 0 _, hint, fun _ _ => Nat.two_pow_pos 64, by rw [zero_sm]; simp [sm], hp0⟩
  case round =>
    obtain ⟨i, hi', rfl, f', cur', hw, hin, lf', hv, hlow⟩ := hrel
    by_cases hlt : i < n
    · obtain ⟨b, off, rfl, _, hcell⟩ := (hA1.wrote hw (fun b o e h0 => by have := hA.lt e h0; omega)) (by omega)
      have hx := hcell i hlt
      have bx := lf i hlt
      have hc1 := (Bk.cell hw.blk (0 + (q + i))).trans (hin (q + i) (by omega))
      have hc2 := (Bk.cell hw.blk (0 + (q + i + 1))).trans (hin (q + i + 1) (by omega))
      have hf1 := Bk.frozen hw.blk (0 + (q + i))
      have hf2 := Bk.frozen hw.blk (0 + (q + i + 1))
      have b1 := lf' (q + i) (by omega)
      rw [Nat.zero_add] at hc1 hc2 hf1 hf2
      have HV := Lib.hid (And.intro hv hlow)
      clear hcell hv hlow
      go_wp2_with fail
      have k1 : IntKind.i64.wrap ((q : Int) + (i : Int)) = (q : Int) + (i : Int) := IntWalk.i64_in _ (by omega)
      have k2 : 0 ≤ (q : Int) + (i : Int) := by omega
      have k3 : ((q : Int) + (i : Int)).toNat = q + i := by omega
      have k4 : (q : Int) + (i : Int) < ((q + n + 1 : Nat) : Int) := by omega
      go_region_with (fail)
      clear k1 k3
      go_wp2
      go_roundw
      case rel => exact ⟨i + 1, by omega, by go_num, up64_step hw hin lf' HV.out.1 HV.out.2 hlt bx hr HS.out⟩
      case measure => simp [intOf]; omega
    · obtain rfl : i = n := by omega
      have ho := HF.out _ cur' f' hw hin
      have hbw2 := hbw1.grown hw.grown hbw1.size (fun k hk => by injection hk with hk; exact Nat.le_of_eq hk)
      obtain ⟨A2, c2, e2, hc2, hm2, hr2⟩ := Rd.of_own ho
      injection e2 with e2 _ e3
      subst e2
      subst e3
      have hle := tr_le f' (q + i + 1)
      have hN : Num64 _ (some ⟨w.heap.size, 0, none⟩) (tr f' (q + i + 1)) (q + i + 1) f' (sm (2 ^ 64) f i * 2 ^ s) := ⟨hle, hm2, hr2.mono hle, lf'.mono hle, tr_trm _ _, by rw [sm_tr]; exact hv⟩
      have HN := Lib.hid hN
      have HT := Lib.hid (trim64_any _ _ _ f' _ hr2 hc2 hm2)
      clear hN hv hlow ho hm2
      go_wp2_with (go_at_call 135; refine HT.out.mono ?_; rintro e w' ⟨rfl, rfl⟩)
      go_ret
      exact ⟨_, _, _, f', rfl, HN.out, by omega, hbw2⟩
end Go.Proofs.YtljbnnpmnoejeaaGreatDoor.nn
namespace Go.Proofs.YtljbnnpmnoejeaaGreatDoor.nn
open Go.RowKit

/-- what holds when i limbs are shifted -/
def DownRel64 (w wr : World) (g : Nat) (e : TypeId) (cur : Array Value) (N r : Nat) (F : Nat → Nat) (i : Nat) : Prop :=
  ∃ (f' : Nat → Nat) (cur' : Array Value), Wrote w wr g e cur cur' 0 N ∧ Ints cur' .u64 0 N f' ∧ Lt (2 ^ 64) f' N ∧ sm (2 ^ 64) f' i * 2 ^ r + F 0 % 2 ^ r = sm (2 ^ 64) F i + F i % 2 ^ r * (2 ^ 64) ^ i

theorem down64_step {w wr : World} {g : Nat} {e : TypeId} {cur cur' : Array Value} {L r i x y : Nat} {F f' : Nat → Nat} (hw : Wrote w wr g e cur cur' 0 L) (hin : Ints cur' .u64 0 L f') (lf' : Lt (2 ^ 64) f' L)
    (hv : sm (2 ^ 64) f' i * 2 ^ r + F 0 % 2 ^ r = sm (2 ^ 64) F i + F i % 2 ^ r * (2 ^ 64) ^ i) (hi : i < L) (ex : F i = x) (ey : F (i + 1) = y) (bx : x < 2 ^ 64) (hr : r < 64) :
    DownRel64 w ((wr.setCell ⟨g, i, none⟩ (.int .u64 ((x : Int) / 2 ^ r))).setCell ⟨g, i, none⟩ (.int .u64 (bits BinOp.or IntKind.u64 ((x : Int) / 2 ^ r) (IntKind.u64.wrap ((y : Int) * 2 ^ (64 - r)))))).drew g e cur L r F (i + 1) := by
  obtain ⟨p1, p2, p3⟩ := shr_parts 64 r x y (by omega) bx
  have hr0 := Nat.two_pow_pos r
  have b0 : x / 2 ^ r < 18446744073709551616 := Nat.lt_of_le_of_lt (Nat.div_le_self _ _) bx
  have x1 : y * 2 ^ (64 - r) % 18446744073709551616 < 18446744073709551616 := Nat.mod_lt _ (by decide)
  have c1 : IntKind.u64.wrap ((y : Int) * 2 ^ (64 - r)) = ((y * 2 ^ (64 - r) % 18446744073709551616 : Nat) : Int) := by rw [IntKind.wrap_u64]; simp
  have c2 : (x : Int) / 2 ^ r = ((x / 2 ^ r : Nat) : Int) := by simp
  have c3 : bits BinOp.or IntKind.u64 ((x : Int) / 2 ^ r) (IntKind.u64.wrap ((y : Int) * 2 ^ (64 - r))) = ((x / 2 ^ r + y % 2 ^ r * 2 ^ (64 - r) : Nat) : Int) := by
    rw [c1, c2, u64_or_nat _ _ b0 x1]
    exact congrArg _ p1
  rw [c3, c2]
  have h1 := (hw.set_ i hi (.int .u64 ((x / 2 ^ r : Nat) : Int))).set_ i hi (.int .u64 ((x / 2 ^ r + y % 2 ^ r * 2 ^ (64 - r) : Nat) : Int))
  have h2 := (hin.set_ i (x / 2 ^ r) hi).set_ i (x / 2 ^ r + y % 2 ^ r * 2 ^ (64 - r)) hi
  simp only [Nat.zero_add] at h1 h2
  refine ⟨_, _, h1.drewN 1, h2, (lf'.upd b0).upd p2, ?_⟩
  subst ex
  subst ey
  exact down_val 64 (by rw [sm_upd_out _ _ _ (Nat.le_refl i)]; exact hv) p3

theorem down64_last {w wr : World} {g : Nat} {e : TypeId} {cur cur' : Array Value} {L r i x : Nat} {F f' : Nat → Nat} (hw : Wrote w wr g e cur cur' 0 L) (hin : Ints cur' .u64 0 L f') (lf' : Lt (2 ^ 64) f' L)
    (hv : sm (2 ^ 64) f' i * 2 ^ r + F 0 % 2 ^ r = sm (2 ^ 64) F i + F i % 2 ^ r * (2 ^ 64) ^ i) (hi : i < L) (ex : F i = x) (ey : F (i + 1) = 0) (bx : x < 2 ^ 64) (hr : r < 64) :
    DownRel64 w (wr.setCell ⟨g, i, none⟩ (.int .u64 ((x : Int) / 2 ^ r))) g e cur L r F (i + 1) := by
  obtain ⟨_, _, p3⟩ := shr_parts 64 r x 0 (by omega) bx
  have b0 : x / 2 ^ r < 18446744073709551616 := Nat.lt_of_le_of_lt (Nat.div_le_self _ _) bx
  have c2 : (x : Int) / 2 ^ r = ((x / 2 ^ r : Nat) : Int) := by simp
  rw [c2]
  have h1 := hw.set_ i hi (.int .u64 ((x / 2 ^ r : Nat) : Int))
  have h2 := hin.set_ i (x / 2 ^ r) hi
  simp only [Nat.zero_add] at h1 h2
  refine ⟨_, _, h1, h2, lf'.upd b0, ?_⟩
  subst ex
  refine down_val 64 hv ?_
  rw [ey]
  simpa using p3

set_option maxRecDepth 100000 in
set_option maxHeartbeats 1000000 in
theorem shiftDown64_none (A : Option Addr) (n c s q r : Nat) (f : Nat → Nat) (w : World) (lf : Lt (2 ^ 64) f n) (hs : s = 64 * q + r) (hr : r < 64) (hq : n ≤ q) (hb : s ≤ 9223372036854775807) :
    Calls Tryz.prog 209 #[.slice A n c, .int .i64 s] w fun e w' => One64 w w' e (sm (2 ^ 64) f n / 2 ^ s) n := by
  have e1 : (s : Int) / 64 = (q : Int) := by omega
  have HS := Lib.hid hs
  have H0 := Lib.hid (down_none 64 (r := r) lf hq)
  clear hs
  go_enter Tryz.func209, Tryz.ntmps209
  go_wp2_with (go_at_call 212; refine (width64 _).mono ?_; rintro e w' ⟨rfl, rfl⟩)
  go_quiet (fail)
  go_wp2
  go_ret
  have h := H0.out
  rw [← HS.out] at h
  rw [h]
  exact ⟨none, 0, 0, _, rfl, num64_nil _, by omega, drew_below (Below.refl _ _) _⟩

set_option maxRecDepth 100000 in
set_option maxHeartbeats 1000000 in
theorem shiftDown64_some (A : Option Addr) (n c s q r : Nat) (f : Nat → Nat) (w : World) (hA : Rd w .u64 A n f) (lf : Lt (2 ^ 64) f n) (hs : s = 64 * q + r) (hr : r < 64) (hq : q < n) (hn : n ≤ c) (_hcm : c ≤ maxLen) (hreach : n * 8 ≤ 140737488355328) :
    Calls Tryz.prog 209 #[.slice A n c, .int .i64 s] w fun e w' => One64 w w' e (sm (2 ^ 64) f n / 2 ^ s) n := by
  obtain ⟨i0, hi, hz0, hz1, hz2⟩ := info_parts info_u64
  have e1 : (s : Int) / 64 = (q : Int) := by omega
  have HS := Lib.hid hs
  have bs : s ≤ 9223372036854775807 := by omega
  clear hs
  unfold maxLen at _hcm
  obtain ⟨L, hL⟩ : ∃ L, n = q + L := ⟨n - q, by omega⟩
  have hF : ∀ i, i < L → pad (fun j => f (q + j)) L i = f (q + i) := fun i hi => by simp [pad, hi]
  have HE := Lib.hid (fun f' => down_end 64 (r := r) (f := f) (F := pad (fun j => f (q + j)) L) (f' := f') (q := q) (L := L) (by rw [← hL]; exact lf) hF (by simp [pad]))
  have HFF := Lib.hid hF
  obtain ⟨b, off, rfl, hbl, hcell⟩ := hA (by omega)
  have hrd : Rd w .u64 (some ⟨b, off + q, none⟩) L (fun j => f (q + j)) := fun _ => ⟨b, off + q, rfl, hbl, fun i hi => by rw [Nat.add_assoc]; exact hcell (q + i) (by omega)⟩
  have hlF : Lt (2 ^ 64) (fun j => f (q + j)) L := fun i hi => lf (q + i) (by omega)
  subst hL
  have e3 : q + L - q = L := by omega
  clear hcell hA lf hF
  go_enter Tryz.func209, Tryz.ntmps209
  go_wp2_with (go_at_call 212; refine (width64 _).mono ?_; rintro e w' ⟨rfl, rfl⟩)
  go_quiet (fail)
  clear e1
  go_wp2_with (refine wpList_make_full _ rfl _ _ 95 rfl w.heap.size 22 i0 _ 1 Tryz.underlying95 hi hz0 hz1 .i64 .i64 _ _ L rfl rfl ?c1 ?c2 ?c3 ?c4 ?c5 ?_; rotate_left 5; intro w1 hown1 hg1)
  case c1 => rfl
  case c2 => rfl
  case c3 => rw [hz2]; omega
  case c4 => unfold maxLen; omega
  case c5 => simp
  rw [show (s : Int) % 64 = (r : Int) from by have := HS.out; omega]
  rw [made_vl64] at hown1
  obtain ⟨cur, hbk, hint, _, _, _, _, hfin⟩ := own_wrote hown1
  have HF := Lib.hid hfin
  have hbw1 : Below w.heap.size w w1 := (drew_below (Below.refl w.heap.size w) _).grown (row := none) hg1 (Nat.le_refl _) (fun k hk => by cases hk)
  have hA1 := hrd.below hbw1
  have hne : ∀ b' o', some (⟨b, off + q, none⟩ : Addr) = some ⟨b', o', none⟩ → 0 < L → b' ≠ w.heap.size := fun b' o' e h0 => by
    injection e with e
    injection e with e
    omega
  have HN := Lib.hid hne
  clear hfin hown1 hne hrd
  go_loopw [29] (fun s29 wr => ∃ i : Nat, i ≤ L ∧ s29 = .int .i64 i ∧ DownRel64 w1 wr w.heap.size 22 cur L r (pad (fun j => f (q + j)) L) i) (fun s29 _ => L - (intOf s29).toNat)
  case atStart => exact ⟨0, Nat.zero_le _, rfl, fun _ => 0, cur, Wrote.refl hbk 0 _, hint, fun _ _ => Nat.two_pow_pos 64, by simp [sm]⟩
  case round =>
    obtain ⟨i, hi', rfl, f', cur', hw, hin, lf', hv⟩ := hrel
    by_cases hlt : i < L
    · obtain ⟨b', off', e, _, hcell⟩ := (hA1.wrote hw HN.out) (by omega)
      injection e with e
      injection e with e4 e5
      subst e4
      subst e5
      have hx := hcell i hlt
      have bx := hlF i hlt
      have hc1 := (Bk.cell hw.blk (0 + i)).trans (hin i (by omega))
      have hf1 := Bk.frozen hw.blk (0 + i)
      rw [Nat.zero_add] at hc1 hf1
      have HV := Lib.hid hv
      by_cases hl2 : i + 1 < L
      · have hy := hcell (i + 1) hl2
        have by_ := hlF (i + 1) hl2
        clear hcell hv
        go_wp2_with fail
        have k1 : IntKind.i64.wrap ((i : Int) + 1) = (i : Int) + 1 := IntWalk.i64_in _ (by omega)
        have k2 : 0 ≤ (i : Int) + 1 := by omega
        have k3 : ((i : Int) + 1).toNat = i + 1 := by omega
        have k4 : (i : Int) + 1 < (L : Int) := by omega
        have k5 : IntKind.i64.wrap (64 - (r : Int)) = 64 - (r : Int) := IntWalk.i64_in _ (by omega)
        have k6 : 0 ≤ 64 - (r : Int) := by omega
        go_region_with (fail)
        clear k1 k3 k5
        all_goals
          go_wp2
          go_roundw
          case rel => exact ⟨i + 1, by omega, by go_num, down64_step hw hin lf' HV.out hlt (HFF.out i hlt) (HFF.out (i + 1) hl2) bx hr⟩
          case measure => simp [intOf]; omega
      · clear hcell hv
        go_wp2
        go_roundw
        case rel => exact ⟨i + 1, by omega, by go_num, down64_last hw hin lf' HV.out hlt (HFF.out i hlt) (by simp only [pad]; rw [if_neg (by omega)]) bx hr⟩
        case measure => simp [intOf]; omega
    · obtain rfl : i = L := by omega
      have ho := HF.out _ cur' f' hw hin
      have hbw2 := hbw1.grown hw.grown hbw1.size (fun k hk => by injection hk with hk; exact Nat.le_of_eq hk)
      obtain ⟨A2, c2, e2, hc2, hm2, hr2⟩ := Rd.of_own ho
      injection e2 with e2 _ e6
      subst e2
      subst e6
      have hle := tr_le f' i
      have he := HE.out f' hv
      rw [← HS.out] at he
      have hN : Num64 _ (some ⟨w.heap.size, 0, none⟩) (tr f' i) i f' (sm (2 ^ 64) f (q + i) / 2 ^ s) := ⟨hle, hm2, hr2.mono hle, lf'.mono hle, tr_trm _ _, by rw [sm_tr]; exact he⟩
      have HN2 := Lib.hid hN
      have HT := Lib.hid (trim64_any _ _ _ f' _ hr2 hc2 hm2)
      clear hN hv ho hm2 he
      go_wp2_with (go_at_call 135; refine HT.out.mono ?_; rintro e w' ⟨rfl, rfl⟩)
      go_ret
      exact ⟨_, _, _, f', rfl, HN2.out, by omega, hbw2⟩
end Go.Proofs.YtljbnnpmnoejeaaGreatDoor.nn
namespace Go.Proofs.YtljbnnpmnoejeaaGreatDoor.nn
open Go.RowKit

theorem shiftDown64_at (A : Option Addr) (n c s : Nat) (f : Nat → Nat) (w : World) (hA : Rd w .u64 A n f) (lf : Lt (2 ^ 64) f n) (hs : s < 64) (hn : n ≤ c) (hc : c ≤ maxLen) (hreach : n * 8 ≤ 140737488355328) :
    Calls Tryz.prog 209 #[.slice A n c, .int .i64 s] w fun e w' => One64 w w' e (sm (2 ^ 64) f n / 2 ^ s) n := by
  rcases Nat.eq_zero_or_pos n with h0 | h0
  · exact shiftDown64_none A n c s 0 s f w lf (by omega) hs (by omega) (by omega)
  · exact shiftDown64_some A n c s 0 s f w hA lf (by omega) hs h0 hn hc hreach

/-- a slice as the cells that copy reads -/
theorem Rd.cells {w : World} {K : IntKind} {A : Option Addr} {n : Nat} {f : Nat → Nat} (h : Rd w K A n f) (h0 : 0 < n) : ∃ ad, A = some ad ∧ ∀ j u, (vl K f n)[j]? = some u → w.cell? (ad.add j) = some u := by
  obtain ⟨b, off, e, _, hc⟩ := h h0
  refine ⟨_, e, fun j u hu => ?_⟩
  have hj : j < n := by
    have := (List.getElem?_eq_some_iff.1 hu).1
    rwa [vl_length] at this
  rw [vl_at K f hj] at hu
  injection hu with hu
  subst hu
  have hadd : (⟨b, off, none⟩ : Addr).add j = ⟨b, off + j, none⟩ := by unfold Addr.add; split <;> simp_all
  rw [hadd]
  exact hc j hj

theorem splice_ints {cur : Array Value} {K : IntKind} {N m : Nat} {f : Nat → Nat} (h : Ints cur K 0 N (fun _ => 0)) (_hm : m ≤ N) : Ints (splice cur.toList 0 (vl K f m)).toArray K 0 N (pad f m) := fun i hi => by
  have e : splice cur.toList 0 (vl K f m) = vl K f m ++ cur.toList.drop m := by simp [splice, vl_length]
  rw [e, Nat.zero_add, List.getElem?_toArray]
  by_cases c : i < m
  · rw [List.getElem?_append_left (by rw [vl_length]; exact c), vl_at K f c]
    simp [pad, c]
  · rw [List.getElem?_append_right (by rw [vl_length]; omega), vl_length, List.getElem?_drop, show m + (i - m) = i by omega]
    have := h i hi
    rw [Nat.zero_add] at this
    simp only [pad, if_neg c]
    rw [Array.getElem?_toList]
    exact this

/-- no longer than its value asks -/
theorem len_le {B : Nat} (hB : 0 < B) {f : Nat → Nat} {n m : Nat} (tf : Trm f n) (h : sm B f n < B ^ m) : n ≤ m := by
  rcases Nat.lt_or_ge m n with c | c
  · obtain ⟨k, rfl⟩ : ∃ k, n = k + 1 := ⟨n - 1, by omega⟩
    rcases tf with tf | tf
    · omega
    · have a := sm_ge (B := B) (f := f) (n := k) (by simpa using tf)
      have b : B ^ m ≤ B ^ k := Nat.pow_le_pow_right hB (by omega)
      omega
  · exact c

/-- a slice in a block below g, behind what kept all blocks below g -/
theorem Rd.belowAt {w w' : World} {K : IntKind} {A : Option Addr} {n g : Nat} {f : Nat → Nat} (h : Rd w K A n f) (hb : Below g w w') (hlt : ∀ b o, A = some ⟨b, o, none⟩ → 0 < n → b < g) : Rd w' K A n f := fun h0 => by
  obtain ⟨b, off, e, h1, hc⟩ := h h0
  have := hlt b off e h0
  exact ⟨b, off, e, Nat.lt_of_lt_of_le h1 hb.size, fun i hi => (hb.cell (p := ⟨b, off + i, none⟩) this).trans (hc i hi)⟩

theorem size_u64 : (Tryz.prog.info? 22).map (·.size) = some 1 := by kernel_rfl

/-- what holds at the loop's head, with t limbs of the quotient still to come -/
def DivLoop (w7 wr : World) (g1 g2 : Nat) (e : TypeId) (Q S D m t : Nat) : Prop :=
  ∃ (fr : Nat → Nat) (cur1 : Array Value) (fq : Nat → Nat) (cur2 : Array Value), Bk wr g1 e cur1 ∧ Ints cur1 .u64 0 (Q + m) fr ∧ Bk wr g2 e cur2 ∧ Ints cur2 .u64 0 Q fq ∧ Long W64 S D m Q fr fq t ∧ Below g1 w7 wr

/-- behind one limb -/
theorem DivLoop.step {w7 wr w8 : World} {g1 g2 : Nat} {e : TypeId} {Q S D m i : Nat} {fr : Nat → Nat} {cur1 : Array Value} {fq : Nat → Nat} {cur2 cur1' : Array Value} {f1 : Nat → Nat}
    (hg : g1 < g2) (hg7 : g1 ≤ w7.heap.size) (hi1 : Ints cur1 .u64 0 (Q + m) fr) (hb2 : Bk wr g2 e cur2) (hi2 : Ints cur2 .u64 0 Q fq) (hL : Long W64 S D m Q fr fq (i + 1)) (hB : Below g1 w7 wr) (hi : i < Q) (hD : D < W64 ^ m) (hD0 : 0 < D)
    (hw : Wrote wr w8 g1 e cur1 cur1' i (m + 1)) (hi' : Ints cur1' .u64 i (m + 1) f1) (l1 : Lt W64 f1 (m + 1)) (hv : sm W64 f1 (m + 1) = sm W64 (fun j => fr (i + j)) (m + 1) % D) :
    DivLoop w7 (w8.setCell ⟨g2, i, none⟩ (.int .u64 ((sm W64 (fun j => fr (i + j)) (m + 1) / D : Nat) : Int))) g1 g2 e Q S D m i := by
  have hbk1 := hw.blk
  have hbk2 := hb2.grown hw.grown (by intro h; injection h with h; omega)
  have hw2 := (Wrote.refl hbk2 0 Q).set_ i hi (.int .u64 ((sm W64 (fun j => fr (i + j)) (m + 1) / D : Nat) : Int))
  have h2 := hi2.set_ i (sm W64 (fun j => fr (i + j)) (m + 1) / D) hi
  simp only [Nat.zero_add] at hw2 h2
  have hB1 := (hB.grown hw.grown (Nat.le_trans hg7 hB.size) (fun k hk => by injection hk with hk; omega))
  refine ⟨put fr i (m + 1) f1, cur1', _, _, hbk1.grown hw2.grown (by intro h; injection h with h; omega), fun j hj => ?_, hw2.blk, h2, hL.step hi l1 hD hD0 hv, hB1.grown hw2.grown (Nat.le_trans hg7 hB1.size) (fun k hk => by injection hk with hk; omega)⟩
  rw [Nat.zero_add]
  by_cases c : i ≤ j ∧ j < i + (m + 1)
  · obtain ⟨k, rfl⟩ : ∃ k, j = i + k := ⟨j - i, by omega⟩
    rw [put_in fr f1 (by omega)]
    exact hi' k (by omega)
  · rw [put_out fr f1 (by omega), hw.out j (by omega)]
    have := hi1 j hj
    rwa [Nat.zero_add] at this

set_option maxRecDepth 100000 in
set_option maxHeartbeats 4000000 in
theorem divide_many (A B : Option Addr) (n m c d : Nat) (f h : Nat → Nat) (w : World) (hA : Rd w .u64 A n f) (hB : Rd w .u64 B m h)
    (lf : Lt W64 f n) (lh : Lt W64 h m) (tf : Trm f n) (th : Trm h m) (hn : n ≤ 400000) (hm : m ≤ 400000) (hm2 : 2 ≤ m) (hge : sm W64 h m ≤ sm W64 f n) :
    Calls Tryz.prog 198 #[.slice A n c, .slice B m d] w fun e w' => Two w w' e (sm W64 f n / sm W64 h m) (sm W64 f n % sm W64 h m) := by
  obtain ⟨i0, hi, hz0, hz1, hz2⟩ := info_parts info_u64
  have hc := compare64_w A B n m c d f h w hA hB lf lh tf th (by unfold maxLen; omega) (by unfold maxLen; omega)
  have hz : 0 ≤ cm (sm W64 f n) (sm W64 h m) := by
    unfold cm; rw [if_neg (by omega)]; split <;> omega
  obtain ⟨z, ez⟩ : ∃ z, cm (sm W64 f n) (sm W64 h m) = z := ⟨_, rfl⟩
  rw [ez] at hc hz
  have HC := Lib.hid hc
  have hnm : m ≤ n := len_le w64_pos th (Nat.lt_of_le_of_lt hge (sm_lt lf))
  have htop : h (m - 1) ≠ 0 := by
    rcases th with th | th
    · omega
    · exact th
  have hyl := lh (m - 1) (by omega)
  obtain ⟨s, hs⟩ : ∃ s, 64 - bl (h (m - 1)) = s := ⟨_, rfl⟩
  have hble : bl (h (m - 1)) ≤ 64 := bl_le (k := 64) hyl
  have hbl0 := (bl_ge htop).2
  have hfull := up_full (wd := 64) (s := s) (h := h) (m := m - 1) (by rw [Nat.sub_add_cancel (by omega)]; exact lh) htop (by omega)
  rw [Nat.sub_add_cancel (by omega)] at hfull
  have hL : ∀ W, Calls Tryz.prog 192 #[.int .u64 (h (m - 1) : Nat)] W fun e w' => e = .returned (.int .i64 (s : Int)) ∧ W = w' := fun W =>
    (Go.Proofs.Tryz.bits_LeadingZeros64 (h (m - 1) : Int) W (by omega) (by unfold W64 at hyl; omega)).mono (R' := fun e w' => e = .returned (.int .i64 (s : Int)) ∧ W = w') (by
      rintro e w' ⟨rfl, rfl⟩
      refine ⟨?_, rfl⟩
      rw [Int.toNat_natCast, bitLen_bl 64 _ hyl (by omega)]
      exact ret_int (by omega))
  obtain ⟨b, off, rfl, hbl, hcell⟩ := hB (by omega)
  have hx := hcell (m - 1) (by omega)
  obtain ⟨y, hy⟩ : ∃ y, h (m - 1) = y := ⟨_, rfl⟩
  rw [hy] at hx hL
  obtain ⟨Q, hQ⟩ : ∃ Q, n + 1 = Q + m := ⟨n + 1 - m, by omega⟩
  have hfull2 : 2 ^ 63 * W64 ^ (m - 1) ≤ sm W64 h m * 2 ^ s ∧ sm W64 h m * 2 ^ s < W64 ^ m := hfull
  have hs63 : s ≤ 63 := by omega
  have HL := Lib.hid hL
  have LF := Lib.hid lf
  have LH := Lib.hid lh
  have HF := Lib.hid hfull2
  have HQ := Lib.hid hQ
  have HNM := Lib.hid hnm
  have Qle : Q ≤ 400001 := by omega
  have HAV := Lib.hid (sm_lt lf)
  clear hc lf lh tf th hge hcell ez hy hyl hs hble hbl0 hfull hfull2 hL htop hQ hnm
  go_enter Tryz.func198, Tryz.ntmps198
  go_wp2_with fail
  refine HC.out.mono ?_
  rintro e w' ⟨rfl, j, rfl⟩
  go_wp2_with fail
  refine (HL.out _).mono ?_
  rintro e w' ⟨rfl, rfl⟩
  go_wp2_with fail
  refine (shiftUp64_any _ m d s 0 s h _ (hB.drewN j) LH.out (by omega) (by omega) (by omega)).mono ?_
  rintro e w3 ⟨AD, nD, cD, fD, rfl, hnD, _, hb3⟩
  have hb3' : Below w.heap.size w w3 := (drew_below (Below.refl w.heap.size w) j).trans hb3
  obtain rfl : nD = m := by
    have h1 := hnD.val
    have h2 := HF.out
    have := len_of (B := 2 ^ 64) (m := m - 1) (Nat.two_pow_pos 64) hnD.lt hnD.trm (by
      rw [h1]
      refine Nat.le_trans ?_ h2.1
      exact Nat.le_mul_of_pos_left _ (Nat.two_pow_pos 63)) (by rw [h1, Nat.sub_add_cancel (by omega)]; exact h2.2)
    omega
  have hAw3 := hA.below hb3'
  have HND := Lib.hid hnD
  have HB3 := Lib.hid hb3'
  clear hnD hb3 hb3' hx hA HC HL
  go_wp2_with (refine wpList_make_full _ rfl _ _ 95 rfl w3.heap.size 22 i0 _ 1 Tryz.underlying95 hi hz0 hz1 .i64 .i64 _ _ (n + 1) rfl rfl ?c1 ?c2 ?c3 ?c4 ?c5 ?_; rotate_left 5; intro w4 hown4 hg4)
  case c1 => omega
  case c2 => omega
  case c3 => rw [hz2]; omega
  case c4 => unfold maxLen; omega
  case c5 => omega
  rw [made_vl64] at hown4
  obtain ⟨cur4, hbk4, hint4, _, _, _, _, _⟩ := own_wrote hown4
  have hbw4 : Below w3.heap.size w3 w4 := (Below.refl _ _).grown (row := none) hg4 (Nat.le_refl _) (fun k hk => by cases hk)
  have hg4s := hbk4.lt
  have hAw4 := hAw3.below hbw4
  have HB4 := Lib.hid hbw4
  have HBK4 := Lib.hid hbk4
  clear hown4 hg4 hbk4 hAw3 hbw4
  go_wp2_with fail
  refine (shiftUp64_any A n c s 0 s f w4 hAw4 LF.out (by omega) (by omega) (by omega)).mono ?_
  rintro e w5 ⟨AS, nS, cS, fS, rfl, hnS, _, hb5⟩
  have hnSle : nS ≤ n + 1 := len_le (Nat.two_pow_pos 64) hnS.trm (by
    rw [hnS.val, Nat.pow_succ]
    have h1 : sm (2 ^ 64) f n * 2 ^ s < (2 ^ 64) ^ n * 2 ^ s := Nat.mul_lt_mul_of_pos_right HAV.out (Nat.two_pow_pos s)
    have h2 : (2 ^ 64) ^ n * 2 ^ s ≤ (2 ^ 64) ^ n * 2 ^ 64 := Nat.mul_le_mul_left _ (Nat.pow_le_pow_right (by decide) (by omega))
    exact Nat.lt_of_lt_of_le h1 h2)
  have HNS := Lib.hid hnS
  have HB5 := Lib.hid hb5
  clear hnS hb5 hAw4
  have hQ2 : Hid ((n : Int) + 1 - (nD : Int) = (Q : Int)) := Lib.hid (by have := HQ.out; omega)
  have hcell4 : Hid (w5.heap[w3.heap.size]? = some (.cells cur4.toList.toArray 22 (0, 0))) := Lib.hid (by have := HBK4.out.below HB5.out hg4s; simpa [Bk] using this)
  have hlen4 : Hid (0 + (vl .u64 fS nS).length ≤ cur4.toList.length) := Lib.hid (by rw [vl_length, Nat.zero_add]; have := hint4.lt (i := n) (by omega); simp; omega)
  have hcells4 : Hid (0 < (vl .u64 fS nS).length → ∃ ad, AS = some ad ∧ ∀ j v, (vl .u64 fS nS)[j]? = some v → w5.cell? (ad.add j) = some v) := Lib.hid (by rw [vl_length]; intro h0; exact HNS.out.rd.cells h0)
  have hmin4 : Hid ((vl .u64 fS nS).length = Nat.min nS (n + 1)) := Lib.hid (by rw [vl_length]; exact (Nat.min_eq_left hnSle).symm)
  go_wp2_with (first
    | (with_reducible refine wpList_copy_splice rfl (.tmp 46) (.tmp 49) 95 95 rfl 22 Tryz.underlying95 size_u64 _ _ _ _ _ _ rfl rfl w3.heap.size 0 cur4.toList 22 hcell4.out (vl .u64 fS nS) hmin4.out (fun h0 => ⟨rfl, hcells4.out h0⟩) hlen4.out (vl_one _ _ _) w3.heap.size w5 (Below.refl _ _) (Nat.le_refl _) ?_; intro w6 hblk6 hb6)
    | (refine wpList_make_full _ rfl _ _ 95 rfl w6.heap.size 22 i0 _ 1 Tryz.underlying95 hi hz0 hz1 .i64 .i64 _ _ Q rfl rfl hQ2.out hQ2.out (by rw [hz2]; omega) (by unfold maxLen; omega) (by omega) ?_; intro w7 hown7 hg7))
  have hbk6 : Bk w6 w3.heap.size 22 (splice cur4.toList 0 (vl .u64 fS nS)).toArray := hblk6.out
  have hint6 := splice_ints (f := fS) hint4 hnSle
  have hb46 : Below w3.heap.size w3 w6 := (HB4.out.trans (HB5.out.mono (Nat.le_of_lt hg4s))).trans hb6
  have HB6 := Lib.hid hb46
  have HBK6 := Lib.hid hbk6
  have HINT6 := Lib.hid hint6
  obtain ⟨cur6, hcur6⟩ : ∃ cur6, (splice cur4.toList 0 (vl .u64 fS nS)).toArray = cur6 := ⟨_, rfl⟩
  rw [hcur6] at HBK6 HINT6
  clear hbk6 hint6 hb46 hcur6 hblk6 hb6 HBK4 HB5 hint4 hg4s HB4 hcell4 hlen4 hcells4 hmin4
  rw [made_vl64] at hown7
  obtain ⟨cur7, hbk7, hint7, _, _, _, _, _⟩ := own_wrote hown7
  have hbw7 : Below w6.heap.size w6 w7 := (Below.refl _ _).grown (row := none) hg7 (Nat.le_refl _) (fun k hk => by cases hk)
  have hg12 : w3.heap.size < w6.heap.size := HBK6.out.lt
  have hb17 := HBK6.out.below hbw7 hg12
  have hw37 : Below w3.heap.size w3 w7 := HB6.out.trans (hbw7.mono (Nat.le_of_lt hg12))
  have hDw : Hid (Rd w7 .u64 AD nD fD) := Lib.hid (HND.out.rd.below hw37)
  have HBW7 := Lib.hid (HB3.out.trans (hw37.mono HB3.out.size))
  have hs37 : w3.heap.size ≤ w7.heap.size := hw37.size
  have hwsz : w.heap.size ≤ w3.heap.size := HB3.out.size
  have hD0 : Hid (0 < sm W64 h nD * 2 ^ s) := Lib.hid (Nat.lt_of_lt_of_le (Nat.mul_pos (Nat.two_pow_pos 63) (Nat.pow_pos w64_pos)) HF.out.1)
  have htopD : Hid (W64 ≤ 2 * fD (nD - 1)) := Lib.hid (by
    have h1 := top_of (B := W64) (f := fD) (m := nD - 1) (k := 2 ^ 63) (by rw [Nat.sub_add_cancel (by omega)]; exact HND.out.lt) (by
      rw [Nat.sub_add_cancel (by omega)]
      exact Nat.le_trans HF.out.1 (Nat.le_of_eq HND.out.val.symm))
    have h2 : W64 = 2 * 2 ^ 63 := rfl
    omega)
  have hltD : Hid (∀ b o, AD = some ⟨b, o, none⟩ → 0 < nD → b < w3.heap.size) := Lib.hid fun b o e h0 => HND.out.rd.lt e h0
  have hL0 : Hid (DivLoop w7 w7 w3.heap.size w6.heap.size 22 Q (sm W64 f n * 2 ^ s) (sm W64 h nD * 2 ^ s) nD Q) := Lib.hid (by
    have hq := HQ.out
    refine ⟨pad fS nS, cur6, fun _ => 0, cur7, hb17, by rw [← hq]; exact HINT6.out, hbk7, hint7, ?_, Below.refl _ _⟩
    refine Long.start w64_pos (pad_lt w64_pos HNS.out.lt _) (fun _ _ => rfl) ?_ ?_ (by omega) (Nat.le_trans (Nat.mul_le_mul_right _ (Nat.pow_le_pow_right (by decide) hs63)) HF.out.1)
    · rw [← hq, pad_sm _ _ hnSle]; exact HNS.out.val
    · rw [← hq]; exact HAV.out)
  clear hown7 hg7 hbk7 hint7 hb17 hw37 HB6 HBK6 HINT6 HNS hbw7 hnSle hQ2
  go_wp2
  go_loopw [12] (fun s12 wr => ∃ t : Nat, t ≤ Q ∧ s12 = .int .i64 ((t : Int) - 1) ∧ Hid (DivLoop w7 wr w3.heap.size w6.heap.size 22 Q (sm W64 f n * 2 ^ s) (sm W64 h nD * 2 ^ s) nD t)) (fun s12 _ => (intOf s12 + 1).toNat)
  case atStart => exact ⟨Q, Nat.le_refl _, rfl, hL0⟩
  case round =>
    clear hL0
    obtain ⟨t, ht, rfl, HL⟩ := hrel
    by_cases h1 : 0 < t
    · obtain ⟨i, rfl⟩ : ∃ i, t = i + 1 := ⟨t - 1, by omega⟩
      obtain ⟨fr, cur1, fq, cur2, hb1, hi1, hb2, hi2, hlong, hbel⟩ := HL.out
      have hs0 : (((i + 1 : Nat) : Int) - 1) = (i : Int) := by omega
      have hin : i + nD ≤ n := by have := HQ.out; omega
      have hT := takeOut_any w3.heap.size i nD (n + 1 - i) 22 cur1 (fun j => fr (i + j)) AD cD fD wr hb1 (fun j hj => by have := hi1 (i + j) (by omega); rwa [Nat.zero_add] at this) (hDw.out.belowAt hbel hltD.out)
        (fun b o e h0 => by have := hltD.out b o e h0; omega) (fun j hj => hlong.hr (i + j) (by omega)) HND.out.lt hm2 (by unfold maxLen; omega) htopD.out (by rw [show sm W64 fD nD = sm W64 h nD * 2 ^ s from HND.out.val]; exact hlong.first (by omega))
      rw [show sm W64 fD nD = sm W64 h nD * 2 ^ s from HND.out.val] at hT
      have HT := Lib.hid hT
      have HB1 := Lib.hid hb1
      have HB2 := Lib.hid hb2
      have HI1 := Lib.hid hi1
      have HI2 := Lib.hid hi2
      have HLL := Lib.hid hlong
      have HBL := Lib.hid hbel
      rw [hs0]
      clear hs0 hT hb1 hb2 hi1 hi2 hlong hbel
      go_wp2_with fail
      rw [show i + nD + 1 - i = nD + 1 by omega]
      (with_reducible refine HT.out.mono ?_)
      rintro e w8 ⟨f1, cur1', rfl, hw8, hi8, l8, v8⟩
      have hbk2 := HB2.out.grown hw8.grown (by intro h; injection h with h; omega)
      have hcx := (Bk.cell hbk2 (0 + i)).trans (HI2.out i (by omega))
      have hcf := Bk.frozen hbk2 (0 + i)
      rw [Nat.zero_add] at hcx hcf
      have HS := Lib.hid (DivLoop.step hg12 hs37 HI1.out HB2.out HI2.out HLL.out HBL.out (by omega) HF.out.2 hD0.out hw8 hi8 l8 v8)
      clear hw8 hi8 l8 v8 hbk2
      go_wp2
      go_roundw
      case rel => exact ⟨i, by omega, by go_num, HS⟩
      case measure => simp [intOf]
    · obtain rfl : t = 0 := by omega
      obtain ⟨fr, cur1, fq, cur2, hb1, hi1, hb2, hi2, hlong, hbel⟩ := HL.out
      have hend := hlong.last
      have hun := unscale hend.1 hend.2
      have hrd1 := hi1.rd hb1
      have hrd2 := hi2.rd hb2
      have lrr := hlong.hr
      have lqq := hlong.hq
      have hq := HQ.out
      rw [← hq] at hrd1 lrr hend hun
      have hle := tr_le fr (n + 1)
      have HT := Lib.hid (trim64_any (some ⟨w3.heap.size, 0, none⟩) (n + 1) (n + 1) fr wr hrd1 (Nat.le_refl _) (by unfold maxLen; omega))
      have hsd := shiftDown64_at (some ⟨w3.heap.size, 0, none⟩) (tr fr (n + 1)) (n + 1) s fr wr (hrd1.mono hle) (lrr.mono hle) (by omega) hle (by unfold maxLen; omega) (by omega)
      rw [sm_tr] at hsd
      have HSD := Lib.hid hsd
      have HUN := Lib.hid hun
      have HR2 := Lib.hid hrd2
      have HLQ := Lib.hid lqq
      have hbw : Below w.heap.size w wr := HBW7.out.trans (hbel.mono (by omega))
      have HBW := Lib.hid hbw
      obtain ⟨l, hl⟩ : ∃ l, tr fr (n + 1) = l := ⟨_, rfl⟩
      rw [hl] at HT HSD hle
      have hll : l ≤ 400001 := by omega
      clear hlong hend hun hrd1 hrd2 lrr lqq hq hsd hbw hbel hi1 hb1 hi2 hb2 hl HL
      go_wp2_with fail
      refine HT.out.mono ?_
      rintro e w' ⟨rfl, rfl⟩
      go_wp2_with fail
      refine HSD.out.mono ?_
      rintro e w9 ⟨A9, n9, c9, f9, rfl, h9, hn9, hb9⟩
      have H9 := Lib.hid h9
      have HB9 := Lib.hid hb9
      clear h9 hb9
      go_wp2
      go_ret2
      rw [← HUN.out.1, ← HUN.out.2]
      exact ⟨_, Q, _, fq, A9, n9, c9, f9, rfl, HR2.out.below HB9.out, H9.out.rd, HLQ.out, H9.out.lt, rfl, H9.out.val, by omega, by omega, HBW.out.trans (HB9.out.mono HBW.out.size)⟩
end Go.Proofs.YtljbnnpmnoejeaaGreatDoor.nn
namespace Go.Proofs.YtljbnnpmnoejeaaGreatDoor.nn
open Go.RowKit

/-- one of two limbs -/
def duo (x y : Nat) : Nat → Nat := fun i => if i = 0 then x else y

theorem rd_duo (w : World) (K : IntKind) (x y : Nat) (e : TypeId) {a b : Int} (ha : a = (x : Int)) (hb : b = (y : Int)) : Rd (w.alloc (.cells #[.int K a, .int K b] e)) K (some ⟨w.heap.size, 0, none⟩) 2 (duo x y) := fun _ =>
  ⟨w.heap.size, 0, rfl, by simp, fun i hi => by
    subst ha
    subst hb
    rcases (by omega : i = 0 ∨ i = 1) with rfl | rfl
    · rw [World.cell?_alloc_at _ _ _ _ rfl]; rfl
    · rw [World.cell?_alloc_at _ _ _ _ rfl]; rfl⟩

/-- what holds when i wide limbs are cut -/
def NarRel (base : Nat) (w0 wr : World) (s : Value) (i : Nat) (f : Nat → Nat) : Prop :=
  ∃ f' : Nat → Nat, wr.ownsRow base 72 1 s (2 * i) (vl .u32 f' (2 * i)) ∧ Below base w0 wr ∧ base ≤ wr.heap.size ∧ Lt (2 ^ 32) f' (2 * i) ∧ sm (2 ^ 32) f' (2 * i) = sm W64 f i

theorem NarRel.step {base : Nat} {w0 wr w1 : World} {v : Value} {i : Nat} {f f' : Nat → Nat} (o : Obj) (h2 : Below base w0 wr) (h3 : base ≤ wr.heap.size) (h4 : Lt (2 ^ 32) f' (2 * i)) (h5 : sm (2 ^ 32) f' (2 * i) = sm W64 f i) (hx : f i < W64)
    (ho : w1.ownsRow base 72 1 v (2 * i + 2) (vl .u32 (jn f' (2 * i) (duo (f i % 4294967296) (f i / 4294967296))) (2 * i + 2))) (hb : Below base (wr.alloc o) w1) : NarRel base w0 w1 v (i + 1) f := by
  have hb1 := (h2.alloc h3 o).trans hb
  have hs := hb.size
  rw [hsz] at hs
  have e : 2 * (i + 1) = 2 * i + 2 := by omega
  refine ⟨jn f' (2 * i) (duo (f i % 4294967296) (f i / 4294967296)), by rw [e]; exact ho, hb1, by omega, ?_, ?_⟩
  · rw [e]
    refine h4.jn (m := 2) (fun j hj => ?_)
    unfold duo
    unfold W64 at hx
    split <;> omega
  · rw [e, sm_jn, h5]
    have e1 : sm W64 f (i + 1) = sm W64 f i + f i * W64 ^ i := rfl
    have e2 : sm (2 ^ 32) (duo (f i % 4294967296) (f i / 4294967296)) 2 = f i := by
      simp [sm, duo]
      omega
    rw [e1, e2, w64_pow]

set_option maxRecDepth 100000 in
set_option maxHeartbeats 1000000 in
theorem narrow_any (A : Option Addr) (n c : Nat) (f : Nat → Nat) (w : World) (hA : Rd w .u64 A n f) (lf : Lt W64 f n) (hn : n ≤ 1000000) :
    Calls Tryz.prog 64 #[.slice A n c] w fun e w' => One w w' e (sm W64 f n) (2 * n) := by
  obtain ⟨i0, hi, hz0, hz1, hz2⟩ := info_parts info_u32
  have LF := Lib.hid lf
  clear lf
  go_enter Tryz.func64, Tryz.ntmps64
  go_wp2_with (refine wpList_make_own _ rfl _ _ 48 rfl w.heap.size 72 i0 _ 1 Tryz.underlying48 hi hz0 hz1 .i64 .i64 _ (2 * n) rfl rfl ?c1 ?c2 ?c3 ?c4 ?_; rotate_left 4; intro w1 hown1 hg1)
  case c1 => omega
  case c2 => rw [hz2]; omega
  case c3 => unfold maxLen; omega
  case c4 => omega
  have hbw1 : Below w.heap.size w w1 := (Below.refl _ _).grown (row := none) hg1 (Nat.le_refl _) (fun k hk => by cases hk)
  have hsz1 := hbw1.size
  clear hg1
  go_loopw [3, 12] (fun s3 s12 wr => ∃ i : Nat, i ≤ n ∧ s12 = .int .i64 i ∧ NarRel w.heap.size w wr s3 i f) (fun _ s12 _ => n - (intOf s12).toNat)
  case atStart => exact ⟨0, Nat.zero_le _, rfl, fun _ => 0, hown1, hbw1, hsz1, fun _ h => absurd h (by omega), rfl⟩
  case round =>
    clear hown1 hbw1 hsz1
    obtain ⟨i, hi', rfl, f', ho, hb, hs, lf', hv⟩ := hrel
    by_cases hlt : i < n
    · obtain ⟨b, off, rfl, _, hcell⟩ := (hA.below hb) (by omega)
      have hx := hcell i hlt
      have bx := LF.out i hlt
      have b64 : f i ≤ 18446744073709551615 := by unfold W64 at bx; omega
      have HV := Lib.hid hv
      have BX := Lib.hid bx
      clear hcell hv bx
      go_wp2_with (at_builtin; refine wpList_app rfl (.tmp 16) (.tmp 22) _ rfl w.heap.size 72 i0 _ 4 Tryz.underlying48 hi hz0 hz1 hz2 rfl .u32 _ (2 * i) f' rfl (ho.alloc _) _ 2 2 (duo (f i % 4294967296) (f i / 4294967296)) rfl (rd_duo _ .u32 _ _ _ ?z1 ?z2) ?d1 ?d2 ?d3 ?d4; rotate_left 5; intro v1 w2 hown2 hb2)
      case z1 => omega
      case z2 => omega
      case d1 => unfold maxLen; omega
      case d2 => omega
      case d3 => rw [hsz]; omega
      go_roundw
      case rel => exact ⟨i + 1, by omega, by go_num, NarRel.step _ hb hs lf' HV.out BX.out hown2 hb2⟩
      case measure => simp [intOf]; omega
    · obtain rfl : i = n := by omega
      obtain ⟨A2, c2, rfl, hc2, hm2, hr2⟩ := Rd.of_own ho
      have hle := tr_le f' (2 * i)
      have HN := Lib.hid (show Num _ A2 (tr f' (2 * i)) c2 f' (sm W64 f i) from ⟨by omega, hm2, hr2.mono hle, lf'.mono hle, tr_trm _ _, by rw [sm_tr]; exact hv⟩)
      have HT := Lib.hid (trim_any A2 (2 * i) c2 f' _ hr2 hc2 hm2)
      clear hv ho hm2
      go_wp2_with (go_at_call 68; refine HT.out.mono ?_; rintro e w' ⟨rfl, rfl⟩)
      go_ret
      exact ⟨A2, _, c2, f', rfl, HN.out, hle, hb⟩
end Go.Proofs.YtljbnnpmnoejeaaGreatDoor.nn
namespace Go.Proofs.YtljbnnpmnoejeaaGreatDoor.nn
open Go.RowKit

/-- what holds when i limbs of f are done: the lowest i + m places hold f's first i limbs times h, the rest is 0 -/
def ProdRel (w wr : World) (g : Nat) (e : TypeId) (cur : Array Value) (n m : Nat) (f h : Nat → Nat) (i : Nat) : Prop :=
  ∃ (f' : Nat → Nat) (cur' : Array Value), Wrote w wr g e cur cur' 0 (n + m) ∧ Ints cur' .u64 0 (n + m) f' ∧ Lt W64 f' (n + m) ∧ sm W64 f' (i + m) = sm W64 f i * sm W64 h m ∧ ∀ j, i + m ≤ j → j < n + m → f' j = 0

/-- behind one row: the stretch from i on is rewritten, the carry is stored behind it -/
theorem ProdRel.step {w wr w1 : World} {g : Nat} {e : TypeId} {cur cur' cur1 : Array Value} {n m i k : Nat} {f h f' f1 : Nat → Nat} (hw : Wrote w wr g e cur cur' 0 (n + m)) (hin : Ints cur' .u64 0 (n + m) f') (lf' : Lt W64 f' (n + m))
    (hv : sm W64 f' (i + m) = sm W64 f i * sm W64 h m) (hz : ∀ j, i + m ≤ j → j < n + m → f' j = 0) (hi : i < n) (hk : k < W64)
    (hm : MulRel wr w1 g e cur' i m (fun j => f' (i + j)) h (f i) f1 cur1 k m) :
    ProdRel w (w1.setCell ⟨g, i + m, none⟩ (.int .u64 (k : Int))) g e cur n m f h (i + 1) := by
  obtain ⟨h1, h2, h3, _, h5⟩ := hm
  have hw1 := hw.trans (h1.wide (off' := 0) (n' := n + m) (by omega) (by omega))
  have hi1 : Ints cur1 .u64 0 (n + m) (fun j => if i ≤ j ∧ j < i + m then f1 (j - i) else f' j) := fun j hj => by
    rw [Nat.zero_add]
    by_cases hc : i ≤ j ∧ j < i + m
    · have := h2 (j - i) (by omega)
      rw [show i + (j - i) = j by omega] at this
      simp only [if_pos hc]
      exact this
    · simp only [if_neg hc]
      have := hin j hj
      rw [Nat.zero_add] at this
      rw [h1.out j (by omega)]
      exact this
  have lf1 : Lt W64 (fun j => if i ≤ j ∧ j < i + m then f1 (j - i) else f' j) (n + m) := fun j hj => by
    by_cases hc : i ≤ j ∧ j < i + m
    · simp only [if_pos hc]; exact h3 _ (by omega)
    · simp only [if_neg hc]; exact lf' j hj
  have h6 := hw1.set_ (i + m) (by omega) (.int .u64 (k : Int))
  have h7 := hi1.set_ (i + m) k (by omega)
  simp only [Nat.zero_add] at h6 h7
  refine ⟨_, _, h6, h7, lf1.upd hk, ?_, fun j ha hb => ?_⟩
  · rw [show i + 1 + m = (i + m) + 1 by omega, sm_snoc, sm_split W64 _ i m]
    rw [sm_split W64 f' i m] at hv
    have e1 : sm W64 (fun j => if i ≤ j ∧ j < i + m then f1 (j - i) else f' j) i = sm W64 f' i := sm_congr _ fun j hj => by rw [if_neg (by omega)]
    have e2 : sm W64 (fun t => (fun j => if i ≤ j ∧ j < i + m then f1 (j - i) else f' j) (i + t)) m = sm W64 f1 m := sm_congr _ fun j hj => by
      show (if i ≤ i + j ∧ i + j < i + m then f1 (i + j - i) else f' (i + j)) = _
      rw [if_pos (by omega), Nat.add_sub_cancel_left]
    have e3 : sm W64 f (i + 1) = sm W64 f i + f i * W64 ^ i := rfl
    rw [e1, e2, e3, Nat.add_mul, ← hv, Nat.pow_add]
    have h8 := congrArg (· * W64 ^ i) h5
    simp only [Nat.add_mul] at h8
    have e4 : k * (W64 ^ i * W64 ^ m) = k * W64 ^ m * W64 ^ i := by ac_rfl
    have e5 : f i * W64 ^ i * sm W64 h m = f i * sm W64 h m * W64 ^ i := by ac_rfl
    rw [e4, e5]
    omega
  · rw [upd_ne _ (by omega)]
    rw [if_neg (by omega)]
    exact hz j (by omega) hb

set_option maxRecDepth 100000 in
set_option maxHeartbeats 1000000 in
theorem product_any (A B : Option Addr) (n m c d : Nat) (f h : Nat → Nat) (w : World) (hA : Rd w .u64 A n f) (hB : Rd w .u64 B m h) (lf : Lt W64 f n) (lh : Lt W64 h m) (hn : n ≤ 100000) (hm : m ≤ 100000) :
    Calls Tryz.prog 201 #[.slice A n c, .slice B m d] w fun e w' => Wide w w' e (sm W64 f n * sm W64 h m) (n + m) := by
  obtain ⟨i0, hi, hz0, hz1, hz2⟩ := info_parts info_u64
  have LF := Lib.hid lf
  have LH := Lib.hid lh
  clear lf lh
  go_enter Tryz.func201, Tryz.ntmps201
  go_wp2_with (refine wpList_make_full _ rfl _ _ 95 rfl w.heap.size 22 i0 _ 1 Tryz.underlying95 hi hz0 hz1 .i64 .i64 _ _ (n + m) rfl rfl ?c1 ?c2 ?c3 ?c4 ?c5 ?_; rotate_left 5; intro w1 hown1 hg1)
  case c1 => omega
  case c2 => omega
  case c3 => rw [hz2]; omega
  case c4 => unfold maxLen; omega
  case c5 => omega
  rw [made_vl64] at hown1
  obtain ⟨cur, hbk, hint, _, _, _, hcs, _⟩ := own_wrote hown1
  have hbw1 : Below w.heap.size w w1 := (Below.refl _ _).grown (row := none) hg1 (Nat.le_refl _) (fun k hk => by cases hk)
  have hA1 := hA.below hbw1
  have hB1 := hB.below hbw1
  have hneA : Hid (∀ b o, A = some ⟨b, o, none⟩ → 0 < n → b ≠ w.heap.size) := Lib.hid fun b o e h0 => by have := hA.lt e h0; omega
  have hneB : Hid (∀ b o, B = some ⟨b, o, none⟩ → 0 < m → b ≠ w.heap.size) := Lib.hid fun b o e h0 => by have := hB.lt e h0; omega
  have HCS := Lib.hid hcs
  clear hown1 hcs hg1 hA hB
  go_loopw [16] (fun s wr => ∃ i : Nat, i ≤ n ∧ s = .int .i64 i ∧ ProdRel w1 wr w.heap.size 22 cur n m f h i) (fun s _ => n - (intOf s).toNat)
  case atStart => exact ⟨0, Nat.zero_le _, rfl, fun _ => 0, cur, Wrote.refl hbk 0 _, hint, fun _ _ => w64_pos, by rw [zero_sm]; simp [sm], fun _ _ _ => rfl⟩
  case round =>
    obtain ⟨i, hi', rfl, f', cur', hw, hin, lf', hv, hz⟩ := hrel
    by_cases hlt : i < n
    · obtain ⟨b, off, rfl, _, hcell⟩ := (hA1.wrote hw hneA.out) (by omega)
      have hx := hcell i hlt
      have hBw := hB1.wrote hw hneB.out
      have HV := Lib.hid (And.intro hv hz)
      have LFF := Lib.hid lf'
      clear hcell hv hz lf'
      have hseg : Ints cur' .u64 i m (fun j => f' (i + j)) := fun j hj => by
        have := hin (i + j) (by omega)
        rwa [Nat.zero_add] at this
      have HR := Lib.hid (addTimes_any w.heap.size i m (n + m - i) 22 cur' (fun j => f' (i + j)) B d h (f i) _ hw.blk hseg hBw hneB.out (fun j hj => LFF.out _ (by omega)) LH.out (LF.out i hlt) (by unfold maxLen; omega))
      have HW := Lib.hid hw
      have HIN := Lib.hid hin
      clear hseg hw hin
      go_wp2_with fail
      refine HR.out.mono ?_
      rintro e w2 ⟨k, rfl, hk, f1, cur1, hrel⟩
      have hc1 : ∃ v, w2.cell? ⟨w.heap.size, i + m, none⟩ = some v := by
        rw [Bk.cell hrel.1.blk]
        have hs : i + m < cur1.size := by rw [hrel.1.size, HW.out.size, HCS.out]; omega
        exact ⟨_, Array.getElem?_eq_getElem hs⟩
      obtain ⟨v1, hc1⟩ := hc1
      have hf1 := Bk.frozen hrel.1.blk (i + m)
      have HREL := Lib.hid hrel
      have HK := Lib.hid hk
      clear hrel hk
      go_wp2
      go_roundw
      case rel => exact ⟨i + 1, by omega, by go_num, ProdRel.step HW.out HIN.out LFF.out HV.out.1 HV.out.2 hlt HK.out HREL.out⟩
      case measure => simp [intOf]; omega
    · obtain rfl : i = n := by omega
      have hbw2 := hbw1.grown hw.grown hbw1.size (fun k hk => by injection hk with hk; exact Nat.le_of_eq hk)
      have HB := Lib.hid hw.blk
      have hcz : Hid (cur'.size = i + m) := Lib.hid (hw.size.trans HCS.out)
      go_wp2
      go_ret
      exact ⟨_, cur', f', rfl, Nat.le_refl _, HB.out, hcz.out, hin, lf', hv, hbw2⟩
end Go.Proofs.YtljbnnpmnoejeaaGreatDoor.nn
namespace Go.Proofs.YtljbnnpmnoejeaaGreatDoor.nn
open Go.RowKit

set_option maxRecDepth 100000 in
set_option maxHeartbeats 400000 in
theorem subtract_nil (A B : Option Addr) (c m d : Nat) (w : World) :
    Calls Tryz.prog 69 #[.slice A 0 c, .slice B m d] w fun e' w' => e' = .returned (.tuple #[]) ∧ w = w' := by
  go_enter Tryz.func69, Tryz.ntmps69
  go_wp2
  refine wp_loop_rounds 1 ?_
  rw [rounds_succ]
  go_wp2
  go_end0
  exact ⟨rfl, rfl⟩

theorem long_two (w : World) (A B : Option Addr) (n m c d : Nat) (f g : Nat → Nat) (e : TypeId) (hA : Rd w .u32 A n f) (hB : Rd w .u32 B m g) (hnc : n ≤ c) (hmd : m ≤ d) (hc : c ≤ maxLen) (hd : d ≤ maxLen) (b : Bool) (hb : tl2 n m f g = b) :
    Calls Tryz.prog 65 #[.slice (some ⟨w.heap.size, 0, none⟩) 2 2] (w.alloc (.cells #[.slice A n c, .slice B m d] e)) fun e' w' => e' = .returned (.bool b) ∧ w.alloc (.cells #[.slice A n c, .slice B m d] e) = w' := by
  have h := long_any _ 2 2 _ _ _ _ _ (rds_two w A B n c m d f g e hA hnc hc hB hmd hd) (Nat.le_refl _) (by simp [maxLen])
  rw [lg_two] at h
  rw [← hb]
  exact h

/-- what stands behind subtract, trimmed -/
theorem sub_fin {w wr w' : World} {base g c p q : Nat} {cur cur' : Array Value} {f h f' : Nat → Nat} {k : Nat} (H : SubRel wr w' g 72 cur 0 p f (pad h q) f' cur' k p) (hle : sm (2 ^ 32) h q ≤ sm (2 ^ 32) f p) (lf : Lt (2 ^ 32) f p)
    (hfin : ∀ (w' : World) cur' f', Wrote wr w' g 72 cur cur' 0 p → Ints cur' .u32 0 p f' → w'.ownsRow base 72 1 (.slice (some ⟨g, 0, none⟩) p c) p (vl .u32 f' p)) (hc : p ≤ c) (hm : c ≤ maxLen)
    (hb : Below w.heap.size w wr) (hg : w.heap.size ≤ g) :
    Rd w' .u32 (some ⟨g, 0, none⟩) p f' ∧ Num w' (some ⟨g, 0, none⟩) (tr f' p) c f' (sm (2 ^ 32) f p - sm (2 ^ 32) h q) ∧ Below w.heap.size w w' := by
  obtain ⟨h1, h2, h3, _, h5⟩ := H
  have ho := hfin w' cur' f' h1 h2
  obtain ⟨A, c', e, _, _, hr⟩ := Rd.of_own ho
  injection e with e _ _
  subst e
  have hle' := tr_le f' p
  have hv := less_end h5 (sm_low (by decide) (Nat.lt_of_le_of_lt hle (sm_lt lf))) hle h3
  exact ⟨hr, ⟨by omega, hm, hr.mono hle', h3.mono hle', tr_trm _ _, by rw [sm_tr]; exact hv⟩, hb.grown h1.grown hb.size (fun j hj => by injection hj with hj; omega)⟩

set_option maxRecDepth 100000 in
set_option maxHeartbeats 1000000 in
theorem sub_any (A B : Option Addr) (n m c d : Nat) (f g : Nat → Nat) (w : World) (hA : Rd w .u32 A n f) (hB : Rd w .u32 B m g) (lf : Lt (2 ^ 32) f n) (lg : Lt (2 ^ 32) g m)
    (hnc : n ≤ c) (hmd : m ≤ d) (hc : c ≤ maxLen) (hd : d ≤ maxLen) :
    Calls Tryz.prog 32 #[.slice A n c, .slice B m d] w fun e w' => Res w w' e (subR n m f g) (subE n m f g) := by
  by_cases hl : tl2 n m f g = true
  · have H1 : Hid (subR n m f g = 0) := if_pos hl
    have H2 : Hid (subE n m f g = 2) := if_pos hl
    have HL := Lib.hid (long_two w A B n m c d f g 48 hA hB hnc hmd hc hd true hl)
    clear hl
    unfold maxLen at hc hd
    go_enter Tryz.func32, Tryz.ntmps32
    go_wp2_with (go_at_call 65; refine HL.out.mono ?_; rintro e w2 ⟨rfl, rfl⟩)
    go_ret2
    rw [H1.out, H2.out]
    exact ⟨none, 0, 0, _, rfl, num_nil _, (Below.refl _ _).alloc (Nat.le_refl _) _⟩
  · have hl' : tl2 n m f g = false := by cases h : tl2 n m f g <;> simp_all
    have HL := Lib.hid (long_two w A B n m c d f g 48 hA hB hnc hmd hc hd false hl')
    have hA1 := hA.alloc (.cells #[.slice A n c, .slice B m d] 48)
    have hB1 := hB.alloc (.cells #[.slice A n c, .slice B m d] 48)
    have HM := Lib.hid (Cmp_any A B n m c d f g _ hA1 hB1 lf lg hnc hmd hc hd)
    by_cases hlt : sm (2 ^ 32) f n < sm (2 ^ 32) g m
    · have H1 : Hid (subR n m f g = 0) := (if_neg hl).trans (if_pos hlt)
      have H2 : Hid (subE n m f g = 1) := (if_neg hl).trans (if_pos hlt)
      have HC := Lib.hid (cm_lt hlt)
      clear hl hl' hlt
      unfold maxLen at hc hd
      go_enter Tryz.func32, Tryz.ntmps32
      go_wp2_with (first
        | (go_at_call 65; refine HL.out.mono ?_; rintro e w2 ⟨rfl, rfl⟩)
        | (go_at_call 66; refine HM.out.mono ?_; rw [HC.out]; rintro e w4 ⟨rfl, j, rfl⟩))
      go_ret2
      rw [H1.out, H2.out]
      exact ⟨none, 0, 0, _, rfl, num_nil _, drew_below ((Below.refl _ _).alloc (Nat.le_refl _) _) _⟩
    · have H1 : Hid (subR n m f g = sm (2 ^ 32) f n - sm (2 ^ 32) g m) := (if_neg hl).trans (if_neg hlt)
      have H2 : Hid (subE n m f g = 0) := (if_neg hl).trans (if_neg hlt)
      have hle : sm (2 ^ 32) g m ≤ sm (2 ^ 32) f n := by omega
      have HC := cm_ge hlt
      obtain ⟨z, hz⟩ : ∃ z, cm (sm (2 ^ 32) f n) (sm (2 ^ 32) g m) = z := ⟨_, rfl⟩
      rw [hz] at HC
      obtain ⟨z0, z1⟩ := HC
      have HZ := Lib.hid hz
      have lp := lf.mono (tr_le f n)
      have lq := lg.mono (tr_le g m)
      have ep := tr_le f n
      have eq := tr_le g m
      have sp := sm_tr (2 ^ 32) f n
      have sq := sm_tr (2 ^ 32) g m
      obtain ⟨p, hp⟩ : ∃ p, tr f n = p := ⟨_, rfl⟩
      obtain ⟨q, hq⟩ : ∃ q, tr g m = q := ⟨_, rfl⟩
      have h4096 : p ≤ 4096 ∧ q ≤ 4096 := by
        unfold tl2 at hl'
        simp only [Bool.or_eq_false_iff, decide_eq_false_iff_not] at hl'
        omega
      rw [hp] at lp ep sp
      rw [hq] at lq eq sq
      have HP := Lib.hid hp
      have HQ := Lib.hid hq
      rw [← sp, ← sq] at hle H1
      have HLE := Lib.hid hle
      clear hl hl' hlt hz hle hp hq sp sq
      have HT1 : Hid (∀ W, Below w.heap.size w W → Calls Tryz.prog 68 #[.slice A n c] W fun e w' => e = .returned (.slice A p c) ∧ W = w') := Lib.hid fun W hW => by
        have := trim_any A n c f W (hA.below hW) hnc hc
        rw [HP.out] at this
        exact this
      have HT2 : Hid (∀ W, Below w.heap.size w W → Calls Tryz.prog 68 #[.slice B m d] W fun e w' => e = .returned (.slice B q d) ∧ W = w') := Lib.hid fun W hW => by
        have := trim_any B m d g W (hB.below hW) hmd hd
        rw [HQ.out] at this
        exact this
      unfold maxLen at hc hd
      have hbw1 : Below w.heap.size w (w.alloc (.cells #[.slice A n c, .slice B m d] 48)) := (Below.refl _ _).alloc (Nat.le_refl _) _
      go_enter Tryz.func32, Tryz.ntmps32
      go_wp2_with (first
        | (go_at_call 65; refine HL.out.mono ?_; rintro e w2 ⟨rfl, rfl⟩)
        | (go_at_call 66; refine HM.out.mono ?_; rw [HZ.out]; rintro e w4 ⟨rfl, j, rfl⟩; have hbw2 := Lib.hid (drew_below hbw1 j))
        | (go_at_call_of 68 (Value.slice A n c); refine (HT1.out _ hbw2.out).mono ?_; rintro e w' ⟨rfl, rfl⟩)
        | (go_at_call 67; refine (clone_any A p c f _ ((hA.below hbw2.out).mono ep) (by omega)).mono ?_; rintro e w5 ⟨v5, rfl, hown5, hb5⟩; have hbw5 := Lib.hid (hbw2.out.trans (hb5.mono hbw2.out.size)))
        | (go_at_call_of 68 (Value.slice B m d); refine (HT2.out _ hbw5.out).mono ?_; rintro e w' ⟨rfl, rfl⟩))
      have hbw := hbw5.out
      have hs0 := hbw2.out.size
      have hs5 := hbw.size
      have hB5 := hB.below hbw
      clear hb5 hbw2 hbw5
      rcases hown5.2 with ⟨rfl, hp0⟩ | ⟨g0, cap, _, rfl, hg0, _⟩
      · subst hp0
        refine (subtract_nil _ _ _ _ _ _).mono ?_
        rintro e w6 ⟨rfl, rfl⟩
        have HT3 := Lib.hid (trim_any none 0 0 (fun _ => 0) w5 Rd.none_ (Nat.le_refl _) (by simp [maxLen]))
        go_wp2_with (go_at_call 68; refine HT3.out.mono ?_; rintro e w' ⟨rfl, rfl⟩)
        go_ret2
        rw [H1.out, H2.out]
        have e0 : sm (2 ^ 32) f 0 - sm (2 ^ 32) g q = 0 := by simp [sm]
        rw [e0]
        exact ⟨none, 0, 0, _, rfl, num_nil _, hbw⟩
      · obtain ⟨cur, hbk, hint, hbg, hcap, hcm, _, hfin⟩ := own_wrote hown5
        have hgw : w.heap.size ≤ g0 := Nat.le_trans hs0 hg0
        refine (subtract_any g0 0 p cap _ cur f B q d g w5 hbk hint (hB5.mono eq) (fun b o e h0 => ?_) lp lq (by unfold maxLen; omega) (by unfold maxLen; omega)).mono ?_
        · have := hB.lt e (by omega)
          omega
        · rintro e w6 ⟨rfl, f', cur', k, hrel⟩
          obtain ⟨hr6, hnum6, hb6⟩ := sub_fin hrel HLE.out lp hfin hcap hcm hbw hgw
          have HT3 := Lib.hid (trim_any (some ⟨g0, 0, none⟩) p cap f' w6 hr6 hcap hcm)
          have HN := Lib.hid hnum6
          clear hrel hfin hnum6 hbk hint hown5 hr6
          go_wp2_with (go_at_call 68; refine HT3.out.mono ?_; rintro e w' ⟨rfl, rfl⟩)
          go_ret2
          rw [H1.out, H2.out]
          exact ⟨_, _, cap, f', rfl, HN.out, hb6⟩
end Go.Proofs.YtljbnnpmnoejeaaGreatDoor.nn
namespace Go.Proofs.YtljbnnpmnoejeaaGreatDoor.nn
open Go.RowKit

/-- what Mul answers -/
def mulR (n m : Nat) (f g : Nat → Nat) : Nat := if tl2 n m f g = true then 0 else fitR (sm (2 ^ 32) f n * sm (2 ^ 32) g m)
def mulE (n m : Nat) (f g : Nat → Nat) : Nat := if tl2 n m f g = true then 2 else fitE (sm (2 ^ 32) f n * sm (2 ^ 32) g m)

set_option maxRecDepth 100000 in
set_option maxHeartbeats 1000000 in
theorem mul_any (A B : Option Addr) (n m c d : Nat) (f g : Nat → Nat) (w : World) (hA : Rd w .u32 A n f) (hB : Rd w .u32 B m g) (lf : Lt (2 ^ 32) f n) (lg : Lt (2 ^ 32) g m)
    (hnc : n ≤ c) (hmd : m ≤ d) (hc : c ≤ maxLen) (hd : d ≤ maxLen) :
    Calls Tryz.prog 189 #[.slice A n c, .slice B m d] w fun e w' => Res w w' e (mulR n m f g) (mulE n m f g) := by
  by_cases hl : tl2 n m f g = true
  · have H1 : Hid (mulR n m f g = 0) := if_pos hl
    have H2 : Hid (mulE n m f g = 2) := if_pos hl
    have HL := Lib.hid (long_two w A B n m c d f g 48 hA hB hnc hmd hc hd true hl)
    clear hl
    unfold maxLen at hc hd
    go_enter Tryz.func189, Tryz.ntmps189
    go_wp2_with (go_at_call 65; refine HL.out.mono ?_; rintro e w2 ⟨rfl, rfl⟩)
    go_ret2
    rw [H1.out, H2.out]
    exact ⟨none, 0, 0, _, rfl, num_nil _, (Below.refl _ _).alloc (Nat.le_refl _) _⟩
  · have hl' : tl2 n m f g = false := by cases h : tl2 n m f g <;> simp_all
    have H1 : Hid (mulR n m f g = fitR (sm (2 ^ 32) f n * sm (2 ^ 32) g m)) := if_neg hl
    have H2 : Hid (mulE n m f g = fitE (sm (2 ^ 32) f n * sm (2 ^ 32) g m)) := if_neg hl
    have HL := Lib.hid (long_two w A B n m c d f g 48 hA hB hnc hmd hc hd false hl')
    have lp := lf.mono (tr_le f n)
    have lq := lg.mono (tr_le g m)
    have ep := tr_le f n
    have eq := tr_le g m
    have sp := sm_tr (2 ^ 32) f n
    have sq := sm_tr (2 ^ 32) g m
    obtain ⟨p, hp⟩ : ∃ p, tr f n = p := ⟨_, rfl⟩
    obtain ⟨q, hq⟩ : ∃ q, tr g m = q := ⟨_, rfl⟩
    have h4096 : p ≤ 4096 ∧ q ≤ 4096 := by
      unfold tl2 at hl'
      simp only [Bool.or_eq_false_iff, decide_eq_false_iff_not] at hl'
      omega
    rw [hp] at lp ep sp
    rw [hq] at lq eq sq
    rw [← sp, ← sq] at H1 H2
    have HP := Lib.hid hp
    have HQ := Lib.hid hq
    have HT1 : Hid (∀ W, Below w.heap.size w W → Calls Tryz.prog 68 #[.slice A n c] W fun e w' => e = .returned (.slice A p c) ∧ W = w') := Lib.hid fun W hW => by
      have := trim_any A n c f W (hA.below hW) hnc hc
      rw [HP.out] at this
      exact this
    have HT2 : Hid (∀ W, Below w.heap.size w W → Calls Tryz.prog 68 #[.slice B m d] W fun e w' => e = .returned (.slice B q d) ∧ W = w') := Lib.hid fun W hW => by
      have := trim_any B m d g W (hB.below hW) hmd hd
      rw [HQ.out] at this
      exact this
    have hbw1 : Below w.heap.size w (w.alloc (.cells #[.slice A n c, .slice B m d] 48)) := (Below.refl _ _).alloc (Nat.le_refl _) _
    have LP := Lib.hid lp
    have LQ := Lib.hid lq
    clear hl hl' hp hq sp sq lf lg lp lq
    unfold maxLen at hc hd
    go_enter Tryz.func189, Tryz.ntmps189
    go_wp2_with fail
    refine HL.out.mono ?_
    rintro e w' ⟨rfl, rfl⟩
    go_wp2_with fail
    refine (HT1.out _ hbw1).mono ?_
    rintro e w' ⟨rfl, rfl⟩
    go_wp2_with fail
    refine (widen_any A p c f _ ((hA.below hbw1).mono ep) LP.out (by omega)).mono ?_
    rintro e w3 ⟨g3, cur3, f3, rfl, hg3, hk3, hs3, hi3, l3, v3, hb3⟩
    have hbw3 : Below w.heap.size w w3 := hbw1.trans (hb3.mono hbw1.size)
    have r3 := hi3.rd hk3
    have L3 := Lib.hid l3
    have V3 := Lib.hid v3
    clear hk3 hi3 hs3 l3 v3 hg3 hb3
    go_wp2_with fail
    refine (HT2.out _ hbw3).mono ?_
    rintro e w' ⟨rfl, rfl⟩
    go_wp2_with fail
    refine (widen_any B q d g _ ((hB.below hbw3).mono eq) LQ.out (by omega)).mono ?_
    rintro e w5 ⟨g5, cur5, f5, rfl, hg5, hk5, hs5, hi5, l5, v5, hb5⟩
    have hbw5 : Below w.heap.size w w5 := hbw3.trans (hb5.mono hbw3.size)
    have r5 := hi5.rd hk5
    have r35 := r3.below hb5
    have L5 := Lib.hid l5
    have V5 := Lib.hid v5
    clear hk5 hi5 hs5 l5 v5 hg5 hb5 r3
    go_wp2_with fail
    refine (product_any _ _ _ _ _ _ f3 f5 w5 r35 r5 L3.out L5.out (by omega) (by omega)).mono ?_
    rintro e w6 ⟨g6, cur6, f6, rfl, hg6, hk6, hs6, hi6, l6, v6, hb6⟩
    have hbw6 : Below w.heap.size w w6 := hbw5.trans (hb6.mono hbw5.size)
    have r6 := hi6.rd hk6
    have L6 := Lib.hid l6
    have V6 := Lib.hid v6
    clear hk6 hi6 hs6 l6 v6 hg6 hb6 r5 r35
    go_wp2_with fail
    refine (narrow_any _ _ _ f6 w6 r6 L6.out (by omega)).mono ?_
    rintro e w7 ⟨A7, n7, c7, f7, rfl, hn7, _, hb7⟩
    have hbw7 : Below w.heap.size w w7 := hbw6.trans (hb7.mono hbw6.size)
    have HB := Lib.hid (bounded_any A7 n7 c7 f7 w7 hn7.rd hn7.le hn7.cap hn7.lt)
    have V7 := Lib.hid hn7.val
    clear hn7 hb7 r6
    go_wp2_with fail
    refine HB.out.mono ?_
    rintro e w8 ⟨A8, n8, c8, f8, rfl, hn8, hb8⟩
    have hv : sm (2 ^ 32) f7 n7 = sm (2 ^ 32) f p * sm (2 ^ 32) g q := by rw [V7.out, V6.out, V3.out, V5.out]
    have HV := Lib.hid hv
    have HN := Lib.hid hn8
    clear hv hn8
    go_wp2
    go_ret2
    rw [H1.out, H2.out, ← HV.out]
    exact ⟨A8, n8, c8, f8, rfl, HN.out, hbw7.trans (hb8.mono hbw7.size)⟩
end Go.Proofs.YtljbnnpmnoejeaaGreatDoor.nn
namespace Go.Proofs.YtljbnnpmnoejeaaGreatDoor.nn
open Go.RowKit

theorem bits_val {f : Nat → Nat} {n j : Nat} (lf : Lt (2 ^ 32) f n) (h : tr f n = j + 1) : bl (sm (2 ^ 32) f n) = 32 * j + bl (f j) ∧ f j ≠ 0 ∧ j < n := by
  have hle := tr_le f n
  have ht := tr_trm f n
  rw [h] at ht hle
  have hne : f j ≠ 0 := by
    rcases ht with ht | ht
    · omega
    · simpa using ht
  rw [← sm_tr, h]
  exact ⟨bl_sm 32 (lf.mono hle) hne, hne, by omega⟩

set_option maxRecDepth 100000 in
set_option maxHeartbeats 400000 in
theorem bits_any (A : Option Addr) (n c : Nat) (f : Nat → Nat) (w : World) (hA : Rd w .u32 A n f) (lf : Lt (2 ^ 32) f n) (hn : n ≤ c) (hc : c ≤ maxLen) (hreach : n * 4 ≤ 140737488355328) :
    Calls Tryz.prog 70 #[.slice A n c] w fun e w' => e = .returned (.int .i64 (bl (sm (2 ^ 32) f n))) ∧ w = w' := by
  have HT := Lib.hid (trim_any A n c f w hA hn hc)
  have hle := tr_le f n
  rcases hj : tr f n with _ | j
  · have H0 : Hid (bl (sm (2 ^ 32) f n) = 0) := by
      rw [← sm_tr, hj]; rfl
    rw [hj] at HT
    clear hj
    go_enter Tryz.func70, Tryz.ntmps70
    go_wp2_with (go_at_call 68; refine HT.out.mono ?_; rintro e w' ⟨rfl, rfl⟩)
    go_ret
    exact ⟨by rw [H0.out]; rfl, rfl⟩
  · obtain ⟨h1, h2, h3⟩ := bits_val lf hj
    have bx := lf j h3
    have hlen := Lib.hid ((Go.Proofs.Tryz.bits_Len32 (f j : Int) w (by omega) (by omega)).mono (R' := fun e w' => e = .returned (.int .i64 (bl (f j))) ∧ w = w') (by
      rintro e w' ⟨rfl, rfl⟩
      exact ⟨by rw [Int.toNat_natCast, bitLen_bl 32 _ bx (by omega)], rfl⟩))
    have H1 := Lib.hid h1
    rw [hj] at HT hle
    have hbl : bl (f j) ≤ 32 := by
      rcases Nat.lt_or_ge 32 (bl (f j)) with h | h
      · have h4 := (bl_ge h2).1
        have h5 : 2 ^ 32 ≤ 2 ^ (bl (f j) - 1) := Nat.pow_le_pow_right (by decide) (by omega)
        omega
      · exact h
    obtain ⟨b, off, rfl, _, hcell⟩ := hA (by omega)
    have hx := hcell j h3
    clear h1 h2 hj hcell
    go_enter Tryz.func70, Tryz.ntmps70
    go_wp2_with (first
      | (go_at_call 68; refine HT.out.mono ?_; rintro e w' ⟨rfl, rfl⟩)
      | (go_at_call 110; refine hlen.out.mono ?_; rintro e w' ⟨rfl, rfl⟩))
    go_ret
    refine ⟨ret_int ?_, rfl⟩
    rw [H1.out]
    omega

/-- what Shl and Shr answer -/
def shlR (n : Nat) (f : Nat → Nat) (z : Int) : Nat := if 4096 < tr f n ∨ z < 0 ∨ sm (2 ^ 32) f n = 0 ∨ 131072 - (bl (sm (2 ^ 32) f n) : Int) < z then 0 else sm (2 ^ 32) f n * 2 ^ z.toNat
def shlE (n : Nat) (f : Nat → Nat) (z : Int) : Nat := if 4096 < tr f n then 2 else if z < 0 then 1 else if sm (2 ^ 32) f n = 0 then 0 else if 131072 - (bl (sm (2 ^ 32) f n) : Int) < z then 2 else 0
set_option maxRecDepth 100000 in
set_option maxHeartbeats 1000000 in
theorem shl_any (A : Option Addr) (n c : Nat) (z : Int) (f : Nat → Nat) (w : World) (hA : Rd w .u32 A n f) (lf : Lt (2 ^ 32) f n) (hn : n ≤ c) (hc : c ≤ maxLen) (hreach : n * 4 ≤ 140737488355328) (hz : z ≤ 9223372036854775807) (hzl : -9223372036854775808 ≤ z) :
    Calls Tryz.prog 187 #[.slice A n c, .int .i64 z] w fun e w' => Res w w' e (shlR n f z) (shlE n f z) := by
  have hle := tr_le f n
  unfold maxLen at hc
  by_cases hl : 4096 < tr f n
  · have hd := Lib.hid (decide_eq_true hl)
    have H1 : Hid (shlR n f z = 0) := if_pos (.inl hl)
    have H2 : Hid (shlE n f z = 2) := if_pos hl
    clear hl
    go_enter Tryz.func187, Tryz.ntmps187
    go_wp2_with (go_at_call 65; refine (long_one _ _ _ _ _ _ hA hn (by unfold maxLen; omega) true hd.out).mono ?_; rintro e w' ⟨rfl, rfl⟩)
    go_ret2
    rw [H1.out, H2.out]
    exact ⟨none, 0, 0, _, rfl, num_nil _, (Below.refl _ _).alloc (Nat.le_refl _) _⟩
  · have hd := Lib.hid (decide_eq_false hl)
    have hbw : Below w.heap.size w (w.alloc (.cells #[.slice A n c] 48)) := (Below.refl _ _).alloc (Nat.le_refl _) _
    by_cases hz0 : z < 0
    · have H1 : Hid (shlR n f z = 0) := if_pos (.inr (.inl hz0))
      have H2 : Hid (shlE n f z = 1) := (if_neg hl).trans (if_pos hz0)
      clear hl
      go_enter Tryz.func187, Tryz.ntmps187
      go_wp2_with (go_at_call 65; refine (long_one _ _ _ _ _ _ hA hn (by unfold maxLen; omega) false hd.out).mono ?_; rintro e w' ⟨rfl, rfl⟩)
      go_ret2
      rw [H1.out, H2.out]
      exact ⟨none, 0, 0, _, rfl, num_nil _, hbw⟩
    · have HB := Lib.hid (bits_any A n c f (w.alloc (.cells #[.slice A n c] 48)) (hA.alloc _) lf hn (by unfold maxLen; omega) hreach)
      by_cases hv0 : sm (2 ^ 32) f n = 0
      · have H1 : Hid (shlR n f z = 0) := if_pos (.inr (.inr (.inl hv0)))
        have H2 : Hid (shlE n f z = 0) := (if_neg hl).trans ((if_neg hz0).trans (if_pos hv0))
        rw [hv0, bl_zero] at HB
        clear hl hv0
        go_enter Tryz.func187, Tryz.ntmps187
        go_wp2_with (first
          | (go_at_call 65; refine (long_one _ _ _ _ _ _ hA hn (by unfold maxLen; omega) false hd.out).mono ?_; rintro e w' ⟨rfl, rfl⟩)
          | (go_at_call 70; refine HB.out.mono ?_; rintro e w' ⟨rfl, rfl⟩))
        go_ret2
        rw [H1.out, H2.out]
        exact ⟨none, 0, 0, _, rfl, num_nil _, hbw⟩
      · have hbl0 := (bl_ge hv0).2
        have hblm : bl (sm (2 ^ 32) f n) ≤ 131072 := by
          have h1 := sm_lt (lf.mono hle)
          rw [sm_tr, ← Nat.pow_mul] at h1
          have := bl_le h1
          omega
        obtain ⟨K, hK⟩ : ∃ K, bl (sm (2 ^ 32) f n) = K := ⟨_, rfl⟩
        rw [hK] at HB hbl0 hblm
        have HK := Lib.hid hK
        by_cases hbig : 131072 - (K : Int) < z
        · have H1 : Hid (shlR n f z = 0) := if_pos (.inr (.inr (.inr (by rw [hK]; exact hbig))))
          have H2 : Hid (shlE n f z = 2) := (if_neg hl).trans ((if_neg hz0).trans ((if_neg hv0).trans (if_pos (by rw [hK]; exact hbig))))
          clear hl hv0 hK
          go_enter Tryz.func187, Tryz.ntmps187
          go_wp2_with (first
            | (go_at_call 65; refine (long_one _ _ _ _ _ _ hA hn (by unfold maxLen; omega) false hd.out).mono ?_; rintro e w' ⟨rfl, rfl⟩)
            | (go_at_call 70; refine HB.out.mono ?_; rintro e w' ⟨rfl, rfl⟩))
          go_ret2
          rw [H1.out, H2.out]
          exact ⟨none, 0, 0, _, rfl, num_nil _, hbw⟩
        · obtain ⟨s, rfl⟩ := Int.eq_ofNat_of_zero_le (show 0 ≤ z by omega)
          have H1 : Hid (shlR n f s = sm (2 ^ 32) f (tr f n) * 2 ^ s) := by
            have : ¬ (4096 < tr f n ∨ (s : Int) < 0 ∨ sm (2 ^ 32) f n = 0 ∨ 131072 - (bl (sm (2 ^ 32) f n) : Int) < s) := by rw [hK]; omega
            show shlR n f s = _
            rw [shlR, if_neg this, Int.toNat_natCast, sm_tr]
          have H2 : Hid (shlE n f s = 0) := (if_neg hl).trans ((if_neg hz0).trans ((if_neg hv0).trans (if_neg (by rw [hK]; exact hbig))))
          have HD := Lib.hid (shiftUp_any A (tr f n) c s (s / 32) (s % 32) f (w.alloc (.cells #[.slice A n c] 48)) ((hA.alloc _).mono hle) (lf.mono hle) (by omega) (by omega) (by omega))
          clear hl hz0 hv0 hK
          go_enter Tryz.func187, Tryz.ntmps187
          go_wp2_with (first
            | (go_at_call 65; refine (long_one _ _ _ _ _ _ hA hn (by unfold maxLen; omega) false hd.out).mono ?_; rintro e w' ⟨rfl, rfl⟩)
            | (go_at_call 70; refine HB.out.mono ?_; rintro e w' ⟨rfl, rfl⟩)
            | (go_at_call 68; refine (trim_any _ _ _ _ _ (hA.alloc _) hn (by unfold maxLen; omega)).mono ?_; rintro e w' ⟨rfl, rfl⟩)
            | (go_at_call 199; refine HD.out.mono ?_; rintro e w' ⟨A3, n3, c3, f3, rfl, hn3, _, hb3⟩))
          go_ret2
          rw [H1.out, H2.out]
          exact ⟨A3, n3, c3, f3, rfl, hn3, hbw.trans (hb3.mono (by rw [hsz]; omega))⟩
end Go.Proofs.YtljbnnpmnoejeaaGreatDoor.nn
namespace Go.Proofs.YtljbnnpmnoejeaaGreatDoor.nn
open Go.RowKit

theorem divide_any (A B : Option Addr) (n m c d : Nat) (f h : Nat → Nat) (w : World) (hA : Rd w .u64 A n f) (hB : Rd w .u64 B m h)
    (lf : Lt W64 f n) (lh : Lt W64 h m) (tf : Trm f n) (th : Trm h m) (hn : n ≤ 400000) (hm : m ≤ 400000) (h0 : 0 < sm W64 h m) :
    Calls Tryz.prog 198 #[.slice A n c, .slice B m d] w fun e w' => Two w w' e (sm W64 f n / sm W64 h m) (sm W64 f n % sm W64 h m) := by
  rcases Nat.lt_or_ge (sm W64 f n) (sm W64 h m) with hlt | hge
  · exact divide_less A B n m c d f h w hA hB lf lh tf th hn hm hlt
  · rcases (by omega : m = 0 ∨ m = 1 ∨ 2 ≤ m) with rfl | rfl | hm2
    · simp [sm] at h0
    · exact divide_one A B n c d f h w hA hB lf lh tf th hn hge
    · exact divide_many A B n m c d f h w hA hB lf lh tf th hn hm hm2 hge

/-- limbs put in pairs are trimmed where the limbs are -/
theorem wide_trm {f f' : Nat → Nat} {p N : Nat} (tf : Trm f p) (hN : N = (p + 1) / 2) (l : Lt W64 f' N) (v : sm W64 f' N = sm (2 ^ 32) f p) : Trm f' N := by
  rcases Nat.eq_zero_or_pos p with h0 | h0
  · left; omega
  · obtain ⟨q, rfl⟩ : ∃ q, p = q + 1 := ⟨p - 1, by omega⟩
    obtain ⟨M, rfl⟩ : ∃ M, N = M + 1 := ⟨N - 1, by omega⟩
    refine trm_of l ?_
    rw [v]
    rcases tf with tf | tf
    · omega
    · have h1 := sm_ge (B := 2 ^ 32) (f := f) (n := q) (by simpa using tf)
      rw [w64_pow]
      exact Nat.le_trans (Nat.pow_le_pow_right (Nat.two_pow_pos 32) (by omega)) h1

/-- two numbers, and the number of the error -/
def Res2 (w w' : World) (e : Ending) (Q R er : Nat) : Prop :=
  ∃ A1 n1 c1 f1 A2 n2 c2 f2, e = .returned (.tuple #[.slice A1 n1 c1, .slice A2 n2 c2, .int .i64 (er : Int)]) ∧ Num w' A1 n1 c1 f1 Q ∧ Num w' A2 n2 c2 f2 R ∧ Below w.heap.size w w'

/-- what Div answers -/
def divE (n m : Nat) (f g : Nat → Nat) : Nat := if tl2 n m f g = true then 2 else if sm (2 ^ 32) g m = 0 then 1 else 0
def divQ (n m : Nat) (f g : Nat → Nat) : Nat := if tl2 n m f g = true then 0 else sm (2 ^ 32) f n / sm (2 ^ 32) g m
def divR (n m : Nat) (f g : Nat → Nat) : Nat := if tl2 n m f g = true then 0 else if sm (2 ^ 32) g m = 0 then 0 else sm (2 ^ 32) f n % sm (2 ^ 32) g m

set_option maxRecDepth 100000 in
set_option maxHeartbeats 1000000 in
theorem div_all (A B : Option Addr) (n m c d : Nat) (f g : Nat → Nat) (w : World) (hA : Rd w .u32 A n f) (hB : Rd w .u32 B m g) (lf : Lt (2 ^ 32) f n) (lg : Lt (2 ^ 32) g m)
    (hnc : n ≤ c) (hmd : m ≤ d) (hcm : c ≤ maxLen) (hd : m * 4 ≤ 140737488351232) (hdm : d ≤ maxLen) :
    Calls Tryz.prog 186 #[.slice A n c, .slice B m d] w fun e w' => Res2 w w' e (divQ n m f g) (divR n m f g) (divE n m f g) := by
  by_cases hl : tl2 n m f g = true
  · have H1 : Hid (divQ n m f g = 0) := if_pos hl
    have H2 : Hid (divR n m f g = 0) := if_pos hl
    have H3 : Hid (divE n m f g = 2) := if_pos hl
    have HL := Lib.hid (long_two w A B n m c d f g 48 hA hB hnc hmd hcm hdm true hl)
    clear hl
    unfold maxLen at hcm hdm
    go_enter Tryz.func186, Tryz.ntmps186
    go_wp2_with (go_at_call 65; refine HL.out.mono ?_; rintro e w2 ⟨rfl, rfl⟩)
    go_ret3
    rw [H1.out, H2.out, H3.out]
    exact ⟨none, 0, 0, _, none, 0, 0, _, rfl, num_nil _, num_nil _, (Below.refl _ _).alloc (Nat.le_refl _) _⟩
  · have hl' : tl2 n m f g = false := by cases h : tl2 n m f g <;> simp_all
    have HL := Lib.hid (long_two w A B n m c d f g 48 hA hB hnc hmd hcm hdm false hl')
    have hbw1 : Below w.heap.size w (w.alloc (.cells #[.slice A n c, .slice B m d] 48)) := (Below.refl _ _).alloc (Nat.le_refl _) _
    have HBT := Lib.hid (bits_any B m d g _ (hB.below hbw1) lg hmd hdm (by omega))
    by_cases hz : sm (2 ^ 32) g m = 0
    · have H1 : Hid (divQ n m f g = 0) := Lib.hid (by unfold divQ; rw [if_neg hl, hz]; exact Nat.div_zero _)
      have H2 : Hid (divR n m f g = 0) := Lib.hid (by unfold divR; rw [if_neg hl, if_pos hz])
      have H3 : Hid (divE n m f g = 1) := Lib.hid (by unfold divE; rw [if_neg hl, if_pos hz])
      rw [hz, bl_zero] at HBT
      clear hl hl' hz
      unfold maxLen at hcm hdm
      go_enter Tryz.func186, Tryz.ntmps186
      go_wp2_with fail
      refine HL.out.mono ?_
      rintro e w' ⟨rfl, rfl⟩
      go_wp2_with fail
      refine HBT.out.mono ?_
      rintro e w' ⟨rfl, rfl⟩
      go_wp2
      go_ret3
      rw [H1.out, H2.out, H3.out]
      exact ⟨none, 0, 0, _, none, 0, 0, _, rfl, num_nil _, num_nil _, hbw1⟩
    · have H1 : Hid (divQ n m f g = sm (2 ^ 32) f n / sm (2 ^ 32) g m) := Lib.hid (by unfold divQ; rw [if_neg hl])
      have H2 : Hid (divR n m f g = sm (2 ^ 32) f n % sm (2 ^ 32) g m) := Lib.hid (by unfold divR; rw [if_neg hl, if_neg hz])
      have H3 : Hid (divE n m f g = 0) := Lib.hid (by unfold divE; rw [if_neg hl, if_neg hz])
      have hbpos := (bl_ge hz).2
      have lp := lf.mono (tr_le f n)
      have lq := lg.mono (tr_le g m)
      have ep := tr_le f n
      have eq := tr_le g m
      have sp := sm_tr (2 ^ 32) f n
      have sq := sm_tr (2 ^ 32) g m
      have tp := tr_trm f n
      have tq := tr_trm g m
      obtain ⟨p, hp⟩ : ∃ p, tr f n = p := ⟨_, rfl⟩
      obtain ⟨q, hq⟩ : ∃ q, tr g m = q := ⟨_, rfl⟩
      have h4096 : p ≤ 4096 ∧ q ≤ 4096 := by
        unfold tl2 at hl'
        simp only [Bool.or_eq_false_iff, decide_eq_false_iff_not] at hl'
        omega
      rw [hp] at lp ep sp tp
      rw [hq] at lq eq sq tq
      rw [← sp, ← sq] at H1 H2
      rw [← sq] at hz hbpos HBT
      have HP := Lib.hid hp
      have HQ := Lib.hid hq
      have HZ := Lib.hid hz
      have TP := Lib.hid tp
      have TQ := Lib.hid tq
      obtain ⟨K, hK⟩ : ∃ K, bl (sm (2 ^ 32) g q) = K := ⟨_, rfl⟩
      rw [hK] at HBT hbpos
      have hKb : ((K : Int) == 0) = false := by rw [beq_eq_false_iff_ne]; omega
      have HT1 : Hid (∀ W, Below w.heap.size w W → Calls Tryz.prog 68 #[.slice A n c] W fun e w' => e = .returned (.slice A p c) ∧ W = w') := Lib.hid fun W hW => by
        have := trim_any A n c f W (hA.below hW) hnc hcm
        rw [HP.out] at this
        exact this
      have HT2 : Hid (∀ W, Below w.heap.size w W → Calls Tryz.prog 68 #[.slice B m d] W fun e w' => e = .returned (.slice B q d) ∧ W = w') := Lib.hid fun W hW => by
        have := trim_any B m d g W (hB.below hW) hmd hdm
        rw [HQ.out] at this
        exact this
      have LP := Lib.hid lp
      have LQ := Lib.hid lq
      clear hl hl' hp hq sp sq lf lg lp lq hz hbpos hK tp tq
      unfold maxLen at hcm hdm
      go_enter Tryz.func186, Tryz.ntmps186
      go_wp2_with fail
      refine HL.out.mono ?_
      rintro e w' ⟨rfl, rfl⟩
      go_wp2_with fail
      refine HBT.out.mono ?_
      rintro e w' ⟨rfl, rfl⟩
      go_wp2_with fail
      refine (HT1.out _ hbw1).mono ?_
      rintro e w' ⟨rfl, rfl⟩
      go_wp2_with fail
      refine (widen_any A p c f _ ((hA.below hbw1).mono ep) LP.out (by omega)).mono ?_
      rintro e w3 ⟨g3, cur3, f3, rfl, hg3, hk3, hs3, hi3, l3, v3, hb3⟩
      have hbw3 : Below w.heap.size w w3 := hbw1.trans (hb3.mono hbw1.size)
      have r3 := hi3.rd hk3
      have L3 := Lib.hid l3
      have V3 := Lib.hid v3
      clear hk3 hi3 hs3 l3 v3 hg3 hb3
      go_wp2_with fail
      refine (HT2.out _ hbw3).mono ?_
      rintro e w' ⟨rfl, rfl⟩
      go_wp2_with fail
      refine (widen_any B q d g _ ((hB.below hbw3).mono eq) LQ.out (by omega)).mono ?_
      rintro e w5 ⟨g5, cur5, f5, rfl, hg5, hk5, hs5, hi5, l5, v5, hb5⟩
      have hbw5 : Below w.heap.size w w5 := hbw3.trans (hb5.mono hbw3.size)
      have r5 := hi5.rd hk5
      have r35 := r3.below hb5
      have L5 := Lib.hid l5
      have V5 := Lib.hid v5
      clear hk5 hi5 hs5 l5 v5 hg5 hb5 r3
      have T3 := Lib.hid (wide_trm TP.out rfl L3.out V3.out)
      have T5 := Lib.hid (wide_trm TQ.out rfl L5.out V5.out)
      go_wp2_with fail
      refine (divide_any _ _ _ _ _ _ f3 f5 w5 r35 r5 L3.out L5.out T3.out T5.out (by omega) (by omega) (by have h1 := V5.out; have h2 := HZ.out; omega)).mono ?_
      rintro e w6 ⟨A6, n6, c6, f6, A7, n7, c7, f7, rfl, r6, r7, l6, l7, v6, v7, b6, b7, hb6⟩
      have hbw6 : Below w.heap.size w w6 := hbw5.trans (hb6.mono hbw5.size)
      have L6 := Lib.hid l6
      have V6 := Lib.hid v6
      have L7 := Lib.hid l7
      have V7 := Lib.hid v7
      clear l6 v6 hb6 r5 r35 l7 v7
      go_wp2_with fail
      refine (narrow_any _ _ _ f6 w6 r6 L6.out (by omega)).mono ?_
      rintro e w8 ⟨A8, n8, c8, f8, rfl, h8, _, hb8⟩
      have hbw8 : Below w.heap.size w w8 := hbw6.trans (hb8.mono hbw6.size)
      have r78 := r7.below hb8
      have N8 := Lib.hid h8
      clear h8 hb8 r6 r7
      go_wp2_with fail
      refine (narrow_any _ _ _ f7 w8 r78 L7.out (by omega)).mono ?_
      rintro e w9 ⟨A9, n9, c9, f9, rfl, h9, _, hb9⟩
      have hbw9 : Below w.heap.size w w9 := hbw8.trans (hb9.mono hbw8.size)
      have N9 := Lib.hid h9
      have N8' : Hid (Num w9 A8 n8 c8 f8 (sm W64 f6 n6)) := Lib.hid ⟨N8.out.le, N8.out.cap, N8.out.rd.below hb9, N8.out.lt, N8.out.trm, N8.out.val⟩
      clear h9 hb9 r78
      go_wp2
      go_ret3
      rw [H1.out, H2.out, H3.out]
      refine ⟨A8, n8, c8, f8, A9, n9, c9, f9, rfl, ?_, ?_, hbw9⟩
      · have h1 := N8'.out
        rw [V6.out, V3.out, V5.out] at h1
        exact h1
      · have h1 := N9.out
        rw [V7.out, V3.out, V5.out] at h1
        exact h1
end Go.Proofs.YtljbnnpmnoejeaaGreatDoor.nn
namespace Go.Proofs.YtljbnnpmnoejeaaGreatDoor.nn
open Go.RowKit

/-- what holds when i limbs are done, with k to carry -/
def TpRel (w wr : World) (g : Nat) (e : TypeId) (cur : Array Value) (n : Nat) (f : Nat → Nat) (F M : Nat) (f' : Nat → Nat) (cur' : Array Value) (k i : Nat) : Prop :=
  Wrote w wr g e cur cur' 0 n ∧ Ints cur' .u64 0 n f' ∧ Lt W64 f' n ∧ (∀ j, i ≤ j → j < n → f' j = f j) ∧ sm W64 f' i + k * W64 ^ i = sm W64 f i * F + M
theorem TpRel.step {w wr : World} {g : Nat} {e : TypeId} {cur : Array Value} {n : Nat} {f : Nat → Nat} {F M : Nat} {f' : Nat → Nat} {cur' : Array Value} {k i : Nat} (H : TpRel w wr g e cur n f F M f' cur' k i) (hi : i < n) (k' v : Nat)
    (hk : f' i * F + k = v + k' * W64) (hv : v < W64) :
    TpRel w (wr.setCell ⟨g, i, none⟩ (.int .u64 (v : Int))) g e cur n f F M (upd f' i v) (cur'.setIfInBounds i (.int .u64 (v : Int))) k' (i + 1) := by
  obtain ⟨h1, h2, h3, h4, h5⟩ := H
  have a := h1.set_ i hi (.int .u64 (v : Int))
  have b := h2.set_ i v hi
  rw [Nat.zero_add] at a b
  refine ⟨a, b, h3.upd hv, fun j ha hb => ?_, ?_⟩
  · rw [upd_ne f' (by omega)]; exact h4 j (by omega) hb
  · have e1 : sm W64 f (i + 1) = sm W64 f i + f i * W64 ^ i := rfl
    rw [sm_snoc, e1, ← h4 i (Nat.le_refl _) hi, Nat.pow_succ W64 i, Nat.add_mul]
    have e2 : f' i * W64 ^ i * F = f' i * F * W64 ^ i := by rw [Nat.mul_assoc, Nat.mul_comm (W64 ^ i), ← Nat.mul_assoc]
    have e3 : f' i * F * W64 ^ i + k * W64 ^ i = v * W64 ^ i + k' * (W64 ^ i * W64) := by
      rw [← Nat.add_mul, hk, Nat.add_mul, Nat.mul_assoc, Nat.mul_comm W64]
    rw [e2]
    omega
theorem tp_words {x F k : Nat} (hx : x < W64) (hF : F < W64) (hk : k < W64) : x * F / W64 + (x * F % W64 + k) / W64 < W64 ∧ x * F + k = (x * F % W64 + k) % W64 + (x * F / W64 + (x * F % W64 + k) / W64) * W64 := by
  have hm : x * F ≤ (W64 - 1) * (W64 - 1) := Nat.mul_le_mul (by omega) (by omega)
  have hc : (W64 - 1) * (W64 - 1) + (W64 - 1) < W64 * W64 := by decide
  have h1 := Nat.div_add_mod (x * F) W64
  have h2 := Nat.div_add_mod (x * F % W64 + k) W64
  generalize x * F = p at *
  generalize p / W64 = u at *
  generalize p % W64 = v at *
  generalize (v + k) / W64 = u1 at *
  generalize (v + k) % W64 = v1 at *
  simp only [W64] at *
  omega

/-- a wide number in a row of its own -/
def OwnW (base : Nat) (w' : World) (e : Ending) (R N : Nat) : Prop :=
  ∃ v n f, e = .returned v ∧ w'.ownsRow base 22 1 v n (vl .u64 f n) ∧ Lt W64 f n ∧ sm W64 f n = R ∧ n ≤ N

set_option maxRecDepth 100000 in
set_option maxHeartbeats 1000000 in
theorem timesPlus_row (base g n c : Nat) (f : Nat → Nat) (F M : Nat) (w : World) (hown : w.ownsRow base 22 1 (.slice (some ⟨g, 0, none⟩) n c) n (vl .u64 f n)) (hbase : base ≤ w.heap.size)
    (lf : Lt W64 f n) (hF : F < W64) (hM : M < W64) (hn : n ≤ 1000000) :
    Calls Tryz.prog 63 #[.slice (some ⟨g, 0, none⟩) n c, .int .u64 F, .int .u64 M] w fun e w' => OwnW base w' e (sm W64 f n * F + M) (n + 1) ∧ Below base w w' := by
  obtain ⟨i0, hi, hz0, hz1, hz2⟩ := info_parts info_u64
  obtain ⟨cur, hbk, hint, hbg, hnc, hcm, _, hfin⟩ := own_wrote hown
  have LF := Lib.hid hF
  have LL := Lib.hid lf
  have HM := Lib.hid hM
  have HF := Lib.hid hfin
  have hM' : M ≤ 18446744073709551615 := by unfold W64 at hM; omega
  have hbg' := Lib.hid hbg
  clear hF lf hM hfin hown hcm hbg
  go_enter Tryz.func63, Tryz.ntmps63
  go_wp2
  go_loopw [2, 14] (fun s2 s14 wr => ∃ (k i : Nat) (f' : Nat → Nat) (cur' : Array Value), Hid (k < W64) ∧ i ≤ n ∧ s2 = .int .u64 (k : Int) ∧ s14 = .int .i64 i ∧ Hid (TpRel w wr g 22 cur n f F M f' cur' k i)) (fun _ s14 _ => n - (intOf s14).toNat)
  case atStart => exact ⟨M, 0, f, cur, HM, by omega, rfl, rfl, Lib.hid ⟨Wrote.refl hbk 0 n, hint, LL.out, fun _ _ _ => rfl, by simp [sm]⟩⟩
  case round =>
    obtain ⟨k, i, f', cur', hk, hin, rfl, rfl, hh⟩ := hrel
    by_cases hlt : i < n
    · have hx := (Bk.cell hh.out.1.blk (0 + i)).trans (hh.out.2.1 i hlt)
      have hxf := Bk.frozen hh.out.1.blk (0 + i)
      rw [Nat.zero_add] at hx hxf
      have bx := hh.out.2.2.1 i hlt
      obtain ⟨q1, q2⟩ := tp_words bx LF.out hk.out
      have HM : ∀ W : World, Calls Tryz.prog 106 #[.int .u64 (f' i : Nat), .int .u64 F] W fun e w' => e = .returned (.tuple #[.int .u64 ((f' i * F / W64 : Nat) : Int), .int .u64 ((f' i * F % W64 : Nat) : Int)]) ∧ W = w' := fun W =>
        (Go.Proofs.Tryz.bits_Mul64 (f' i) F bx LF.out W).mono fun e w' ⟨h1, h2⟩ => ⟨h1, h2.symm⟩
      have hA1 := fun W => run_add64_at (f' i * F % W64) k W
      obtain ⟨u, hu⟩ : ∃ u, f' i * F / W64 = u := ⟨_, rfl⟩
      obtain ⟨v, hv⟩ : ∃ v, f' i * F % W64 = v := ⟨_, rfl⟩
      simp only [hu, hv] at q1 q2 HM
      simp only [hv] at hA1
      obtain ⟨u1, hu1⟩ : ∃ u1, (v + k) / W64 = u1 := ⟨_, rfl⟩
      obtain ⟨v1, hv1⟩ : ∃ v1, (v + k) % W64 = v1 := ⟨_, rfl⟩
      simp only [hu1, hv1] at q1 q2 hA1
      have hv1l : Hid (v1 < W64) := Lib.hid (by rw [← hv1]; exact Nat.mod_lt _ (by decide))
      have HMM := Lib.hid HM
      have Q1 := Lib.hid q1
      have Q2 := Lib.hid q2
      have b1 : u + u1 ≤ 18446744073709551615 := by unfold W64 at q1; omega
      clear HM q1 q2 hu hv hu1 hv1 bx
      go_wp2_with (go_at_call 106; refine (HMM.out _).mono ?_; rintro e w' ⟨rfl, rfl⟩)
      go_roundw
      case rel => exact ⟨u + u1, i + 1, _, _, Q1, by omega, congrArg (Value.int .u64) (by omega), by go_num, Lib.hid (hh.out.step hlt _ v1 Q2.out hv1l.out)⟩
      case measure => simp [intOf]; omega
    · obtain rfl : i = n := by omega
      have ho := HF.out wr cur' f' hh.out.1 hh.out.2.1
      have hb := Lib.hid ((Below.refl base w).grown hh.out.1.grown hbase (fun k hk => by injection hk with hk; subst hk; exact hbg'.out))
      have hbs : base ≤ wr.heap.size := Nat.le_trans hbase hb.out.size
      by_cases h0 : k = 0
      · subst h0
        have HV := Lib.hid (show sm W64 f' i = sm W64 f i * F + M by have := hh.out.2.2.2.2; omega)
        have HL := Lib.hid hh.out.2.2.1
        have HO := Lib.hid ho
        clear ho
        go_wp2
        go_ret
        exact ⟨⟨_, i, f', rfl, HO.out, HL.out, HV.out, by omega⟩, hb.out⟩
      · have q : ((k : Int) != 0) = true := by simp; omega
        have HV := Lib.hid hh.out.2.2.2.2
        have HL := Lib.hid hh.out.2.2.1
        go_wp2_with (at_builtin; refine wpList_app rfl (.tmp 41) (.tmp 43) _ rfl base 22 i0 _ 8 Tryz.underlying95 hi hz0 hz1 hz2 rfl .u64 _ i f' rfl (ho.alloc _) _ 1 1 (fun _ => k) rfl (rd_one _ .u64 k _) (by unfold maxLen; omega) (by omega) (by simp; omega) ?_; intro v1 w1 hown1 hb1)
        go_ret
        refine ⟨⟨v1, i + 1, _, rfl, hown1, HL.out.jn (fun _ _ => hk.out), ?_, Nat.le_refl _⟩, (hb.out.alloc hbs _).trans hb1⟩
        rw [sm_jn]
        have e : sm W64 (fun _ => k) 1 = k := by simp [sm]
        rw [e]
        exact HV.out

set_option maxRecDepth 100000 in
set_option maxHeartbeats 1000000 in
theorem timesPlus_nil (base : Nat) (f : Nat → Nat) (F M : Nat) (w : World) (hown : w.ownsRow base 22 1 (.slice none 0 0) 0 (vl .u64 f 0)) (hbase : base ≤ w.heap.size) (hM : M < W64) (hF : F < W64) :
    Calls Tryz.prog 63 #[.slice none 0 0, .int .u64 F, .int .u64 M] w fun e w' => OwnW base w' e M 1 ∧ Below base w w' := by
  obtain ⟨i0, hi, hz0, hz1, hz2⟩ := info_parts info_u64
  have HM := Lib.hid hM
  have HO := Lib.hid hown
  have hM' : M ≤ 18446744073709551615 := by unfold W64 at hM; omega
  have hF' : F ≤ 18446744073709551615 := by unfold W64 at hF; omega
  have HB := Lib.hid (Below.refl base w)
  clear hM hF hown
  go_enter Tryz.func63, Tryz.ntmps63
  go_wp2
  go_loopw [2, 14] (fun s2 s14 wr => s2 = .int .u64 (M : Int) ∧ s14 = .int .i64 0 ∧ wr = w) (fun _ _ _ => 0)
  case atStart => exact ⟨rfl, rfl, rfl⟩
  case round =>
    obtain ⟨rfl, rfl, rfl⟩ := hrel
    by_cases h0 : M = 0
    · subst h0
      go_wp2
      go_ret
      exact ⟨⟨_, 0, f, rfl, HO.out, fun _ h => absurd h (by omega), rfl, by omega⟩, HB.out⟩
    · have q : ((M : Int) != 0) = true := by simp; omega
      go_wp2_with (at_builtin; refine wpList_app rfl (.tmp 41) (.tmp 43) _ rfl base 22 i0 _ 8 Tryz.underlying95 hi hz0 hz1 hz2 rfl .u64 _ 0 f rfl (HO.out.alloc _) _ 1 1 (fun _ => M) rfl (rd_one _ .u64 M _) (by unfold maxLen; omega) (by omega) (by simp; omega) ?_; intro v1 w1 hown1 hb1)
      go_ret
      refine ⟨⟨v1, 1, _, rfl, hown1, fun i hi => ?_, ?_, Nat.le_refl _⟩, (HB.out.alloc hbase _).trans hb1⟩
      · obtain rfl : i = 0 := by omega
        rw [jn_zero]; exact HM.out
      · rw [jn_zero]; simp [sm]

theorem timesPlus_any (base n : Nat) (v : Value) (f : Nat → Nat) (F M : Nat) (w : World) (hown : w.ownsRow base 22 1 v n (vl .u64 f n)) (hbase : base ≤ w.heap.size)
    (lf : Lt W64 f n) (hF : F < W64) (hM : M < W64) (hn : n ≤ 1000000) :
    Calls Tryz.prog 63 #[v, .int .u64 F, .int .u64 M] w fun e w' => OwnW base w' e (sm W64 f n * F + M) (n + 1) ∧ Below base w w' := by
  rcases hown.2 with ⟨rfl, hnil⟩ | ⟨g, cap, cur, rfl, _⟩
  · subst hnil
    have h := timesPlus_nil base f F M w hown hbase hM hF
    simpa [sm] using h
  · exact timesPlus_row base g n cap f F M w hown hbase lf hF hM hn
end Go.Proofs.YtljbnnpmnoejeaaGreatDoor.nn
namespace Go.Proofs.YtljbnnpmnoejeaaGreatDoor.nn

/-- byte i of a text -/
def bt (s : ByteArray) (i : Nat) : Nat := if h : i < s.size then s[i].toNat else 0
theorem bt_at {s : ByteArray} {i : Nat} (h : i < s.size) : bt s i = s[i].toNat := dif_pos h
theorem bt_lt (s : ByteArray) (i : Nat) : bt s i < 256 := by
  unfold bt
  split
  · exact s[i].toNat_lt
  · omega
end Go.Proofs.YtljbnnpmnoejeaaGreatDoor.nn
namespace Go.Proofs.YtljbnnpmnoejeaaGreatDoor.nn
open Go.RowKit

def dg (x : Nat) : Bool := decide (48 ≤ x ∧ x ≤ 57)
/-- the first n bytes are digits -/
def dgs (f : Nat → Nat) : Nat → Bool
  | 0 => true
  | n + 1 => dgs f n && dg (f n)
/-- the number of n digits -/
def dv (f : Nat → Nat) : Nat → Nat
  | 0 => 0
  | n + 1 => dv f n * 10 + (f n - 48)
theorem dgs_mono {f : Nat → Nat} {n m : Nat} (h : dgs f n = true) (hm : m ≤ n) : dgs f m = true := by
  induction n with
  | zero => obtain rfl : m = 0 := by omega
            rfl
  | succ n ih =>
    by_cases e : m = n + 1
    · subst e; exact h
    · rw [dgs, Bool.and_eq_true] at h; exact ih h.1 (by omega)
theorem dgs_at {f : Nat → Nat} {n i : Nat} (h : dgs f n = true) (hi : i < n) : 48 ≤ f i ∧ f i ≤ 57 := by
  have := dgs_mono h (show i + 1 ≤ n by omega)
  rw [dgs, Bool.and_eq_true] at this
  exact of_decide_eq_true this.2
theorem dv_lt {f : Nat → Nat} {n : Nat} (h : dgs f n = true) : dv f n < 10 ^ n := by
  induction n with
  | zero => exact Nat.zero_lt_one
  | succ n ih =>
    have h1 := ih (dgs_mono h (by omega))
    have h2 := dgs_at h (Nat.lt_succ_self n)
    rw [dv, Nat.pow_succ]
    omega
theorem dv_add (f : Nat → Nat) (a n : Nat) : dv f (a + n) = dv f a * 10 ^ n + dv (fun i => f (a + i)) n := by
  induction n with
  | zero => simp [dv]
  | succ n ih =>
    rw [← Nat.add_assoc, dv, dv, ih, Nat.pow_succ, Nat.add_mul, Nat.mul_assoc, Nat.add_assoc]
theorem dgs_add {f : Nat → Nat} {a n : Nat} (h : dgs f (a + n) = true) : dgs (fun i => f (a + i)) n = true := by
  induction n with
  | zero => rfl
  | succ n ih =>
    rw [← Nat.add_assoc, dgs, Bool.and_eq_true] at h
    rw [dgs, ih h.1]
    exact h.2
theorem dgs_congr {f g : Nat → Nat} {n : Nat} (h : ∀ i, i < n → f i = g i) : dgs f n = dgs g n := by
  induction n with
  | zero => rfl
  | succ n ih => rw [dgs, dgs, ih fun i hi => h i (by omega), h n (by omega)]
theorem dv_congr {f g : Nat → Nat} {n : Nat} (h : ∀ i, i < n → f i = g i) : dv f n = dv g n := by
  induction n with
  | zero => rfl
  | succ n ih => rw [dv, dv, ih fun i hi => h i (by omega), h n (by omega)]

set_option maxRecDepth 100000 in
set_option maxHeartbeats 1000000 in
theorem areDigits_any (s : ByteArray) (w : World) (hs : s.size ≤ maxLen) :
    Calls Tryz.prog 62 #[.string s] w fun r w' => r = .returned (.bool (dgs (bt s) s.size && decide (0 < s.size))) ∧ w = w' := by
  unfold maxLen at hs
  go_enter Tryz.func62, Tryz.ntmps62
  go_wp2
  go_loop [6] (fun s6 => ∃ i : Nat, i ≤ s.size ∧ s6 = .int .i64 (i : Int) ∧ Hid (dgs (bt s) i = true)) (fun s6 => s.size - (intOf s6).toNat)
  case atStart => exact ⟨0, Nat.zero_le _, rfl, Lib.hid rfl⟩
  case round =>
    obtain ⟨i, hi, rfl, hd⟩ := hrel
    by_cases hlt : i < s.size
    · have hx := bt_at hlt
      obtain ⟨x, hxx⟩ : ∃ x, s[i].toNat = x := ⟨_, rfl⟩
      have hx256 : x < 256 := by rw [← hxx]; exact s[i].toNat_lt
      rw [hxx] at hx
      by_cases hy : 48 ≤ x ∧ x ≤ 57
      · have HD : Hid (dgs (bt s) (i + 1) = true) := Lib.hid (by rw [dgs, hd.out, hx]; exact decide_eq_true hy)
        obtain ⟨h1, h2⟩ := hy
        clear hx
        go_wp2
        go_round
        case rel => exact ⟨i + 1, by omega, by go_num, HD⟩
        case measure => simp [intOf]; omega
      · have HD : Hid ((dgs (bt s) s.size && decide (0 < s.size)) = false) := Lib.hid (by
          cases hh : dgs (bt s) s.size with
          | false => rfl
          | true => have := dgs_at hh hlt; rw [hx] at this; exact absurd this hy)
        clear hx
        by_cases h1 : 48 ≤ x
        · have h2 : 57 < x := by omega
          clear hy
          go_wp2
          go_ret
          exact ⟨by rw [HD.out]; rfl, rfl⟩
        · clear hy
          go_wp2
          go_ret
          exact ⟨by rw [HD.out]; rfl, rfl⟩
    · obtain rfl : i = s.size := by omega
      have HD : Hid (decide (0 < s.size) = (dgs (bt s) s.size && decide (0 < s.size))) := Lib.hid (by rw [hd.out, Bool.true_and])
      go_wp2
      go_ret
      exact ⟨congrArg (fun b => Ending.returned (.bool b)) HD.out, rfl⟩

def fdR (f : Nat → Nat) (n : Nat) : Nat := if 4096 < n then 0 else if (dgs f n && decide (0 < n)) = true then dv f n else 0
def fdE (f : Nat → Nat) (n : Nat) : Nat := if 4096 < n then 2 else if (dgs f n && decide (0 < n)) = true then 0 else 4
/-- S is what stands in s from p on -/
def From (s S : ByteArray) (p : Nat) : Prop := S.size = s.size - p ∧ ∀ i, i < S.size → bt S i = bt s (p + i)

theorem From.skip {s S : ByteArray} {p n : Nat} (h : From s S p) (hn : n ≤ S.size) : From s (S.extract n S.size) (p + n) := by
  obtain ⟨h1, h2⟩ := h
  have h3 : (S.extract n S.size).size = S.size - n := by rw [ByteArray.size_extract]; omega
  refine ⟨by omega, fun i hi => ?_⟩
  have h4 : n + i < S.size := by omega
  rw [bt_at hi, ByteArray.getElem_extract, Nat.add_assoc, ← h2 (n + i) h4, bt_at h4]
theorem ten_le {i : Nat} (h : i < 19) : 10 ^ i * 10 ≤ 10000000000000000000 := by
  have h1 : 10 ^ (i + 1) ≤ 10 ^ 19 := Nat.pow_le_pow_right (by decide) (by omega)
  rw [Nat.pow_succ] at h1
  exact Nat.le_trans h1 (by decide)

set_option maxRecDepth 100000 in
set_option maxHeartbeats 2000000 in
theorem fromDigits_any (s : ByteArray) (w : World) (hs : s.size ≤ maxLen) :
    Calls Tryz.prog 31 #[.string s] w fun e w' => Res w w' e (fdR (bt s) s.size) (fdE (bt s) s.size) := by
  have HN := Lib.hid (num_nil w)
  have HB := Lib.hid (Below.refl w.heap.size w)
  have HA := fun wz => areDigits_any s wz hs
  unfold maxLen at hs
  by_cases hl : 4096 < s.size
  · have e1 : fdR (bt s) s.size = 0 := by unfold fdR; rw [if_pos hl]
    have e2 : fdE (bt s) s.size = 2 := by unfold fdE; rw [if_pos hl]
    rw [e1, e2]
    clear HA e1 e2
    go_enter Tryz.func31, Tryz.ntmps31
    go_wp2
    go_ret2
    exact ⟨_, _, _, _, rfl, HN.out, HB.out⟩
  · cases hd : (dgs (bt s) s.size && decide (0 < s.size)) with
    | false =>
      have e1 : fdR (bt s) s.size = 0 := by unfold fdR; rw [if_neg hl, if_neg (by rw [hd]; decide)]
      have e2 : fdE (bt s) s.size = 4 := by unfold fdE; rw [if_neg hl, if_neg (by rw [hd]; decide)]
      rw [hd] at HA
      rw [e1, e2]
      have HAA := Lib.hid HA
      clear HA e1 e2 hd
      go_enter Tryz.func31, Tryz.ntmps31
      go_wp2_with fail
      refine (HAA.out _).mono ?_
      rintro r w1 ⟨rfl, rfl⟩
      go_wp2_with fail
      go_ret2
      exact ⟨_, _, _, _, rfl, HN.out, HB.out⟩
    | true =>
      have e1 : fdR (bt s) s.size = dv (bt s) s.size := by unfold fdR; rw [if_neg hl, if_pos hd]
      have e2 : fdE (bt s) s.size = 0 := by unfold fdE; rw [if_neg hl, if_pos hd]
      rw [hd] at HA
      rw [e1, e2]
      have HAA := Lib.hid HA
      rw [Bool.and_eq_true] at hd
      have HD := Lib.hid hd.1
      clear HA e1 e2 hd HN
      go_enter Tryz.func31, Tryz.ntmps31
      go_wp2_with fail
      refine (HAA.out _).mono ?_
      rintro r w1 ⟨rfl, rfl⟩
      go_wp2_with fail
      go_loopw [0, 4] (fun s0 s4 wr => ∃ (p : Nat) (S : ByteArray) (v : Value) (n : Nat) (f : Nat → Nat), p ≤ s.size ∧ s0 = .string S ∧ v = s4 ∧ n ≤ p ∧ Hid (From s S p) ∧ Hid (wr.ownsRow w.heap.size 22 1 v n (vl .u64 f n) ∧ Lt W64 f n ∧ sm W64 f n = dv (bt s) p ∧ Below w.heap.size w wr)) (fun s0 _ _ => match s0 with | .string S => S.size | _ => 0)
      case atStart => exact ⟨0, s, _, 0, fun _ => 0, Nat.zero_le _, rfl, rfl, Nat.le_refl _, Lib.hid ⟨by omega, fun i _ => by rw [Nat.zero_add]⟩, Lib.hid ⟨⟨rfl, .inl ⟨rfl, rfl⟩⟩, fun _ h => absurd h (by omega), rfl, HB.out⟩⟩
      case round =>
        obtain ⟨p, S, v, n, f, hp, rfl, rfl, hnp, hS, hW⟩ := hrel
        have hSs := Lib.hid hS.out.1
        have hS4 : S.size ≤ 4096 := by have := hSs.out; omega
        by_cases hlt : 0 < S.size
        · obtain ⟨n1, hn1⟩ : ∃ n1, min S.size 19 = n1 := ⟨_, rfl⟩
          have q1 : min (S.size : Int) 19 = (n1 : Int) := by omega
          have hn19 : n1 ≤ 19 := by omega
          have hn1S : n1 ≤ S.size := by omega
          have hn10 : 0 < n1 := by omega
          have hpn : p + n1 ≤ s.size := by have := hSs.out; omega
          have hdS : Hid (dgs (bt S) S.size = true) := Lib.hid (by
            have h := dgs_add (f := bt s) (a := p) (n := s.size - p) (by rw [Nat.add_sub_cancel' hp]; exact HD.out)
            rw [← hSs.out] at h
            rw [dgs_congr hS.out.2]
            exact h)
          clear hn1
          go_wp2_with fail
          have Q1 := Lib.hid q1
          clear q1
          go_loop [6, 7, 22] (fun s6 s7 s22 => ∃ i : Nat, i ≤ n1 ∧ s6 = .int .u64 ((10 ^ i : Nat) : Int) ∧ s7 = .int .u64 (dv (bt S) i : Int) ∧ s22 = .int .i64 (i : Int)) (fun _ _ s22 => n1 - (intOf s22).toNat)
          case atStart => exact ⟨0, Nat.zero_le _, rfl, rfl, rfl⟩
          case round =>
            obtain ⟨i, hi, rfl, rfl, rfl⟩ := hrel
            by_cases hil : i < n1
            · have hiS : i < S.size := by omega
              have hx := bt_at hiS
              have hdx := dgs_at hdS.out hiS
              have hv := dv_lt (dgs_mono hdS.out (show i ≤ S.size by omega))
              have h10 := ten_le (i := i) (by omega)
              have HV : Hid (dv (bt S) (i + 1) = dv (bt S) i * 10 + (bt S i - 48)) := Lib.hid rfl
              have HP : Hid (10 ^ (i + 1) = 10 ^ i * 10) := Lib.hid (Nat.pow_succ 10 i)
              obtain ⟨x, hxx⟩ : ∃ x, S[i].toNat = x := ⟨_, rfl⟩
              rw [hxx] at hx
              rw [hx] at hdx
              have HX := Lib.hid hx
              obtain ⟨P, hP⟩ : ∃ P, 10 ^ i = P := ⟨_, rfl⟩
              obtain ⟨u, hu⟩ : ∃ u, dv (bt S) i = u := ⟨_, rfl⟩
              rw [hP, hu] at hv
              rw [hP] at h10
              have HPU := Lib.hid (And.intro hP hu)
              rw [hP, hu]
              clear hx hP hu
              go_wp2_with fail
              go_round
              case rel => exact ⟨i + 1, by omega, by rw [HP.out, HPU.out.1]; go_num, congrArg (Value.int .u64) (by rw [HV.out, HPU.out.2, HX.out]; omega), by go_num⟩
              case measure => simp [intOf]; omega
            · obtain rfl : i = n1 := by omega
              obtain ⟨ho, lf, hv, hb⟩ := hW.out
              have hc19 : 10 ^ i < W64 := Nat.lt_of_le_of_lt (Nat.pow_le_pow_right (by decide) hn19) (by decide)
              have hdl := dv_lt (dgs_mono hdS.out hn1S)
              have hT := timesPlus_any w.heap.size n v f (10 ^ i) (dv (bt S) i) wr ho hb.size lf hc19 (by omega) (by omega)
              have hval : sm W64 f n * 10 ^ i + dv (bt S) i = dv (bt s) (p + i) := by
                rw [hv, dv_add, dv_congr (fun j hj => hS.out.2 j (by omega))]
              rw [hval] at hT
              have HT := Lib.hid hT
              have HFR := Lib.hid (hS.out.skip hn1S)
              have HBW := Lib.hid hb
              obtain ⟨P, hP⟩ : ∃ P, 10 ^ i = P := ⟨_, rfl⟩
              obtain ⟨u, hu⟩ : ∃ u, dv (bt S) i = u := ⟨_, rfl⟩
              rw [hP, hu] at HT
              rw [hP, hu]
              clear hP hu hT hval ho lf hv hb hc19 hdl
              go_wp2_with fail
              refine HT.out.mono ?_
              rintro r w2 ⟨⟨v2, n2, f2, rfl, ho2, lf2, hv2, hn2⟩, hb2⟩
              have HO2 := Lib.hid (And.intro ho2 (And.intro lf2 (And.intro hv2 (HBW.out.trans hb2))))
              clear ho2 lf2 hv2 hb2
              go_wp2_with fail
              go_roundw
              case rel => exact ⟨p + i, _, v2, n2, f2, hpn, rfl, rfl, by omega, HFR, HO2⟩
              case measure => simp; omega
        · have hpe : p = s.size := by have := hSs.out; omega
          obtain ⟨ho, lf, hv, hb⟩ := hW.out
          obtain ⟨A1, c1, hv1, _, _, hr1⟩ := Rd.of_own ho
          subst hv1
          have hnar := narrow_any A1 n c1 f wr hr1 lf (by omega)
          rw [hv, hpe] at hnar
          have HNA := Lib.hid hnar
          have HBW := Lib.hid hb
          clear hnar ho lf hv hb hr1
          go_wp2_with fail
          refine HNA.out.mono ?_
          rintro r w2 ⟨A2, n2, c2, f2, rfl, hnum, _, hb2⟩
          have HNU := Lib.hid hnum
          clear hnum
          go_wp2_with fail
          go_ret2
          exact ⟨_, _, _, _, rfl, HNU.out, HBW.out.trans (hb2.mono HBW.out.size)⟩
end Go.Proofs.YtljbnnpmnoejeaaGreatDoor.nn
