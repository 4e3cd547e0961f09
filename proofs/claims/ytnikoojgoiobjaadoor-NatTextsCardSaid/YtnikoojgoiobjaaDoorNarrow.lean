/- The walk of narrow: each limb of 64 bits becomes two of 32, trimmed. -/
import Derived.Test.YtnikoojgoiobjaaDoorWiden
namespace Go.Proofs.YtnikoojgoiobjaaDoor.nn
open Go.RowKit

/-- one of two limbs -/
def duo (x y : Nat) : Nat → Nat := fun i => if i = 0 then x else y

theorem rd_duo (w : World) (K : IntKind) (x y : Nat) (e : TypeId) {a b : Int} (ha : a = (x : Int)) (hb : b = (y : Int)) : Rd (w.alloc (.cells #[.int K a, .int K b] e)) K (some ⟨w.heap.size, 0, none⟩) 2 (duo x y) := fun _ =>
  ⟨w.heap.size, 0, rfl, by simp, fun i hi => by
    subst ha
    subst hb
    rcases (by omega : i = 0 ∨ i = 1) with rfl | rfl
    · rw [World.cell?_alloc_at _ _ _ _ rfl]; rfl
    · rw [World.cell?_alloc_at _ _ _ _ rfl]; rfl⟩

/-- what holds when i wide limbs are cut -/
def NarRel (base : Nat) (w0 wr : World) (s : Value) (i : Nat) (f : Nat → Nat) : Prop :=
  ∃ f' : Nat → Nat, wr.ownsRow base 45 1 s (2 * i) (vl .u32 f' (2 * i)) ∧ Below base w0 wr ∧ base ≤ wr.heap.size ∧ Lt (2 ^ 32) f' (2 * i) ∧ sm (2 ^ 32) f' (2 * i) = sm W64 f i

theorem NarRel.step {base : Nat} {w0 wr w1 : World} {v : Value} {i : Nat} {f f' : Nat → Nat} (o : Obj) (h2 : Below base w0 wr) (h3 : base ≤ wr.heap.size) (h4 : Lt (2 ^ 32) f' (2 * i)) (h5 : sm (2 ^ 32) f' (2 * i) = sm W64 f i) (hx : f i < W64)
    (ho : w1.ownsRow base 45 1 v (2 * i + 2) (vl .u32 (jn f' (2 * i) (duo (f i % 4294967296) (f i / 4294967296))) (2 * i + 2))) (hb : Below base (wr.alloc o) w1) : NarRel base w0 w1 v (i + 1) f := by
  have hb1 := (h2.alloc h3 o).trans hb
  have hs := hb.size
  rw [hsz] at hs
  have e : 2 * (i + 1) = 2 * i + 2 := by omega
  refine ⟨jn f' (2 * i) (duo (f i % 4294967296) (f i / 4294967296)), by rw [e]; exact ho, hb1, by omega, ?_, ?_⟩
  · rw [e]
    refine h4.jn (m := 2) (fun j hj => ?_)
    unfold duo
    unfold W64 at hx
    split <;> omega
  · rw [e, sm_jn, h5]
    have e1 : sm W64 f (i + 1) = sm W64 f i + f i * W64 ^ i := rfl
    have e2 : sm (2 ^ 32) (duo (f i % 4294967296) (f i / 4294967296)) 2 = f i := by
      simp [sm, duo]
      omega
    rw [e1, e2, w64_pow]

set_option maxRecDepth 100000 in
set_option maxHeartbeats 1000000 in
theorem narrow_any (A : Option Addr) (n c : Nat) (f : Nat → Nat) (w : World) (hA : Rd w .u64 A n f) (lf : Lt W64 f n) (hn : n ≤ 1000000) :
    Calls Tryd.prog 22 #[.slice A n c] w fun e w' => One w w' e (sm W64 f n) (2 * n) := by
  obtain ⟨i0, hi, hz0, hz1, hz2⟩ := info_parts info_u32
  have LF := Lib.hid lf
  clear lf
  go_enter Tryd.func22, Tryd.ntmps22
  go_wp2_with (refine wpList_make_own _ rfl _ _ 22 rfl w.heap.size 45 i0 _ 1 Tryd.underlying22 hi hz0 hz1 .i64 .i64 _ (2 * n) rfl rfl ?c1 ?c2 ?c3 ?c4 ?_; rotate_left 4; intro w1 hown1 hg1)
  case c1 => omega
  case c2 => rw [hz2]; omega
  case c3 => unfold maxLen; omega
  case c4 => omega
  have hbw1 : Below w.heap.size w w1 := (Below.refl _ _).grown (row := none) hg1 (Nat.le_refl _) (fun k hk => by cases hk)
  have hsz1 := hbw1.size
  clear hg1
  go_loopw [3, 12] (fun s3 s12 wr => ∃ i : Nat, i ≤ n ∧ s12 = .int .i64 i ∧ NarRel w.heap.size w wr s3 i f) (fun _ s12 _ => n - (intOf s12).toNat)
  case atStart => exact ⟨0, Nat.zero_le _, rfl, fun _ => 0, hown1, hbw1, hsz1, fun _ h => absurd h (by omega), rfl⟩
  case round =>
    clear hown1 hbw1 hsz1
    obtain ⟨i, hi', rfl, f', ho, hb, hs, lf', hv⟩ := hrel
    by_cases hlt : i < n
    · obtain ⟨b, off, rfl, _, hcell⟩ := (hA.below hb) (by omega)
      have hx := hcell i hlt
      have bx := LF.out i hlt
      have b64 : f i ≤ 18446744073709551615 := by unfold W64 at bx; omega
      have HV := Lib.hid hv
      have BX := Lib.hid bx
      clear hcell hv bx
      go_wp2_with (at_builtin; refine wpList_app rfl (.tmp 16) (.tmp 22) _ rfl w.heap.size 45 i0 _ 4 Tryd.underlying22 hi hz0 hz1 hz2 rfl .u32 _ (2 * i) f' rfl (ho.alloc _) _ 2 2 (duo (f i % 4294967296) (f i / 4294967296)) rfl (rd_duo _ .u32 _ _ _ ?z1 ?z2) ?d1 ?d2 ?d3 ?d4; rotate_left 5; intro v1 w2 hown2 hb2)
      case z1 => omega
      case z2 => omega
      case d1 => unfold maxLen; omega
      case d2 => omega
      case d3 => rw [hsz]; omega
      go_roundw
      case rel => exact ⟨i + 1, by omega, by go_num, NarRel.step _ hb hs lf' HV.out BX.out hown2 hb2⟩
      case measure => simp [intOf]; omega
    · obtain rfl : i = n := by omega
      obtain ⟨A2, c2, rfl, hc2, hm2, hr2⟩ := Rd.of_own ho
      have hle := tr_le f' (2 * i)
      have HN := Lib.hid (show Num _ A2 (tr f' (2 * i)) c2 f' (sm W64 f i) from ⟨by omega, hm2, hr2.mono hle, lf'.mono hle, tr_trm _ _, by rw [sm_tr]; exact hv⟩)
      have HT := Lib.hid (trim_any A2 (2 * i) c2 f' _ hr2 hc2 hm2)
      clear hv ho hm2
      go_wp2_with (go_at_call 30; refine HT.out.mono ?_; rintro e w' ⟨rfl, rfl⟩)
      go_ret
      exact ⟨A2, _, c2, f', rfl, HN.out, hle, hb⟩
end Go.Proofs.YtnikoojgoiobjaaDoor.nn
