/- The walk of divide: a number that is below the divisor, and a divisor of one limb. -/
import Derived.Test.YtfdgpfkjpjhmjaaDivFacts
import Derived.Test.YtfdgpfkjpjhmjaaClone64
import Derived.Test.YtfdgpfkjpjhmjaaCmp64
import Derived.Test.YtfdgpfkjpjhmjaaDivideBy
namespace Go.Proofs.Ytfdgpfkjpjhmjaa.nn
open Go.RowKit

/-- two slices of wide limbs: quotient and rest -/
def Two (w w' : World) (e : Ending) (Q R : Nat) : Prop :=
  ∃ A1 n1 c1 f1 A2 n2 c2 f2, e = .returned (.tuple #[.slice A1 n1 c1, .slice A2 n2 c2]) ∧ Rd w' .u64 A1 n1 f1 ∧ Rd w' .u64 A2 n2 f2 ∧ Lt W64 f1 n1 ∧ Lt W64 f2 n2 ∧
    sm W64 f1 n1 = Q ∧ sm W64 f2 n2 = R ∧ n1 ≤ 400001 ∧ n2 ≤ 400001 ∧ Below w.heap.size w w'

theorem Nat.mul_add_mod_of_lt' {q y r : Nat} (h : r < y) (_ : 0 < y) : (q * y + r) % y = r := by
  rw [Nat.add_comm, Nat.add_mul_mod_self_right, Nat.mod_eq_of_lt h]
theorem Nat.mul_add_div' {q y r : Nat} (h : r < y) (h0 : 0 < y) : (q * y + r) / y = q := by
  rw [Nat.add_comm, Nat.add_mul_div_right _ _ h0, Nat.div_eq_of_lt h, Nat.zero_add]

theorem W64_two : W64 = 2 ^ 64 := rfl

theorem compare64_w (A B : Option Addr) (n m c d : Nat) (f g : Nat → Nat) (w : World) (hA : Rd w .u64 A n f) (hB : Rd w .u64 B m g)
    (lf : Lt W64 f n) (lg : Lt W64 g m) (tf : Trm f n) (tg : Trm g m) (hn : n ≤ maxLen) (hm : m ≤ maxLen) :
    Calls Try.prog 60 #[.slice A n c, .slice B m d] w fun e w' => e = .returned (.int .i64 (cm (sm W64 f n) (sm W64 g m))) ∧ ∃ j, w' = w.drewN j := by
  rw [W64_two] at *
  exact compare64_any A B n m c d f g w hA hB lf lg tf tg hn hm

set_option maxHeartbeats 1000000 in
theorem divide_less (A B : Option Addr) (n m c d : Nat) (f h : Nat → Nat) (w : World) (hA : Rd w .u64 A n f) (hB : Rd w .u64 B m h)
    (lf : Lt W64 f n) (lh : Lt W64 h m) (tf : Trm f n) (th : Trm h m) (hn : n ≤ 400000) (hm : m ≤ 400000) (hlt : sm W64 f n < sm W64 h m) :
    Calls Try.prog 49 #[.slice A n c, .slice B m d] w fun e w' => Two w w' e (sm W64 f n / sm W64 h m) (sm W64 f n % sm W64 h m) := by
  have hc := compare64_w A B n m c d f h w hA hB lf lh tf th (by unfold maxLen; omega) (by unfold maxLen; omega)
  rw [cm_lt hlt] at hc
  have HC := Lib.hid hc
  have LF := Lib.hid lf
  have HV : Hid (sm W64 f n / sm W64 h m = 0 ∧ sm W64 f n % sm W64 h m = sm W64 f n) := Lib.hid ⟨Nat.div_eq_of_lt hlt, Nat.mod_eq_of_lt hlt⟩
  clear hc lf lh tf th hlt hB
  go_enter Try.func49, Try.ntmps49
  go_wp2_with fail
  refine HC.out.mono ?_
  rintro e w' ⟨rfl, j, rfl⟩
  go_wp2_with fail
  refine (clone64_any A n c f _ (hA.drewN j) (by omega)).mono ?_
  rintro e w2 ⟨v2, rfl, hown2, hb2⟩
  have hb2' : Below w.heap.size w w2 := (drew_below (Below.refl w.heap.size w) j).trans hb2
  obtain ⟨A2, c2, rfl, _, _, hr2⟩ := Rd.of_own hown2
  clear hown2 hb2
  go_wp2
  go_ret2
  rw [HV.out.1, HV.out.2]
  exact ⟨none, 0, 0, fun _ => 0, A2, n, c2, f, rfl, Rd.none_, hr2, fun _ h => absurd h (by omega), LF.out, rfl, rfl, by omega, by omega, hb2'⟩

set_option maxHeartbeats 1000000 in
theorem divide_one (A B : Option Addr) (n c d : Nat) (f h : Nat → Nat) (w : World) (hA : Rd w .u64 A n f) (hB : Rd w .u64 B 1 h)
    (lf : Lt W64 f n) (lh : Lt W64 h 1) (tf : Trm f n) (th : Trm h 1) (hn : n ≤ 400000) (hge : sm W64 h 1 ≤ sm W64 f n) :
    Calls Try.prog 49 #[.slice A n c, .slice B 1 d] w fun e w' => Two w w' e (sm W64 f n / sm W64 h 1) (sm W64 f n % sm W64 h 1) := by
  have hc := compare64_w A B n 1 c d f h w hA hB lf lh tf th (by unfold maxLen; omega) (by unfold maxLen; omega)
  have hz : 0 ≤ cm (sm W64 f n) (sm W64 h 1) := by
    unfold cm; rw [if_neg (by omega)]; split <;> omega
  obtain ⟨z, ez⟩ : ∃ z, cm (sm W64 f n) (sm W64 h 1) = z := ⟨_, rfl⟩
  rw [ez] at hc hz
  have h1 : sm W64 h 1 = h 0 := by simp [sm]
  have hy0 : 0 < h 0 := by
    rcases th with th | th
    · omega
    · simp at th; omega
  obtain ⟨b, off, rfl, hbl, hcell⟩ := hB (by omega)
  have hx := hcell 0 (by omega)
  rw [Nat.add_zero] at hx
  have hyl := lh 0 (by omega)
  rw [h1] at hge ⊢
  obtain ⟨y, hy⟩ : ∃ y, h 0 = y := ⟨_, rfl⟩
  rw [hy] at hx hy0 hyl hge ⊢
  have hn0 : Hid (n ≠ 0) := Lib.hid (by rintro rfl; simp [sm] at hge; omega)
  have HC := Lib.hid hc
  have LF := Lib.hid lf
  have HYL := Lib.hid hyl
  clear hc lf lh tf th hge hcell hB ez h1 hy hyl
  go_enter Try.func49, Try.ntmps49
  go_wp2_with fail
  refine HC.out.mono ?_
  rintro e w' ⟨rfl, j, rfl⟩
  go_wp2_with fail
  refine (clone64_any A n c f _ (hA.drewN j) (by omega)).mono ?_
  rintro e w2 ⟨v2, rfl, hown2, hb2⟩
  have hb2' : Below w.heap.size w w2 := (drew_below (Below.refl w.heap.size w) j).trans hb2
  have hx2 : w2.cell? ⟨b, off, none⟩ = some (.int .u64 (y : Int)) := (hb2'.cell (p := ⟨b, off, none⟩) hbl).trans hx
  rcases hown2.2 with ⟨rfl, hp0⟩ | ⟨g0, cap, _, rfl, hg0, _⟩
  · exact absurd hp0 hn0.out
  · obtain ⟨cur, hbk, hint, hbg, hcap, hcm, _, _⟩ := own_wrote hown2
    have hne : w.heap.size ≤ g0 := hg0
    have HB2 := Lib.hid hb2'
    clear hown2 hb2 hb2' hx hg0 hbg
    go_wp2_with fail
    refine (divideBy_any g0 0 n cap _ cur f y w2 hbk hint LF.out hy0 HYL.out (by unfold maxLen; omega)).mono ?_
    rintro e' w3 ⟨r, f3, cur3, rfl, hr, hw3, hi3, l3, v3⟩
    have hb3 : Below w.heap.size w w3 := HB2.out.grown hw3.grown HB2.out.size (fun k hk => by injection hk with hk; omega)
    have hq : Hid (sm W64 f3 n = sm W64 f n / y ∧ r = sm W64 f n % y) := Lib.hid (by
      rw [v3, Nat.mul_comm, Nat.mul_add_mod_of_lt' hr hy0, Nat.mul_add_div' hr hy0]
      exact ⟨rfl, rfl⟩)
    have HRL : Hid (r < W64) := Lib.hid (Nat.lt_trans hr HYL.out)
    have hr3 := hi3.rd hw3.blk
    have L3 := Lib.hid l3
    clear v3 hi3 l3 hw3 hbk hint hr hx2
    go_wp2
    go_ret2
    rw [← hq.out.1, ← hq.out.2]
    exact ⟨_, n, cap, f3, _, 1, 1, fun _ => r, rfl, hr3.alloc _, rd_one _ _ _ _, L3.out, fun _ _ => HRL.out, rfl, by simp [sm], by omega, by omega, hb3.alloc (by have := hb3.size; omega) _⟩
end Go.Proofs.Ytfdgpfkjpjhmjaa.nn
