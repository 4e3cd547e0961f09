/- The walk of the real compose. -/
import Derived.Test.YtkgejncolchobaaShape7
namespace Go.Proofs.Ytkgejncolchobaa.nn
open Go.RowKit

theorem ret_ub {a c : Int} {b d : Bool} (h1 : a = c) (h2 : b = d) : Ending.returned (.tuple #[.int .u64 a, .bool b]) = .returned (.tuple #[.int .u64 c, .bool d]) := by rw [h1, h2]
set_option maxRecDepth 100000 in
set_option maxHeartbeats 1000000 in
theorem compose_zero (k : Nat) (neg : Bool) (e : Int) (w : World) (hk : kOk k) :
    Calls Try.prog 37 #[sv k, .bool neg, .int .u64 0, .int .i64 e] w fun r w' => r = .returned (.tuple #[.int .u64 (kv (xb k) (fb k) neg 0 0 : Int), .bool true]) ∧ Below w.heap.size w w' := by
  have hf := hk.facts
  have hJ : ∀ W, Calls Try.prog 42 #[sv k, .bool neg, .int .i64 0, .int .u64 0] W fun r w' => r = .returned (.int .u64 (kv (xb k) (fb k) neg 0 0 : Int)) ∧ Below W.heap.size W w' := fun W => join_any k neg 0 0 W hk (by omega) (by omega)
  obtain ⟨r, hr⟩ : ∃ r, kv (xb k) (fb k) neg 0 0 = r := ⟨_, rfl⟩
  rw [hr] at hJ ⊢
  have HJ := Lib.hid hJ
  clear hr hJ
  have HB := Lib.hid (Bs.new w k)
  unfold sv at HJ ⊢
  clear hf
  go_enter Try.func37, Try.ntmps37
  go_wp2_with fail
  with_reducible refine (HJ.out _).mono ?_
  rintro e w1 ⟨rfl, hb⟩
  have H1 := Lib.hid ((HB.out _).on hb)
  clear hb
  go_wp2_with fail
  go_ret2
  exact ⟨rfl, H1.out.b⟩
/-- all numbers named: P the bits of m, U the unit below which none is -/
theorem compose_walk (k m P B F H : Nat) (neg : Bool) (e U V : Int) (u r rr : Nat) (O R : Bool) (w : World) (_ : kOk k) (hm : 0 < m) (hm2 : m < 18446744073709551616) (he : -2000 ≤ e) (he2 : e ≤ 2000) (hP : P ≤ 65) (hP1 : 1 ≤ P) (hB : B ≤ 1023) (hF : F ≤ 52) (hFf : fb k = F) (hU : -1100 ≤ U) (hU2 : U ≤ 0) (hH : H < 18446744073709551616)
    (hV : max ((P : Int) - 1 + e - (F : Int)) U = V)
    (HL : Hid (∀ W, Calls Try.prog 44 #[.int .u64 (m : Int)] W fun r w' => r = .returned (.int .i64 (P : Int)) ∧ W = w'))
    (HBi : Hid (∀ W, Bs w k W → Calls Try.prog 45 #[sv k] W fun e w' => e = .returned (.int .i64 (B : Int)) ∧ Bs w k w'))
    (HUn : Hid (∀ W, Bs w k W → Calls Try.prog 43 #[sv k] W fun e w' => e = .returned (.int .i64 U) ∧ Bs w k w'))
    (HHi : Hid (∀ W, Bs w k W → Calls Try.prog 41 #[sv k] W fun e w' => e = .returned (.int .u64 (H : Int)) ∧ Bs w k w'))
    (HS : Hid (∀ W, Calls Try.prog 36 #[.int .u64 (m : Int), .int .i64 (e - V)] W fun r w' => r = .returned (.tuple #[.int .u64 (u : Int), .bool O]) ∧ Below W.heap.size W w'))
    (hu : u < 18446744073709551616)
    (HJ : Hid (∀ (X M : Nat) (W : World), ((O = true ∧ u < H ∧ X = 0 ∧ M = u) ∨ (O = true ∧ H ≤ u ∧ (P : Int) - 1 + e ≤ B ∧ (X : Int) = (P : Int) - 1 + e + B ∧ M = u - H)) → Bs w k W → Calls Try.prog 42 #[sv k, .bool neg, .int .i64 (X : Int), .int .u64 (M : Int)] W fun e w' => e = .returned (.int .u64 (r : Int)) ∧ Bs w k w'))
    (hR : R = (decide ((P : Int) - 1 + e ≤ B) && O))
    (HRR : Hid (rr = if R then r else 0))
    (hX : H ≤ u → O = true → (P : Int) - 1 + e ≤ B → 0 ≤ (P : Int) - 1 + e + B) :
    Calls Try.prog 37 #[sv k, .bool neg, .int .u64 (m : Int), .int .i64 e] w fun x w' => x = .returned (.tuple #[.int .u64 (rr : Int), .bool R]) ∧ Below w.heap.size w w' := by
  have HB0 := Lib.hid (Bs.new w k)
  have q0 : ((m : Int) == 0) = false := by simp; omega
  have HX := Lib.hid hX
  have hVb : -1100 ≤ V ∧ V ≤ 2064 := by omega
  obtain ⟨hVb1, hVb2⟩ := hVb
  have HJ0 : Hid (O = true → u < H → ∀ W, Bs w k W → Calls Try.prog 42 #[sv k, .bool neg, .int .i64 0, .int .u64 (u : Int)] W fun e w' => e = .returned (.int .u64 (r : Int)) ∧ Bs w k w') := Lib.hid fun h1 h2 W => HJ.out 0 u W (.inl ⟨h1, h2, rfl, rfl⟩)
  have HJ1 : Hid (O = true → H ≤ u → (P : Int) - 1 + e ≤ B → ∀ W, Bs w k W → Calls Try.prog 42 #[sv k, .bool neg, .int .i64 ((P : Int) - 1 + e + (B : Int)), .int .u64 ((u : Int) - (H : Int))] W fun e w' => e = .returned (.int .u64 (r : Int)) ∧ Bs w k w') := Lib.hid fun h1 h2 h3 W => by
    have h4 := HX.out h2 h1 h3
    obtain ⟨X, hX'⟩ : ∃ X : Nat, (X : Int) = (P : Int) - 1 + e + (B : Int) := ⟨((P : Int) - 1 + e + (B : Int)).toNat, by omega⟩
    have := HJ.out X (u - H) W (.inr ⟨h1, h2, h3, hX', rfl⟩)
    rw [hX', show ((u - H : Nat) : Int) = (u : Int) - (H : Int) by omega] at this
    exact this
  unfold sv at HBi HUn HHi HJ0 HJ1 ⊢
  rw [hFf] at HB0 HBi HUn HHi HJ0 HJ1 ⊢
  have HA : Hid (∀ W, Bs w k W → W.cell? ⟨w.heap.size, 0, none⟩ = some (.int .i64 (k : Int)) ∧ W.cell? ⟨w.heap.size, 1, none⟩ = some (.int .i64 (xb k : Int)) ∧ W.cell? ⟨w.heap.size, 2, none⟩ = some (.int .i64 (F : Int)) ∧ Bs w k W) := Lib.hid fun W hW => by
    have := hW.all
    rw [hFf] at this
    exact this
  by_cases hle : (P : Int) - 1 + e ≤ B
  · have HLE := Lib.hid hle
    have q1 : decide ((B : Int) < (P : Int) - 1 + e) = false := decide_eq_false (by omega)
    rw [decide_eq_true hle, Bool.true_and] at hR
    subst hR
    clear HJ HX hX hFf hle
    go_enter Try.func37, Try.ntmps37
    go_wp2_with fail
    with_reducible refine (HL.out _).mono ?_
    rintro r1 w1 ⟨rfl, rfl⟩
    go_wp2_with fail
    with_reducible refine (HBi.out _ (HB0.out _)).mono ?_
    rintro r1 w1 ⟨rfl, h1⟩
    have q2 : IntKind.i64.wrap ((P : Int) - 1 + e - (F : Int)) = (P : Int) - 1 + e - (F : Int) := IntWalk.i64_in _ (by omega)
    go_wp2_with fail
    have hb1 := h1.drew
    have hb := HA.out _ hb1
    go_region_held3 (fun W => W.cell? ⟨w.heap.size, 0, none⟩ = some (.int .i64 (k : Int)) ∧ W.cell? ⟨w.heap.size, 1, none⟩ = some (.int .i64 (xb k : Int)) ∧ W.cell? ⟨w.heap.size, 2, none⟩ = some (.int .i64 (F : Int)) ∧ Bs w k W) (first | exact HA.out _ ‹_› | exact HA.out _ (And.right ‹_›))
      (first | (go_at_call 43; with_reducible refine (HUn.out _ ?_).mono ?_; (first | assumption | exact And.right ‹_›); rintro e w' ⟨rfl, hk5⟩))
    clear hb hb1 q2 h1
    have H5 := Lib.hid hk5
    clear hk5
    go_wp2_with fail
    with_reducible refine (HS.out _).mono ?_
    rintro r1 w2 ⟨rfl, hb⟩
    have h6 := H5.out.on hb
    have hc6 := HA.out _ h6
    clear hb
    cases R with
    | false =>
      go_wp2_with fail
      go_ret2
      exact ⟨by rw [HRR.out]; rfl, h6.b⟩
    | true =>
      by_cases hlt : u < H
      · have q5 : decide (u < H) = true := decide_eq_true hlt
        have HJ2 := Lib.hid (HJ0.out rfl hlt)
        clear hlt
        go_wp2_with fail
        with_reducible refine (HHi.out _ h6).mono ?_
        rintro r1 w3 ⟨rfl, h7⟩
        have hc7 := HA.out _ h7
        clear hc6 h6
        go_wp2_with fail
        with_reducible refine (HJ2.out _ h7).mono ?_
        rintro r1 w4 ⟨rfl, h8⟩
        clear hc7 h7
        go_wp2_with fail
        go_ret2
        exact ⟨by rw [HRR.out]; rfl, h8.b⟩
      · have q5 : decide (u < H) = false := decide_eq_false hlt
        have HJ2 := Lib.hid (HJ1.out rfl (by omega) HLE.out)
        have hx0 := HLE.out
        have q6 : IntKind.i64.wrap ((P : Int) - 1 + e + (B : Int)) = (P : Int) - 1 + e + (B : Int) := IntWalk.i64_in _ (by omega)
        have q7 : IntKind.u64.wrap ((u : Int) - (H : Int)) = (u : Int) - (H : Int) := by rw [IntKind.wrap_u64]; omega
        clear hlt hx0
        go_wp2_with fail
        with_reducible refine (HHi.out _ h6).mono ?_
        rintro r1 w3 ⟨rfl, h7⟩
        clear hc6 h6
        go_wp2_with fail
        have hb1 := h7.drew
        have hb := HA.out _ hb1
        go_region_held3 (fun W => W.cell? ⟨w.heap.size, 0, none⟩ = some (.int .i64 (k : Int)) ∧ W.cell? ⟨w.heap.size, 1, none⟩ = some (.int .i64 (xb k : Int)) ∧ W.cell? ⟨w.heap.size, 2, none⟩ = some (.int .i64 (F : Int)) ∧ Bs w k W) (first | exact HA.out _ ‹_› | exact HA.out _ (And.right ‹_›))
          (first
            | (go_at_call 45; with_reducible refine (HBi.out _ ?_).mono ?_; (first | assumption | exact And.right ‹_›); rintro e w' ⟨rfl, hk6⟩)
            | (go_at_call 41; with_reducible refine (HHi.out _ ?_).mono ?_; (first | assumption | exact And.right ‹_›); rintro e w' ⟨rfl, hk6⟩)
            | (go_at_call 42; with_reducible refine (HJ2.out _ ?_).mono ?_; (first | assumption | exact And.right ‹_›); rintro e w' ⟨rfl, hk6⟩))
        clear hb hb1 q6 q7 h7
        go_wp2_with fail
        go_ret2
        exact ⟨by rw [HRR.out]; rfl, (by assumption : Bs w k _).b⟩
  · have q1 : decide ((B : Int) < (P : Int) - 1 + e) = true := decide_eq_true (by omega)
    rw [decide_eq_false hle, Bool.false_and] at hR
    subst hR
    clear hV HJ HX hX hle hFf
    go_enter Try.func37, Try.ntmps37
    go_wp2_with fail
    with_reducible refine (HL.out _).mono ?_
    rintro r1 w1 ⟨rfl, rfl⟩
    go_wp2_with fail
    with_reducible refine (HBi.out _ (HB0.out _)).mono ?_
    rintro r1 w1 ⟨rfl, h1⟩
    have H1 := Lib.hid h1
    clear h1
    go_wp2_with fail
    go_ret2
    exact ⟨by rw [HRR.out]; rfl, H1.out.b⟩
end Go.Proofs.Ytkgejncolchobaa.nn
