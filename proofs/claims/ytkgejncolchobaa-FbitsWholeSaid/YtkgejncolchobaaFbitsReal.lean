/- The contracts of the real fbits: Widen, Narrow, Exact, FromInt. -/
import Derived.Test.YtkgejncolchobaaShapeNum2
namespace Go.Proofs.Ytkgejncolchobaa.nn
open Go.RowKit

set_option maxRecDepth 100000 in
set_option maxHeartbeats 1000000 in
theorem fwiden_any (k : Int) (x : Nat) (w : World) (hx : x < 18446744073709551616) : Calls Try.prog 15 #[.int .i64 k, .int .u64 (x : Int)] w (WiAns k x w) := by
  unfold WiAns
  by_cases hf : fits k x
  · have HS := Lib.hid (fun W => shapeFor_yes W hx hf)
    obtain ⟨hk, hl⟩ := hf.facts hx
    have e3 : paE k x = 0 := by unfold paE; rw [if_pos hf]
    have e4 : wiV k x = wdV k.toNat x := if_pos hf
    rw [e3, e4]
    have hc := fun W => convert_any k.toNat 64 x W hk k64 hl
    have hn := widen_num hk hl
    obtain ⟨R, hR⟩ : ∃ R, wdV k.toNat x = R := ⟨_, rfl⟩
    rw [hR] at hn ⊢
    rw [hn.1, hn.2] at hc
    clear hR hn e3 e4 hf hk hl
    obtain ⟨K, hK⟩ : ∃ K, k.toNat = K := ⟨_, rfl⟩
    rw [hK] at hc HS
    clear hK
    have hw : ∀ W, Calls Try.prog 32 #[] W fun e w' => e = .returned (sv 64) ∧ Below W.heap.size W w' := widest_any
    obtain ⟨K2, hK2⟩ : ∃ K2, K2 = 64 := ⟨64, rfl⟩
    rw [← hK2] at hc hw
    clear hK2
    unfold sv at HS hc hw
    have HC := Lib.hid hc
    have HW := Lib.hid hw
    clear hc hw
    go_enter Try.func15, Try.ntmps15
    go_wp2_with fail
    with_reducible refine (HS.out _).mono ?_
    rintro e w1 ⟨rfl, hb⟩
    have H1 := Lib.hid hb
    clear hb
    have HB := Bs.new w1 K 58
    have HCK : Hid (∀ W, Bs w1 K W → Calls Try.prog 31 #[.agg #[.int .i64 (K : Int), .int .i64 (xb K : Int), .int .i64 (fb K : Int)], .agg #[.int .i64 (K2 : Int), .int .i64 (xb K2 : Int), .int .i64 (fb K2 : Int)], .int .u64 (x : Int)] W fun e w' => e = .returned (.tuple #[.int .u64 (R : Int), .bool true]) ∧ Bs w1 K w') := Lib.hid fun W hW => (HC.out W).mono fun e w' ⟨he, hb⟩ => ⟨he, hW.on hb⟩
    have HWK : Hid (∀ W, Bs w1 K W → Calls Try.prog 32 #[] W fun e w' => e = .returned (.agg #[.int .i64 (K2 : Int), .int .i64 (xb K2 : Int), .int .i64 (fb K2 : Int)]) ∧ Bs w1 K w') := Lib.hid fun W hW => (HW.out W).mono fun e w' ⟨he, hb⟩ => ⟨he, hW.on hb⟩
    clear HC HW
    go_wp2_with fail
    generalize w1.alloc _ = W0 at HB ⊢
    have hb1 := HB.drew
    have hb := hb1.all
    go_region_held3 (fun W => W.cell? ⟨w1.heap.size, 0, none⟩ = some (.int .i64 (K : Int)) ∧ W.cell? ⟨w1.heap.size, 1, none⟩ = some (.int .i64 (xb K : Int)) ∧ W.cell? ⟨w1.heap.size, 2, none⟩ = some (.int .i64 (fb K : Int)) ∧ Bs w1 K W) (first | exact Bs.all ‹_› | exact Bs.all (And.right ‹_›))
      (first
        | (go_at_call 32; with_reducible refine (HWK.out _ ?_).mono ?_; (first | assumption | exact And.right ‹_›); rintro e w' ⟨rfl, hk6⟩)
        | (go_at_call 31; with_reducible refine (HCK.out _ ?_).mono ?_; (first | assumption | exact And.right ‹_›); rintro e w' ⟨rfl, hk6⟩))
    clear hb hb1 HB
    go_wp2_with fail
    go_ret2
    exact ⟨rfl, H1.out.trans ((by assumption : Bs w1 K _).b.mono H1.out.size)⟩
  · have HS := Lib.hid (fun W => shapeFor_not W hx hf)
    have e3 : paE k x = 1 := by unfold paE; rw [if_neg hf]
    have e4 : wiV k x = 0 := if_neg hf
    rw [e3, e4]
    clear e3 e4 hf
    unfold z3 at HS
    go_enter Try.func15, Try.ntmps15
    go_wp2_with fail
    with_reducible refine (HS.out _).mono ?_
    rintro e w1 ⟨rfl, hb⟩
    have H1 := Lib.hid hb
    clear hb
    go_wp2_with fail
    go_ret2
    exact ⟨rfl, H1.out.alloc H1.out.size _⟩
set_option maxRecDepth 100000 in
set_option maxHeartbeats 1000000 in
theorem fnarrow_any (k : Int) (x : Nat) (w : World) (hx : x < 18446744073709551616) : Calls Try.prog 17 #[.int .i64 k, .int .u64 (x : Int)] w (NrAns k x w) := by
  unfold NrAns
  by_cases hok : wOk k
  · have hf : fits k 0 := ⟨hok, fun _ => Nat.two_pow_pos _⟩
    have hS : ∀ W, Calls Try.prog 27 #[.int .i64 k, .int .u64 0] W fun e w' => e = .returned (.tuple #[sv k.toNat, .int .i64 0]) ∧ Below W.heap.size W w' := fun W => shapeFor_yes W (by decide) hf
    obtain ⟨hk, hl⟩ := hf.facts (by decide)
    have e3 : nrE k = 0 := if_pos hok
    rw [e3]
    have hc := fun W => convert_any 64 k.toNat x W k64 hk hx
    have hn := narrow_num hk hx
    have hkk : (k.toNat : Int) = k := by unfold wOk at hok; omega
    rw [hkk] at hn
    obtain ⟨R, hR⟩ : ∃ R, nrV k x = R := ⟨_, rfl⟩
    obtain ⟨O, hO⟩ : ∃ O, nrO k x = O := ⟨_, rfl⟩
    rw [hR, hO] at hn ⊢
    rw [hn.1, hn.2] at hc
    clear hR hO hn e3 hf hk hl hok hkk
    obtain ⟨K, hK⟩ : ∃ K, k.toNat = K := ⟨_, rfl⟩
    rw [hK] at hc hS
    clear hK
    have hw : ∀ W, Calls Try.prog 32 #[] W fun e w' => e = .returned (sv 64) ∧ Below W.heap.size W w' := widest_any
    obtain ⟨K2, hK2⟩ : ∃ K2, K2 = 64 := ⟨64, rfl⟩
    rw [← hK2] at hc hw
    clear hK2
    unfold sv at hS hc hw
    have HS := Lib.hid hS
    have HC := Lib.hid hc
    have HW := Lib.hid hw
    clear hc hw hS
    go_enter Try.func17, Try.ntmps17
    go_wp2_with fail
    with_reducible refine (HS.out _).mono ?_
    rintro e w1 ⟨rfl, hb⟩
    have H1 := Lib.hid hb
    clear hb
    have HB := Bs.new w1 K 58
    have HCK : Hid (∀ W, Bs w1 K W → Calls Try.prog 31 #[.agg #[.int .i64 (K2 : Int), .int .i64 (xb K2 : Int), .int .i64 (fb K2 : Int)], .agg #[.int .i64 (K : Int), .int .i64 (xb K : Int), .int .i64 (fb K : Int)], .int .u64 (x : Int)] W fun e w' => e = .returned (.tuple #[.int .u64 (R : Int), .bool O]) ∧ Bs w1 K w') := Lib.hid fun W hW => (HC.out W).mono fun e w' ⟨he, hb⟩ => ⟨he, hW.on hb⟩
    have HWK : Hid (∀ W, Bs w1 K W → Calls Try.prog 32 #[] W fun e w' => e = .returned (.agg #[.int .i64 (K2 : Int), .int .i64 (xb K2 : Int), .int .i64 (fb K2 : Int)]) ∧ Bs w1 K w') := Lib.hid fun W hW => (HW.out W).mono fun e w' ⟨he, hb⟩ => ⟨he, hW.on hb⟩
    clear HC HW
    go_wp2_with fail
    generalize w1.alloc _ = W0 at HB ⊢
    have hb1 := HB.drew
    have hb := hb1.all
    go_region_held3 (fun W => W.cell? ⟨w1.heap.size, 0, none⟩ = some (.int .i64 (K : Int)) ∧ W.cell? ⟨w1.heap.size, 1, none⟩ = some (.int .i64 (xb K : Int)) ∧ W.cell? ⟨w1.heap.size, 2, none⟩ = some (.int .i64 (fb K : Int)) ∧ Bs w1 K W) (first | exact Bs.all ‹_› | exact Bs.all (And.right ‹_›))
      (first
        | (go_at_call 32; with_reducible refine (HWK.out _ ?_).mono ?_; (first | assumption | exact And.right ‹_›); rintro e w' ⟨rfl, hk6⟩)
        | (go_at_call 31; with_reducible refine (HCK.out _ ?_).mono ?_; (first | assumption | exact And.right ‹_›); rintro e w' ⟨rfl, hk6⟩))
    clear hb hb1 HB
    go_wp2_with fail
    exact bodyPost_ret (v := .tuple #[.int .u64 (R : Int), .bool O, .int .i64 0]) (by simp [results, Try.results17, go_sem]) rfl ⟨rfl, H1.out.trans ((by assumption : Bs w1 K _).b.mono H1.out.size)⟩
  · have hS : ∀ W, Calls Try.prog 27 #[.int .i64 k, .int .u64 0] W fun e w' => e = .returned (.tuple #[z3, .int .i64 1]) ∧ Below W.heap.size W w' := fun W => shapeFor_not (x := 0) W (by decide) fun h => hok h.1
    have HS := Lib.hid hS
    have e1 : nrE k = 1 := if_neg hok
    have e2 : nrV k x = 0 := if_neg hok
    have e3 : nrO k x = false := if_neg hok
    rw [e1, e2, e3]
    clear e1 e2 e3 hok hS
    unfold z3 at HS
    go_enter Try.func17, Try.ntmps17
    go_wp2_with fail
    with_reducible refine (HS.out _).mono ?_
    rintro e w1 ⟨rfl, hb⟩
    have H1 := Lib.hid hb
    clear hb
    go_wp2_with fail
    exact bodyPost_ret (v := .tuple #[.int .u64 0, .bool false, .int .i64 1]) (by simp [results, Try.results17, go_sem]) rfl ⟨rfl, H1.out.alloc H1.out.size _⟩
end Go.Proofs.Ytkgejncolchobaa.nn
