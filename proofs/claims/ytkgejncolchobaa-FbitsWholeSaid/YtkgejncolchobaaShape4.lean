/- The real fbits: class and amount. -/
import Derived.Test.YtkgejncolchobaaShape3
namespace Go.Proofs.Ytkgejncolchobaa.nn
open Go.RowKit

theorem lim_lt {k x : Nat} (h : x < lim k) : x < 18446744073709551616 := by
  unfold lim at h
  split at h
  · omega
  · split at h <;> omega
set_option maxRecDepth 100000 in
set_option maxHeartbeats 2000000 in
theorem class_walk (k x : Nat) (w : World) (S : Bool) (X M : Nat) (hk : kOk k) (_ : M < 18446744073709551616) (_ : X < 4096)
    (HS : Hid (∀ W, Calls Try.prog 30 #[sv k, .int .u64 (x : Int)] W fun e w' => e = .returned (.tuple #[.bool S, .int .i64 (X : Int), .int .u64 (M : Int)]) ∧ Below W.heap.size W w')) :
    Calls Try.prog 28 #[sv k, .int .u64 (x : Int)] w fun e w' => e = .returned (.int .i64 (cl5 (xb k) X M : Int)) ∧ Below w.heap.size w w' := by
  obtain ⟨R, hR⟩ : ∃ R, cl5 (xb k) X M = R := ⟨_, rfl⟩
  rw [hR]
  unfold cl5 at hR
  rw [show 2 ^ xb k - 1 = onz k from rfl] at hR
  have HO := Lib.hid (fun W => ones_any k W hk)
  have HB := Lib.hid (Bs.new w k)
  have hT := hk.facts
  have hT2 : onz k ≤ 2047 := by omega
  unfold sv at HO HS ⊢
  obtain ⟨T, hTT⟩ : ∃ T, onz k = T := ⟨_, rfl⟩
  rw [hTT] at HO hR hT2
  clear hT hTT
  by_cases h1 : X = T
  · have q1 : ((X : Int) == (T : Int)) = true := by rw [h1]; simp
    rw [if_pos h1] at hR
    by_cases h2 : M = 0
    · rw [if_pos h2] at hR
      have q2 : ((M : Int) != 0) = false := by rw [h2]; rfl
      subst hR
      clear h1 h2
      go_enter Try.func28, Try.ntmps28
      go_wp2_with fail
      refine (HS.out _).mono ?_
      rintro e w1 ⟨rfl, hb⟩
      have H1 := Lib.hid ((HB.out _).on hb)
      have hc := H1.out.all
      clear hb
      go_wp2_with fail
      refine (HO.out _).mono ?_
      rintro e w2 ⟨rfl, hb⟩
      have H2 := Lib.hid (H1.out.on hb)
      have hc2 := H2.out.all
      clear hb hc
      go_wp2_with fail
      refine (HO.out _).mono ?_
      rintro e w3 ⟨rfl, hb⟩
      have H3 := Lib.hid (H2.out.on hb)
      clear hb hc2
      go_wp2_with fail
      go_ret
      exact ⟨rfl, H3.out.b⟩
    · rw [if_neg h2] at hR
      have q2 : ((M : Int) != 0) = true := by simp; omega
      subst hR
      clear h1 h2
      go_enter Try.func28, Try.ntmps28
      go_wp2_with fail
      refine (HS.out _).mono ?_
      rintro e w1 ⟨rfl, hb⟩
      have H1 := Lib.hid ((HB.out _).on hb)
      have hc := H1.out.all
      clear hb
      go_wp2_with fail
      refine (HO.out _).mono ?_
      rintro e w2 ⟨rfl, hb⟩
      have H2 := Lib.hid (H1.out.on hb)
      have hc2 := H2.out.all
      clear hb hc
      go_wp2_with fail
      go_ret
      exact ⟨rfl, H2.out.b⟩
  · have q1 : ((X : Int) == (T : Int)) = false := by simp; omega
    rw [if_neg h1] at hR
    obtain ⟨B1, hB1⟩ : ∃ B1, ((X : Int) != 0) = B1 := ⟨_, rfl⟩
    obtain ⟨B2, hB2⟩ : ∃ B2, ((M : Int) != 0) = B2 := ⟨_, rfl⟩
    have HR : Hid (R = if B1 then 2 else if B2 then 1 else 0) := Lib.hid (by
      rw [← hR, ← hB1, ← hB2]
      by_cases c1 : X = 0
      · by_cases c2 : M = 0
        · simp [c1, c2]
        · simp [c1, c2]
      · simp [c1])
    clear h1 hR
    cases B1 <;> cases B2
    all_goals
      go_enter Try.func28, Try.ntmps28
      go_wp2_with fail
      refine (HS.out _).mono ?_
      rintro e w1 ⟨rfl, hb⟩
      have H1 := Lib.hid ((HB.out _).on hb)
      have hc := H1.out.all
      clear hb
      go_wp2_with fail
      refine (HO.out _).mono ?_
      rintro e w2 ⟨rfl, hb⟩
      have H2 := Lib.hid (H1.out.on hb)
      have hc2 := H2.out.all
      clear hb hc
      go_wp2_with fail
      refine (HO.out _).mono ?_
      rintro e w3 ⟨rfl, hb⟩
      have H3 := Lib.hid (H2.out.on hb)
      clear hb hc2
      go_wp2_with fail
      go_ret
      exact ⟨by rw [HR.out]; rfl, H3.out.b⟩
theorem class_any (k x : Nat) (w : World) (hk : kOk k) (hx : x < lim k) : Calls Try.prog 28 #[sv k, .int .u64 (x : Int)] w fun e w' => e = .returned (.int .i64 (clk k x : Int)) ∧ Below w.heap.size w w' := by
  have h2 := fr_lt (w := k) (x := x)
  have h1 := ex_lt (w := k) (x := x)
  have hf := hk.facts
  rw [show 2 ^ fb k = hdn k from rfl] at h2
  have h3 : ex k x ≤ onz k := by unfold onz; omega
  exact class_walk k x w (sg k x) (ex k x) (fr k x) hk (by omega) (by omega) (Lib.hid fun W => split_any k x W hk hx)

/-- m and e of a finite float's parts -/
def aM (k X M : Nat) : Nat := if X = 0 then M else M + hdn k
def aE (k X : Nat) : Int := if X = 0 then 1 - (bia k : Int) - (fb k : Int) else (X : Int) - (bia k : Int) - (fb k : Int)
theorem or_hdn {k M : Nat} (hk : kOk k) (hM : M < hdn k) : bits .or .u64 (M : Int) (hdn k : Int) = ((M + hdn k : Nat) : Int) := by
  have hf := hk.facts
  have h := u64_or_nat M (hdn k) (by omega) (by omega)
  have e : hdn k = 2 ^ fb k := rfl
  rw [Nat.or_comm, or_add (hdn k) M (fb k) (by rw [e]; exact Nat.mod_self _) (by rw [← e]; exact hM), Nat.add_comm] at h
  exact h
set_option maxRecDepth 100000 in
set_option maxHeartbeats 2000000 in
theorem amount_any (k X M : Nat) (w : World) (hk : kOk k) (hX : X ≤ onz k) (hM : M < hdn k) :
    Calls Try.prog 35 #[sv k, .int .i64 (X : Int), .int .u64 (M : Int)] w fun e w' => e = .returned (.tuple #[.int .u64 (aM k X M : Int), .int .i64 (aE k X)]) ∧ Below w.heap.size w w' := by
  have HU : Hid (∀ W, Bs w k W → Calls Try.prog 43 #[sv k] W fun e w' => e = .returned (.int .i64 (1 - (bia k : Int) - (fb k : Int))) ∧ Bs w k w') := Lib.hid fun W hW => (leastUnit_any k W hk).mono fun e w' ⟨he, hb⟩ => ⟨he, hW.on hb⟩
  have HI : Hid (∀ W, Bs w k W → Calls Try.prog 41 #[sv k] W fun e w' => e = .returned (.int .u64 (hdn k : Int)) ∧ Bs w k w') := Lib.hid fun W hW => (hidden_any k W hk).mono fun e w' ⟨he, hb⟩ => ⟨he, hW.on hb⟩
  have HB := Lib.hid (Bs.new w k)
  have hf := hk.facts
  have HO := Lib.hid (or_hdn hk hM)
  obtain ⟨U, hU⟩ : ∃ U : Int, 1 - (bia k : Int) - (fb k : Int) = U := ⟨_, rfl⟩
  rw [hU] at HU
  unfold aM aE
  by_cases h0 : X = 0
  · subst h0
    rw [if_pos rfl, if_pos rfl, hU]
    unfold sv at HU ⊢
    clear hf hU
    go_enter Try.func35, Try.ntmps35
    go_wp2_with fail
    refine (HU.out _ (HB.out _)).mono ?_
    rintro e w1 ⟨rfl, h1⟩
    go_wp2_with fail
    go_ret2
    exact ⟨rfl, h1.b⟩
  · rw [if_neg h0, if_neg h0]
    have q0 : ((X : Int) == 0) = false := by simp; omega
    have q1 : IntKind.i64.wrap (U + (X : Int)) = U + (X : Int) := IntWalk.i64_in _ (by omega)
    have q2 : IntKind.i64.wrap (U + (X : Int) - 1) = U + (X : Int) - 1 := IntWalk.i64_in _ (by omega)
    have HQ : Hid (U + (X : Int) - 1 = (X : Int) - (bia k : Int) - (fb k : Int)) := Lib.hid (by omega)
    unfold sv at HU HI ⊢
    clear hf hU h0
    go_enter Try.func35, Try.ntmps35
    go_wp2_with fail
    have hb0 := HB.out 58
    generalize w.alloc _ = W0 at hb0 ⊢
    have hb1 := hb0.drew
    have hb := hb1.all
    go_region_held3 (fun W => W.cell? ⟨w.heap.size, 0, none⟩ = some (.int .i64 (k : Int)) ∧ W.cell? ⟨w.heap.size, 1, none⟩ = some (.int .i64 (xb k : Int)) ∧ W.cell? ⟨w.heap.size, 2, none⟩ = some (.int .i64 (fb k : Int)) ∧ Bs w k W) (first | exact Bs.all ‹_› | exact Bs.all (And.right ‹_›))
      (first
        | (go_at_call 41; with_reducible refine (HI.out _ ?_).mono ?_; (first | assumption | exact And.right ‹_›); rintro e w' ⟨rfl, hk5⟩)
        | (go_at_call 43; with_reducible refine (HU.out _ ?_).mono ?_; (first | assumption | exact And.right ‹_›); rintro e w' ⟨rfl, hk5⟩))
    go_wp2_with fail
    exact bodyPost_ret (v := .tuple #[.int .u64 (bits .or .u64 (M : Int) (hdn k : Int)), .int .i64 (U + (X : Int) - 1)]) (by simp [results, Try.results35, go_sem]) rfl ⟨by rw [HO.out, HQ.out], (by assumption : Bs w k _).b⟩
end Go.Proofs.Ytkgejncolchobaa.nn
