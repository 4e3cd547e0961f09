/- The real fbits: compose of any; the walk of convert. -/
import Derived.Test.YtkgejncolchobaaShape8
namespace Go.Proofs.Ytkgejncolchobaa.nn
open Go.RowKit

theorem compose_any (k : Nat) (neg : Bool) (m : Nat) (e : Int) (w : World) (hk : kOk k) (hm2 : m < 18446744073709551616) (he : -2000 ≤ e) (he2 : e ≤ 2000) :
    Calls Try.prog 37 #[sv k, .bool neg, .int .u64 (m : Int), .int .i64 e] w fun r w' => r = .returned (.tuple #[.int .u64 (cmV k neg m e : Int), .bool (cmO k m e)]) ∧ Below w.heap.size w w' := by
  have hf := hk.facts
  by_cases h0 : m = 0
  · subst h0
    have e1 : cmO k 0 e = true := if_pos rfl
    have e2 : cmV k neg 0 e = kv (xb k) (fb k) neg 0 0 := by unfold cmV; rw [e1, if_pos rfl, if_pos rfl]
    rw [e1, e2]
    exact compose_zero k neg e w hk
  · have h1 : 0 < m := by omega
    have hl : m.log2 < 64 := (Nat.log2_lt h0).2 (by rw [p64]; exact hm2)
    have hbl := bitLen_log2 64 m h1 (by rw [p64]; exact hm2) (by omega)
    have hu1 := cmU_lt (k := k) (e := e) h1
    have hH : hdn k = 2 ^ fb k := rfl
    have hH2 : 2 ^ (fb k + 1) = 2 * hdn k := by rw [hH, Nat.pow_succ, Nat.mul_comm]
    rw [hH2] at hu1
    have hlow : hdn k ≤ cmU k m e → 1 - (bia k : Int) ≤ (m.log2 : Int) + e := fun h => by
      by_cases h' : (m.log2 : Int) + e < 1 - (bia k : Int)
      · have := cmU_low h1 h'; rw [← hH] at this; omega
      · omega
    refine compose_walk k m (m.log2 + 1) (bia k) (fb k) (hdn k) neg e (1 - (bia k : Int) - (fb k : Int)) (unt k m e) (cmU k m e)
      (if cmU k m e < hdn k then kv (xb k) (fb k) neg 0 (cmU k m e) else kv (xb k) (fb k) neg ((m.log2 : Int) + e + (bia k : Int)).toNat (cmU k m e - hdn k)) (cmV k neg m e) (sOk m (e - unt k m e)) (cmO k m e) w hk h1 hm2 he he2
      (by omega) (by omega) (by omega) (by omega) rfl (by omega) (by omega) (by omega) ?_ ?_ ?_ ?_ ?_ ?_ (by omega) ?_ ?_ ?_ ?_
    · unfold unt; omega
    · refine Lib.hid fun W => (Go.Proofs.Try.bits_Len64 (m : Int) W (by omega) (by omega)).mono ?_
      rintro r w' ⟨rfl, rfl⟩
      exact ⟨by rw [Int.toNat_natCast, hbl], rfl⟩
    · exact Lib.hid fun W hW => (bias_any k W hk).mono fun e w' ⟨he, hb⟩ => ⟨he, hW.on hb⟩
    · exact Lib.hid fun W hW => (leastUnit_any k W hk).mono fun e w' ⟨he, hb⟩ => ⟨he, hW.on hb⟩
    · exact Lib.hid fun W hW => (hidden_any k W hk).mono fun e w' ⟨he, hb⟩ => ⟨he, hW.on hb⟩
    · exact Lib.hid fun W => shift_any m (e - unt k m e) W hm2 (by unfold unt; omega) (by unfold unt; omega)
    · refine Lib.hid fun X M W h hW => ?_
      rcases h with ⟨hO, hlt, rfl, rfl⟩ | ⟨hO, hge, hle, hX, rfl⟩
      · rw [if_pos hlt]
        exact (join_any k neg 0 _ W hk (by omega) hlt).mono fun e w' ⟨he, hb⟩ => ⟨he, hW.on hb⟩
      · rw [if_neg (by omega), show ((m.log2 : Int) + e + (bia k : Int)).toNat = X by omega]
        exact (join_any k neg X _ W hk (by have := hk.bt; omega) (by omega)).mono fun e w' ⟨he, hb⟩ => ⟨he, hW.on hb⟩
    · unfold cmO
      rw [if_neg h0, show ((m.log2 + 1 : Nat) : Int) - 1 + e = (m.log2 : Int) + e by omega]
    · refine Lib.hid ?_
      unfold cmV
      rw [if_neg h0]
    · intro h2 _ _
      have := hlow h2
      omega
/-- the worlds behind a call's two boxed shapes -/
structure Bs2 (w : World) (k j : Nat) (W : World) : Prop where
  c0 : W.cell? ⟨w.heap.size, 0, none⟩ = some (.int .i64 (k : Int))
  c1 : W.cell? ⟨w.heap.size, 1, none⟩ = some (.int .i64 (xb k : Int))
  c2 : W.cell? ⟨w.heap.size, 2, none⟩ = some (.int .i64 (fb k : Int))
  d0 : W.cell? ⟨w.heap.size + 1, 0, none⟩ = some (.int .i64 (j : Int))
  d1 : W.cell? ⟨w.heap.size + 1, 1, none⟩ = some (.int .i64 (xb j : Int))
  d2 : W.cell? ⟨w.heap.size + 1, 2, none⟩ = some (.int .i64 (fb j : Int))
  b : Below w.heap.size w W
  z : w.heap.size + 1 < W.heap.size
theorem Bs2.new (w : World) (k j : Nat) (T : TypeId) : Bs2 w k j ((w.alloc (.cells #[.int .i64 (k : Int), .int .i64 (xb k : Int), .int .i64 (fb k : Int)] T)).alloc (.cells #[.int .i64 (j : Int), .int .i64 (xb j : Int), .int .i64 (fb j : Int)] T)) := by
  have h := Bs.new w k T
  have h2 := Bs.new (w.alloc (.cells #[.int .i64 (k : Int), .int .i64 (xb k : Int), .int .i64 (fb k : Int)] T)) j T
  have hz : (w.alloc (.cells #[.int .i64 (k : Int), .int .i64 (xb k : Int), .int .i64 (fb k : Int)] T)).heap.size = w.heap.size + 1 := by simp
  have h3 := h.on h2.b
  obtain ⟨x0, x1, x2, _, x4⟩ := h2
  rw [hz] at x0 x1 x2 x4
  exact ⟨h3.c0, h3.c1, h3.c2, x0, x1, x2, h3.b, x4⟩
theorem Bs2.on {w W W' : World} {k j : Nat} (h : Bs2 w k j W) (hB : Below W.heap.size W W') : Bs2 w k j W' := by
  have hz := h.z
  have hz1 : w.heap.size < W.heap.size := by omega
  exact ⟨(hB.cell (p := ⟨_, _, none⟩) hz1).trans h.c0, (hB.cell (p := ⟨_, _, none⟩) hz1).trans h.c1, (hB.cell (p := ⟨_, _, none⟩) hz1).trans h.c2, (hB.cell (p := ⟨_, _, none⟩) hz).trans h.d0, (hB.cell (p := ⟨_, _, none⟩) hz).trans h.d1, (hB.cell (p := ⟨_, _, none⟩) hz).trans h.d2, h.b.trans (hB.mono (by omega)), Nat.lt_of_lt_of_le hz hB.size⟩
theorem Bs2.drew {w W : World} {k j : Nat} (h : Bs2 w k j W) : Bs2 w k j W.drew := h.on (Below.drew (Below.refl _ _))
theorem Bs2.all {w W : World} {k j : Nat} (h : Bs2 w k j W) : W.cell? ⟨w.heap.size, 0, none⟩ = some (.int .i64 (k : Int)) ∧ W.cell? ⟨w.heap.size, 1, none⟩ = some (.int .i64 (xb k : Int)) ∧ W.cell? ⟨w.heap.size, 2, none⟩ = some (.int .i64 (fb k : Int)) ∧
    W.cell? ⟨w.heap.size + 1, 0, none⟩ = some (.int .i64 (j : Int)) ∧ W.cell? ⟨w.heap.size + 1, 1, none⟩ = some (.int .i64 (xb j : Int)) ∧ W.cell? ⟨w.heap.size + 1, 2, none⟩ = some (.int .i64 (fb j : Int)) ∧ Bs2 w k j W := ⟨h.c0, h.c1, h.c2, h.d0, h.d1, h.d2, h⟩
/-- what convert answers -/
def cvO (k j x : Nat) : Bool := if ex k x = onz k then sOk (fr k x) ((fb j : Int) - (fb k : Int)) else cmO j (aM k (ex k x) (fr k x)) (aE k (ex k x))
def cvV (k j x : Nat) : Nat := if ex k x = onz k then (if cvO k j x then kv (xb j) (fb j) (sg k x) (onz j) (sV (fr k x) ((fb j : Int) - (fb k : Int))) else 0) else cmV j (sg k x) (aM k (ex k x) (fr k x)) (aE k (ex k x))
set_option maxRecDepth 100000 in
set_option maxHeartbeats 2000000 in
theorem convert_walk (k j x X M C m u r : Nat) (S O R : Bool) (e n : Int) (w : World) (hfk : fb k ≤ 52) (hfj : fb j ≤ 52) (hn : (fb j : Int) - (fb k : Int) = n)
    (HS : Hid (∀ W, Calls Try.prog 30 #[sv k, .int .u64 (x : Int)] W fun e w' => e = .returned (.tuple #[.bool S, .int .i64 (X : Int), .int .u64 (M : Int)]) ∧ Below W.heap.size W w'))
    (HC : Hid (∀ W, Calls Try.prog 28 #[sv k, .int .u64 (x : Int)] W fun e w' => e = .returned (.int .i64 (C : Int)) ∧ Below W.heap.size W w'))
    (HSh : Hid (∀ W, Calls Try.prog 36 #[.int .u64 (M : Int), .int .i64 n] W fun r w' => r = .returned (.tuple #[.int .u64 (u : Int), .bool O]) ∧ Below W.heap.size W w'))
    (HO : Hid (∀ W, Bs2 w k j W → Calls Try.prog 40 #[sv j] W fun e w' => e = .returned (.int .i64 (onz j : Int)) ∧ Bs2 w k j w'))
    (HJ : Hid (3 ≤ C → O = true → ∀ W, Bs2 w k j W → Calls Try.prog 42 #[sv j, .bool S, .int .i64 (onz j : Int), .int .u64 (u : Int)] W fun e w' => e = .returned (.int .u64 (r : Int)) ∧ Bs2 w k j w'))
    (HA : Hid (C < 3 → ∀ W, Calls Try.prog 35 #[sv k, .int .i64 (X : Int), .int .u64 (M : Int)] W fun r w' => r = .returned (.tuple #[.int .u64 (m : Int), .int .i64 e]) ∧ Below W.heap.size W w'))
    (HCm : Hid (C < 3 → ∀ W, Calls Try.prog 37 #[sv j, .bool S, .int .u64 (m : Int), .int .i64 e] W fun y w' => y = .returned (.tuple #[.int .u64 (r : Int), .bool R]) ∧ Below W.heap.size W w'))
    (hC : C < 5) (HR : Hid (3 ≤ C → R = O)) (HR0 : Hid (3 ≤ C → O = false → r = 0)) :
    Calls Try.prog 31 #[sv k, sv j, .int .u64 (x : Int)] w fun y w' => y = .returned (.tuple #[.int .u64 (r : Int), .bool R]) ∧ Below w.heap.size w w' := by
  have HB := Lib.hid (Bs2.new w k j)
  unfold sv at HS HC HO HJ HA HCm ⊢
  by_cases hC3 : C < 3
  · have HA' := Lib.hid (HA.out hC3)
    have HCm' := Lib.hid (HCm.out hC3)
    have q1 : ((C : Int) == 3) = false := by simp; omega
    have q2 : ((C : Int) == 4) = false := by simp; omega
    clear hC3 hC HA HCm HR HR0 hn
    go_enter Try.func31, Try.ntmps31
    go_wp2_with fail
    with_reducible refine (HS.out _).mono ?_
    rintro r1 w1 ⟨rfl, hb⟩
    have h1 := (HB.out _).on hb
    have hc1 := h1.all
    clear hb
    go_wp2_with fail
    with_reducible refine (HC.out _).mono ?_
    rintro r1 w2 ⟨rfl, hb⟩
    have h2 := h1.on hb
    have hc2 := h2.all
    clear hb hc1 h1
    go_wp2_with fail
    with_reducible refine (HA'.out _).mono ?_
    rintro r1 w3 ⟨rfl, hb⟩
    have h3 := h2.on hb
    have hc3 := h3.all
    clear hb hc2 h2
    go_wp2_with fail
    with_reducible refine (HCm'.out _).mono ?_
    rintro r1 w4 ⟨rfl, hb⟩
    have H4 := Lib.hid (h3.on hb)
    clear hb hc3 h3
    go_wp2_with fail
    go_ret2
    exact ⟨rfl, H4.out.b⟩
  · have hR := HR.out (by omega)
    have HR0' := Lib.hid (HR0.out (by omega))
    have HJ0 := Lib.hid (HJ.out (by omega))
    subst hR
    have q : IntKind.i64.wrap ((fb j : Int) - (fb k : Int)) = n := by rw [← hn]; exact IntWalk.i64_in _ (by omega)
    have h34 : C = 3 ∨ C = 4 := by omega
    clear hC3 hC HA HCm HR HR0 HJ
    rcases h34 with rfl | rfl
    all_goals
      cases R with
      | false =>
        have hr0 : r = 0 := HR0'.out rfl
        subst hr0
        go_enter Try.func31, Try.ntmps31
        go_wp2_with fail
        with_reducible refine (HS.out _).mono ?_
        rintro r1 w1 ⟨rfl, hb⟩
        have h1 := (HB.out _).on hb
        have hc1 := h1.all
        clear hb
        go_wp2_with fail
        with_reducible refine (HC.out _).mono ?_
        rintro r1 w2 ⟨rfl, hb⟩
        have h2 := h1.on hb
        have hc2 := h2.all
        clear hb hc1 h1
        go_wp2_with fail
        with_reducible refine (HSh.out _).mono ?_
        rintro r1 w3 ⟨rfl, hb⟩
        have H3 := Lib.hid (h2.on hb)
        clear hb hc2 h2
        go_wp2_with fail
        go_ret2
        exact ⟨rfl, H3.out.b⟩
      | true =>
        have HJ' := Lib.hid (HJ0.out rfl)
        go_enter Try.func31, Try.ntmps31
        go_wp2_with fail
        with_reducible refine (HS.out _).mono ?_
        rintro r1 w1 ⟨rfl, hb⟩
        have h1 := (HB.out _).on hb
        have hc1 := h1.all
        clear hb
        go_wp2_with fail
        with_reducible refine (HC.out _).mono ?_
        rintro r1 w2 ⟨rfl, hb⟩
        have h2 := h1.on hb
        have hc2 := h2.all
        clear hb hc1 h1
        go_wp2_with fail
        with_reducible refine (HSh.out _).mono ?_
        rintro r1 w3 ⟨rfl, hb⟩
        have h3 := h2.on hb
        clear hb hc2 h2
        go_wp2_with fail
        have hb1 := h3.drew
        have hb := hb1.all
        go_region_held3 (fun W => W.cell? ⟨w.heap.size, 0, none⟩ = some (.int .i64 (k : Int)) ∧ W.cell? ⟨w.heap.size, 1, none⟩ = some (.int .i64 (xb k : Int)) ∧ W.cell? ⟨w.heap.size, 2, none⟩ = some (.int .i64 (fb k : Int)) ∧ W.cell? ⟨w.heap.size + 1, 0, none⟩ = some (.int .i64 (j : Int)) ∧ W.cell? ⟨w.heap.size + 1, 1, none⟩ = some (.int .i64 (xb j : Int)) ∧ W.cell? ⟨w.heap.size + 1, 2, none⟩ = some (.int .i64 (fb j : Int)) ∧ Bs2 w k j W) (first | exact Bs2.all ‹_› | exact Bs2.all (And.right ‹_›))
          (first
            | (go_at_call 40; with_reducible refine (HO.out _ ?_).mono ?_; (first | assumption | exact And.right ‹_›); rintro e w' ⟨rfl, hk6⟩)
            | (go_at_call 42; with_reducible refine (HJ'.out _ ?_).mono ?_; (first | assumption | exact And.right ‹_›); rintro e w' ⟨rfl, hk6⟩))
        clear hb hb1 h3
        go_wp2_with fail
        go_ret2
        exact ⟨rfl, (by assumption : Bs2 w k j _).b⟩
theorem cl5_inf {k X M : Nat} : (3 ≤ cl5 (xb k) X M ↔ X = onz k) ∧ cl5 (xb k) X M < 5 := by
  unfold cl5
  rw [show 2 ^ xb k - 1 = onz k from rfl]
  by_cases h : X = onz k
  · rw [if_pos h]
    split <;> exact ⟨⟨fun _ => h, fun _ => by omega⟩, by omega⟩
  · rw [if_neg h]
    split
    · exact ⟨⟨fun h2 => absurd h2 (by omega), fun h2 => absurd h2 h⟩, by omega⟩
    · split <;> exact ⟨⟨fun h2 => absurd h2 (by omega), fun h2 => absurd h2 h⟩, by omega⟩
theorem aM_lt {k X M : Nat} (hk : kOk k) (hM : M < hdn k) : aM k X M < 9007199254740992 := by
  have := hk.facts
  unfold aM
  split <;> omega
theorem aE_le {k X : Nat} (hk : kOk k) (hX : X ≤ onz k) : -1074 ≤ aE k X ∧ aE k X ≤ 972 := by
  have := hk.facts
  unfold aE
  split <;> omega
theorem convert_any (k j x : Nat) (w : World) (hk : kOk k) (hj : kOk j) (hx : x < lim k) :
    Calls Try.prog 31 #[sv k, sv j, .int .u64 (x : Int)] w fun y w' => y = .returned (.tuple #[.int .u64 (cvV k j x : Int), .bool (cvO k j x)]) ∧ Below w.heap.size w w' := by
  have h2 := fr_lt (w := k) (x := x)
  have h1 := ex_lt (w := k) (x := x)
  have hfk := hk.facts
  have hfj := hj.facts
  have h2' : fr k x < hdn k := h2
  have h3 : ex k x ≤ onz k := by unfold onz; omega
  obtain ⟨c1, c2⟩ := cl5_inf (k := k) (X := ex k x) (M := fr k x)
  have hm := aM_lt (X := ex k x) hk h2'
  have he := aE_le hk h3
  have hsl : sV (fr k x) ((fb j : Int) - (fb k : Int)) < hdn j := sV_lt h2 (by omega)
  refine convert_walk k j x (ex k x) (fr k x) (clk k x) (aM k (ex k x) (fr k x)) (sV (fr k x) ((fb j : Int) - (fb k : Int))) (cvV k j x) (sg k x) (sOk (fr k x) ((fb j : Int) - (fb k : Int))) (cvO k j x) (aE k (ex k x)) ((fb j : Int) - (fb k : Int)) w (by omega) (by omega) rfl
    (Lib.hid fun W => split_any k x W hk hx) (Lib.hid fun W => class_any k x W hk hx) (Lib.hid fun W => shift_any _ _ W (by omega) (by omega) (by omega))
    (Lib.hid fun W hW => (ones_any j W hj).mono fun e w' ⟨he, hb⟩ => ⟨he, hW.on hb⟩) ?_ (Lib.hid fun _ W => amount_any k _ _ W hk h3 h2') ?_ c2 ?_ ?_
  · refine Lib.hid fun h hO W hW => ?_
    unfold cvV cvO
    rw [if_pos (c1.1 h), if_pos (c1.1 h), hO, if_pos rfl]
    exact (join_any j _ _ _ W hj (Nat.le_refl _) hsl).mono fun e w' ⟨he, hb⟩ => ⟨he, hW.on hb⟩
  · refine Lib.hid fun h W => ?_
    have h4 : ¬ ex k x = onz k := fun h5 => by have := c1.2 h5; unfold clk at h; omega
    unfold cvV cvO
    rw [if_neg h4, if_neg h4]
    exact compose_any j _ _ _ W hj (by omega) (by omega) (by omega)
  · refine Lib.hid fun h => ?_
    unfold cvO
    rw [if_pos (c1.1 h)]
  · refine Lib.hid fun h hO => ?_
    unfold cvV cvO
    rw [if_pos (c1.1 h), if_pos (c1.1 h), hO]
    rfl
end Go.Proofs.Ytkgejncolchobaa.nn
