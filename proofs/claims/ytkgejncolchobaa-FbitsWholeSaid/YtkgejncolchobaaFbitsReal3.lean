/- The contracts of the real fbits: Int, Least. -/
import Derived.Test.YtkgejncolchobaaFbitsReal2
import Derived.Test.YtkgejncolchobaaRefLeast
namespace Go.Proofs.Ytkgejncolchobaa.nn
open Go.RowKit

/-- what the real Int answers of parts that are not those of -2^64 -/
def reR (S O K : Bool) (V : Nat) : Bool × Nat × Bool := if O = false ∨ K = false ∨ (S = true ∧ V = 0) then (false, 0, false) else (S, V - S.toNat, true)
theorem re_i {S O : Bool} {M : Nat} {E : Int} (hM : M < 9007199254740992) (hz : O = false → M = 0 ∧ S = false) (hb : O = true → -1074 < E → 4503599627370496 ≤ M) (hn : ¬ (S = true ∧ E = 12 ∧ M = 4503599627370496)) : reR S O (sOk M E) (sV M E) = iR S O M E := by
  unfold reR iR hid52
  by_cases hO : O = false
  · rw [if_pos (.inl hO), if_pos (.inl hO)]
  · have hO1 : O = true := by cases O <;> simp_all
    by_cases h0 : M = 0
    · subst h0
      have e1 : sOk 0 E = true := by unfold sOk; split <;> simp
      have e2 : sV 0 E = 0 := by unfold sV; split <;> simp
      rw [e1, e2, hO1]
      cases S <;> rfl
    · rw [if_neg (show ¬ (O = false ∨ M = 0 ∧ S = true) from fun h => h.elim hO fun h => h0 h.1), if_neg h0, if_neg hn]
      by_cases h11 : 11 < E
      · rw [if_pos h11]
        have hM2 := hb hO1 (by omega)
        have e1 : sOk M E = false := by
          unfold sOk
          rw [if_neg (by omega)]
          refine decide_eq_false fun h => ?_
          have h1 : 2 ^ 12 ≤ 2 ^ E.toNat := Nat.pow_le_pow_right (by decide) (by omega)
          have h2 : 4503599627370496 * 2 ^ 12 ≤ M * 2 ^ E.toNat := Nat.mul_le_mul hM2 h1
          rw [show 4503599627370496 * 2 ^ 12 = 18446744073709551616 by decide] at h2
          omega
        rw [e1, if_pos (.inr (.inl rfl))]
      · rw [if_neg h11]
        by_cases hE : 0 ≤ E
        · rw [if_pos hE]
          have hlt : M * 2 ^ E.toNat < 18446744073709551616 := by
            have h1 : 2 ^ E.toNat ≤ 2 ^ 11 := Nat.pow_le_pow_right (by decide) (by omega)
            have h2 : M * 2 ^ E.toNat ≤ M * 2 ^ 11 := Nat.mul_le_mul_left _ h1
            omega
          have hp : 0 < M * 2 ^ E.toNat := Nat.mul_pos (by omega) (Nat.two_pow_pos _)
          have e1 : sOk M E = true := by unfold sOk; rw [if_neg (by omega)]; exact decide_eq_true hlt
          have e2 : sV M E = M * 2 ^ E.toNat := by unfold sV; rw [if_neg (by omega)]; exact Nat.mod_eq_of_lt hlt
          rw [e1, e2, if_neg (by rw [hO1]; intro h; rcases h with h | h | h; exact absurd h (by decide); exact absurd h (by decide); omega)]
        · rw [if_neg hE]
          obtain ⟨a1, a2⟩ := down_min (m := M) (d := (-E).toNat) (by omega)
          rw [a1, a2]
          have e1 : sOk M E = decide (M % 2 ^ (-E).toNat = 0) := by unfold sOk; rw [if_pos (by omega)]
          have e2 : sV M E = M / 2 ^ (-E).toNat := by unfold sV; rw [if_pos (by omega)]
          rw [e1, e2]
          by_cases hm : M % 2 ^ (-E).toNat = 0
          · have hp : M / 2 ^ (-E).toNat ≠ 0 := fun h => by
              have := Nat.div_add_mod M (2 ^ (-E).toNat)
              rw [h, hm, Nat.mul_zero] at this
              omega
            rw [if_pos hm, decide_eq_true hm, if_neg (by rw [hO1]; intro h; rcases h with h | h | h; exact absurd h (by decide); exact absurd h (by decide); exact hp h.2)]
          · rw [if_neg hm, decide_eq_false hm, if_pos (.inr (.inl rfl))]
theorem in_least : inR 14118784831806504960 = (true, 18446744073709551615, true) := by decide
set_option maxRecDepth 100000 in
theorem int_least (x : Nat) (w : World) (h : x = 14118784831806504960) : Calls Try.prog 21 #[.int .u64 (x : Int)] w fun e W' => e = .returned (.tuple #[.bool true, .int .u64 18446744073709551615, .bool true]) ∧ w = W' := by
  have q1 : ((x : Int) == 14118784831806504960) = true := by simp; omega
  clear h
  go_enter Try.func21, Try.ntmps21
  go_wp2_with fail
  exact bodyPost_ret (v := .tuple #[.bool true, .int .u64 18446744073709551615, .bool true]) (by simp [results, Try.results21, go_sem]) rfl ⟨rfl, rfl⟩
theorem InAns.of {r : Bool × Nat × Bool} {a c : Bool} {b : Int} {W W' : World} (h : (a, b, c) = (r.1, (r.2.1 : Int), r.2.2)) (hb : Below W.heap.size W W') : InAns r W (.returned (.tuple #[.bool a, .int .u64 b, .bool c])) W' := by
  injection h with h1 h2
  injection h2 with h2 h3
  exact InAns.mk h1.symm h2.symm h3.symm hb
set_option maxRecDepth 100000 in
set_option maxHeartbeats 2000000 in
theorem fint_walk (x V : Nat) (w : World) (S O K : Bool) (M : Nat) (E : Int) (hx : x ≠ 14118784831806504960) (hV : V < 18446744073709551616)
    (HX : Hid (∀ W, Calls Try.prog 19 #[.int .u64 (x : Int)] W fun e W' => e = .returned (.tuple #[.bool S, .int .u64 (M : Int), .int .i64 E, .bool O]) ∧ Below W.heap.size W W'))
    (HS : Hid (∀ W, Calls Try.prog 36 #[.int .u64 (M : Int), .int .i64 E] W fun e W' => e = .returned (.tuple #[.int .u64 (V : Int), .bool K]) ∧ Below W.heap.size W W')) :
    Calls Try.prog 21 #[.int .u64 (x : Int)] w (InAns (reR S O K V) w) := by
  have q0 : ((x : Int) == 14118784831806504960) = false := by simp; omega
  obtain ⟨R, hR⟩ : ∃ R, reR S O K V = R := ⟨_, rfl⟩
  rw [hR]
  unfold reR at hR
  have HR := Lib.hid hR
  clear hR hx
  cases O with
  | false =>
    go_enter Try.func21, Try.ntmps21
    go_wp2_with fail
    with_reducible refine (HX.out _).mono ?_
    rintro r1 w1 ⟨rfl, hb⟩
    have H1 := Lib.hid hb
    clear hb
    go_wp2_with fail
    with_reducible refine (HS.out _).mono ?_
    rintro r1 w2 ⟨rfl, hb⟩
    have H2 := Lib.hid (H1.out.trans (hb.mono H1.out.size))
    clear hb
    go_wp2_with fail
    exact bodyPost_ret (v := .tuple #[.bool false, .int .u64 0, .bool false]) (by simp [results, Try.results21, go_sem]) rfl (InAns.of (by rw [← HR.out, if_pos (by simp)]; rfl) H2.out)
  | true =>
    cases K with
    | false =>
      go_enter Try.func21, Try.ntmps21
      go_wp2_with fail
      with_reducible refine (HX.out _).mono ?_
      rintro r1 w1 ⟨rfl, hb⟩
      have H1 := Lib.hid hb
      clear hb
      go_wp2_with fail
      with_reducible refine (HS.out _).mono ?_
      rintro r1 w2 ⟨rfl, hb⟩
      have H2 := Lib.hid (H1.out.trans (hb.mono H1.out.size))
      clear hb
      go_wp2_with fail
      exact bodyPost_ret (v := .tuple #[.bool false, .int .u64 0, .bool false]) (by simp [results, Try.results21, go_sem]) rfl (InAns.of (by rw [← HR.out, if_pos (by simp)]; rfl) H2.out)
    | true =>
      cases S with
      | false =>
        go_enter Try.func21, Try.ntmps21
        go_wp2_with fail
        with_reducible refine (HX.out _).mono ?_
        rintro r1 w1 ⟨rfl, hb⟩
        have H1 := Lib.hid hb
        clear hb
        go_wp2_with fail
        with_reducible refine (HS.out _).mono ?_
        rintro r1 w2 ⟨rfl, hb⟩
        have H2 := Lib.hid (H1.out.trans (hb.mono H1.out.size))
        clear hb
        go_wp2_with fail
        exact bodyPost_ret (v := .tuple #[.bool false, .int .u64 (V : Int), .bool true]) (by simp [results, Try.results21, go_sem]) rfl (InAns.of (by rw [← HR.out, if_neg (by simp)]; simp) H2.out)
      | true =>
        by_cases h0 : V = 0
        · have q1 : ((V : Int) == 0) = true := by simp; omega
          have H0 := Lib.hid h0
          clear h0
          go_enter Try.func21, Try.ntmps21
          go_wp2_with fail
          with_reducible refine (HX.out _).mono ?_
          rintro r1 w1 ⟨rfl, hb⟩
          have H1 := Lib.hid hb
          clear hb
          go_wp2_with fail
          with_reducible refine (HS.out _).mono ?_
          rintro r1 w2 ⟨rfl, hb⟩
          have H2 := Lib.hid (H1.out.trans (hb.mono H1.out.size))
          clear hb
          go_wp2_with fail
          exact bodyPost_ret (v := .tuple #[.bool false, .int .u64 0, .bool false]) (by simp [results, Try.results21, go_sem]) rfl (InAns.of (by rw [← HR.out, if_pos (by simp [H0.out])]; rfl) H2.out)
        · have q1 : ((V : Int) == 0) = false := by simp; omega
          have H0 := Lib.hid h0
          have h1 : 0 < V := by omega
          clear h0
          go_enter Try.func21, Try.ntmps21
          go_wp2_with fail
          with_reducible refine (HX.out _).mono ?_
          rintro r1 w1 ⟨rfl, hb⟩
          have H1 := Lib.hid hb
          clear hb
          go_wp2_with fail
          with_reducible refine (HS.out _).mono ?_
          rintro r1 w2 ⟨rfl, hb⟩
          have H2 := Lib.hid (H1.out.trans (hb.mono H1.out.size))
          clear hb
          go_wp2_with fail
          exact bodyPost_ret (v := .tuple #[.bool true, .int .u64 ((V : Int) - 1), .bool true]) (by simp [results, Try.results21, go_sem]) rfl (InAns.of (by rw [← HR.out, if_neg (by simp; omega)]; simp; omega) H2.out)
theorem fint_any (x : Nat) (w : World) (hx : x < 18446744073709551616) : Calls Try.prog 21 #[.int .u64 (x : Int)] w (InAns (inR x) w) := by
  by_cases hl : x = 14118784831806504960
  · have e : inR x = (true, 18446744073709551615, true) := by rw [hl]; exact in_least
    rw [e]
    refine (int_least x w hl).mono ?_
    rintro e W' ⟨rfl, rfl⟩
    exact InAns.of rfl (Below.refl _ _)
  · have hM := xaM_lt x
    have hE := xaE_le x
    have hz : xaO x = false → xaM x = 0 ∧ xaS x = false := fun h => by
      have h1 : ex 64 x = 2047 := by unfold xaO at h; exact Decidable.not_not.1 (of_decide_eq_false h)
      exact ⟨(xa_none x h1).2.2.1, (xa_none x h1).2.1⟩
    have hb : xaO x = true → -1074 < xaE x → 4503599627370496 ≤ xaM x := fun h h1 => by
      have h2 : ex 64 x ≠ 2047 := by unfold xaO at h; exact of_decide_eq_true h
      unfold xaE at h1
      rw [if_neg h2] at h1
      unfold xaM hid52
      rw [if_neg h2]
      split
      · rename_i h3; rw [if_pos h3] at h1; omega
      · omega
    have hn : ¬ (xaS x = true ∧ xaE x = 12 ∧ xaM x = 4503599627370496) := fun ⟨n1, n2, n3⟩ => by
      have h2 : ex 64 x ≠ 2047 := fun h => by rw [(xa_none x h).2.1] at n1; exact absurd n1 (by decide)
      have hp := parts_jv hx
      unfold xaS at n1
      unfold xaE at n2
      unfold xaM hid52 at n3
      rw [if_neg h2] at n1 n2 n3
      have h0 : ex 64 x ≠ 0 := fun h => by rw [if_pos h] at n2; omega
      rw [if_neg h0] at n2 n3
      have e1 : ex 64 x = 1087 := by omega
      have e2 : fr 64 x = 0 := by omega
      rw [n1, e1, e2, jv_least] at hp
      exact hl hp.symm
    have hV : sV (xaM x) (xaE x) < 18446744073709551616 := by
      unfold sV
      split
      · exact Nat.lt_of_le_of_lt (Nat.div_le_self _ _) (by omega)
      · exact Nat.mod_lt _ (by decide)
    have h := fint_walk x (sV (xaM x) (xaE x)) w (xaS x) (xaO x) (sOk (xaM x) (xaE x)) (xaM x) (xaE x) hl hV (Lib.hid fun W => fexact_any x W hx) (Lib.hid fun W => shift_any _ _ W (by omega) (by omega) (by omega))
    rw [re_i hM hz hb hn] at h
    exact h

/-! Least -/
/-- the worlds behind the table that Least has -/
structure Al (w : World) (W : World) : Prop where
  c0 : W.cell? ⟨w.heap.size, 0, none⟩ = some (.int .i64 16)
  c1 : W.cell? ⟨w.heap.size, 1, none⟩ = some (.int .i64 5)
  c2 : W.cell? ⟨w.heap.size, 2, none⟩ = some (.int .i64 10)
  c3 : W.cell? ⟨w.heap.size, 3, none⟩ = some (.int .i64 32)
  c4 : W.cell? ⟨w.heap.size, 4, none⟩ = some (.int .i64 8)
  c5 : W.cell? ⟨w.heap.size, 5, none⟩ = some (.int .i64 23)
  b : Below w.heap.size w W
  z : w.heap.size < W.heap.size
theorem Al.new (w : World) (T : TypeId) : Al w (w.alloc (.cells shT T)) :=
  ⟨by simp [shT], by simp [shT], by simp [shT], by simp [shT], by simp [shT], by simp [shT], (Below.refl _ _).alloc (Nat.le_refl _) _, by simp⟩
theorem Al.on {w W W' : World} (h : Al w W) (hB : Below W.heap.size W W') : Al w W' :=
  ⟨(hB.cell (p := ⟨_, _, none⟩) h.z).trans h.c0, (hB.cell (p := ⟨_, _, none⟩) h.z).trans h.c1, (hB.cell (p := ⟨_, _, none⟩) h.z).trans h.c2, (hB.cell (p := ⟨_, _, none⟩) h.z).trans h.c3, (hB.cell (p := ⟨_, _, none⟩) h.z).trans h.c4, (hB.cell (p := ⟨_, _, none⟩) h.z).trans h.c5, h.b.trans (hB.mono (Nat.le_of_lt h.z)), Nat.lt_of_lt_of_le h.z hB.size⟩
theorem Al.all {w W : World} (h : Al w W) : W.cell? ⟨w.heap.size, 0, none⟩ = some (.int .i64 16) ∧ W.cell? ⟨w.heap.size, 1, none⟩ = some (.int .i64 5) ∧ W.cell? ⟨w.heap.size, 2, none⟩ = some (.int .i64 10) ∧ W.cell? ⟨w.heap.size, 3, none⟩ = some (.int .i64 32) ∧ W.cell? ⟨w.heap.size, 4, none⟩ = some (.int .i64 8) ∧ W.cell? ⟨w.heap.size, 5, none⟩ = some (.int .i64 23) := ⟨h.c0, h.c1, h.c2, h.c3, h.c4, h.c5⟩
theorem Bs.lit16 {w W : World} (h : Bs w 16 W) : W.cell? ⟨w.heap.size, 0, none⟩ = some (.int .i64 16) ∧ W.cell? ⟨w.heap.size, 1, none⟩ = some (.int .i64 5) ∧ W.cell? ⟨w.heap.size, 2, none⟩ = some (.int .i64 10) ∧ Bs w 16 W := h.all
theorem Bs.lit32 {w W : World} (h : Bs w 32 W) : W.cell? ⟨w.heap.size, 0, none⟩ = some (.int .i64 32) ∧ W.cell? ⟨w.heap.size, 1, none⟩ = some (.int .i64 8) ∧ W.cell? ⟨w.heap.size, 2, none⟩ = some (.int .i64 23) ∧ Bs w 32 W := h.all
set_option maxRecDepth 100000 in
set_option maxHeartbeats 1000000 in
theorem fleast_any (x : Nat) (w : World) (hx : x < 18446744073709551616) : Calls Try.prog 25 #[.int .u64 (x : Int)] w (LeAns x w) := by
  unfold LeAns leW leB
  have h16 := fun w => convert_any 64 16 x w k64 (.inl rfl) hx
  have h32 := fun w => convert_any 64 32 x w k64 (.inr (.inl rfl)) hx
  have n16 := narrow_num (j := 16) (.inl rfl) hx
  have n32 := narrow_num (j := 32) (.inr (.inl rfl)) hx
  rw [show ((16 : Nat) : Int) = 16 from rfl] at n16
  rw [show ((32 : Nat) : Int) = 32 from rfl] at n32
  rw [n16.1, n16.2] at h16
  rw [n32.1, n32.2] at h32
  obtain ⟨a, ha⟩ : ∃ a, nrV 16 x = a := ⟨_, rfl⟩
  obtain ⟨b, hb⟩ : ∃ b, nrV 32 x = b := ⟨_, rfl⟩
  obtain ⟨p, hp⟩ : ∃ p, nrO 16 x = p := ⟨_, rfl⟩
  obtain ⟨q, hq⟩ : ∃ q, nrO 32 x = q := ⟨_, rfl⟩
  rw [ha, hp] at h16
  rw [hb, hq] at h32
  rw [ha, hb, hp, hq]
  have hw := fun W => widest_any W
  rw [show sv 64 = .agg #[.int .i64 64, .int .i64 11, .int .i64 52] from rfl] at h16 h32 hw
  rw [show sv 16 = .agg #[.int .i64 16, .int .i64 5, .int .i64 10] from rfl] at h16
  rw [show sv 32 = .agg #[.int .i64 32, .int .i64 8, .int .i64 23] from rfl] at h32
  have H16 := Lib.hid h16
  have H32 := Lib.hid h32
  have HW := Lib.hid hw
  clear ha hb hp hq h16 h32 n16 n32 hw
  go_enter Try.func25, Try.ntmps25
  go_wp2_with fail
  refine (shapes_any _).mono ?_
  rintro e w1 ⟨rfl, hb⟩
  have H1 := Lib.hid hb
  have HA := Al.new w1 70
  clear hb
  unfold shT at HA ⊢
  go_wp2_with fail
  generalize w1.alloc _ = W0 at HA ⊢
  have HA0 := Lib.hid HA
  clear HA
  go_loopw [12] (fun s12 wr => ∃ k : Int, (k = 0 ∨ (k = 1 ∧ p = false) ∨ (k = 2 ∧ p = false ∧ q = false)) ∧ s12 = .int .i64 k ∧ Hid (Al w1 wr)) (fun s12 _ => 2 - (intOf s12).toNat)
  case atStart => exact ⟨0, .inl rfl, rfl, HA0⟩
  case round =>
    obtain ⟨k, hk, rfl, hA⟩ := hrel
    have hc := hA.out.all
    rcases hk with rfl | ⟨rfl, rfl⟩ | ⟨rfl, rfl, rfl⟩
    · have HB : Hid (Bs wr 16 (wr.alloc (.cells #[.int .i64 16, .int .i64 5, .int .i64 10] 58))) := Lib.hid (Bs.new wr 16 _)
      have HCK : Hid (∀ W, Bs wr 16 W → Calls Try.prog 31 #[.agg #[.int .i64 64, .int .i64 11, .int .i64 52], .agg #[.int .i64 16, .int .i64 5, .int .i64 10], .int .u64 (x : Int)] W fun e w' => e = .returned (.tuple #[.int .u64 (a : Int), .bool p]) ∧ Bs wr 16 w') := Lib.hid fun W hW => (H16.out W).mono fun e w' ⟨he, hb⟩ => ⟨he, hW.on hb⟩
      have HWK : Hid (∀ W, Bs wr 16 W → Calls Try.prog 32 #[] W fun e w' => e = .returned (.agg #[.int .i64 64, .int .i64 11, .int .i64 52]) ∧ Bs wr 16 w') := Lib.hid fun W hW => (HW.out W).mono fun e w' ⟨he, hb⟩ => ⟨he, hW.on hb⟩
      cases p with
      | false =>
        go_wp2_with fail
        have hb0 := HB.out
        generalize wr.alloc _ = W1 at hb0 ⊢
        have hb1 := hb0.drew
        have hb := hb1.lit16
        go_region_held3 (fun W => W.cell? ⟨wr.heap.size, 0, none⟩ = some (.int .i64 16) ∧ W.cell? ⟨wr.heap.size, 1, none⟩ = some (.int .i64 5) ∧ W.cell? ⟨wr.heap.size, 2, none⟩ = some (.int .i64 10) ∧ Bs wr 16 W) (first | exact Bs.lit16 ‹_› | exact Bs.lit16 (And.right ‹_›))
          (first
            | (go_at_call 32; with_reducible refine (HWK.out _ ?_).mono ?_; (first | assumption | exact And.right ‹_›); rintro e w' ⟨rfl, hk6⟩)
            | (go_at_call 31; with_reducible refine (HCK.out _ ?_).mono ?_; (first | assumption | exact And.right ‹_›); rintro e w' ⟨rfl, hk6⟩))
        clear hb hb1 hb0
        have HA2 := Lib.hid (hA.out.on (by assumption : Bs wr 16 _).b)
        go_wp2_with fail
        go_roundw
        case rel => exact ⟨1, .inr (.inl ⟨rfl, by simp⟩), rfl, HA2⟩
        case measure => simp [intOf]
      | true =>
        go_wp2_with fail
        have hb0 := HB.out
        generalize wr.alloc _ = W1 at hb0 ⊢
        have hb1 := hb0.drew
        have hb := hb1.lit16
        go_region_held3 (fun W => W.cell? ⟨wr.heap.size, 0, none⟩ = some (.int .i64 16) ∧ W.cell? ⟨wr.heap.size, 1, none⟩ = some (.int .i64 5) ∧ W.cell? ⟨wr.heap.size, 2, none⟩ = some (.int .i64 10) ∧ Bs wr 16 W) (first | exact Bs.lit16 ‹_› | exact Bs.lit16 (And.right ‹_›))
          (first
            | (go_at_call 32; with_reducible refine (HWK.out _ ?_).mono ?_; (first | assumption | exact And.right ‹_›); rintro e w' ⟨rfl, hk6⟩)
            | (go_at_call 31; with_reducible refine (HCK.out _ ?_).mono ?_; (first | assumption | exact And.right ‹_›); rintro e w' ⟨rfl, hk6⟩))
        clear hb hb1 hb0
        have HA2 := Lib.hid (hA.out.on (by assumption : Bs wr 16 _).b)
        have hl2 := (by assumption : Bs wr 16 _).lit16
        go_wp2_with fail
        go_ret2
        exact ⟨rfl, H1.out.trans (HA2.out.b.mono H1.out.size)⟩
    · have HB : Hid (Bs wr 32 (wr.alloc (.cells #[.int .i64 32, .int .i64 8, .int .i64 23] 58))) := Lib.hid (Bs.new wr 32 _)
      have HCK : Hid (∀ W, Bs wr 32 W → Calls Try.prog 31 #[.agg #[.int .i64 64, .int .i64 11, .int .i64 52], .agg #[.int .i64 32, .int .i64 8, .int .i64 23], .int .u64 (x : Int)] W fun e w' => e = .returned (.tuple #[.int .u64 (b : Int), .bool q]) ∧ Bs wr 32 w') := Lib.hid fun W hW => (H32.out W).mono fun e w' ⟨he, hb⟩ => ⟨he, hW.on hb⟩
      have HWK : Hid (∀ W, Bs wr 32 W → Calls Try.prog 32 #[] W fun e w' => e = .returned (.agg #[.int .i64 64, .int .i64 11, .int .i64 52]) ∧ Bs wr 32 w') := Lib.hid fun W hW => (HW.out W).mono fun e w' ⟨he, hb⟩ => ⟨he, hW.on hb⟩
      cases q with
      | false =>
        go_wp2_with fail
        have hb0 := HB.out
        generalize wr.alloc _ = W1 at hb0 ⊢
        have hb1 := hb0.drew
        have hb := hb1.lit32
        go_region_held3 (fun W => W.cell? ⟨wr.heap.size, 0, none⟩ = some (.int .i64 32) ∧ W.cell? ⟨wr.heap.size, 1, none⟩ = some (.int .i64 8) ∧ W.cell? ⟨wr.heap.size, 2, none⟩ = some (.int .i64 23) ∧ Bs wr 32 W) (first | exact Bs.lit32 ‹_› | exact Bs.lit32 (And.right ‹_›))
          (first
            | (go_at_call 32; with_reducible refine (HWK.out _ ?_).mono ?_; (first | assumption | exact And.right ‹_›); rintro e w' ⟨rfl, hk6⟩)
            | (go_at_call 31; with_reducible refine (HCK.out _ ?_).mono ?_; (first | assumption | exact And.right ‹_›); rintro e w' ⟨rfl, hk6⟩))
        clear hb hb1 hb0
        have HA2 := Lib.hid (hA.out.on (by assumption : Bs wr 32 _).b)
        go_wp2_with fail
        go_roundw
        case rel => exact ⟨2, .inr (.inr ⟨rfl, by simp, by simp⟩), rfl, HA2⟩
        case measure => simp [intOf]
      | true =>
        go_wp2_with fail
        have hb0 := HB.out
        generalize wr.alloc _ = W1 at hb0 ⊢
        have hb1 := hb0.drew
        have hb := hb1.lit32
        go_region_held3 (fun W => W.cell? ⟨wr.heap.size, 0, none⟩ = some (.int .i64 32) ∧ W.cell? ⟨wr.heap.size, 1, none⟩ = some (.int .i64 8) ∧ W.cell? ⟨wr.heap.size, 2, none⟩ = some (.int .i64 23) ∧ Bs wr 32 W) (first | exact Bs.lit32 ‹_› | exact Bs.lit32 (And.right ‹_›))
          (first
            | (go_at_call 32; with_reducible refine (HWK.out _ ?_).mono ?_; (first | assumption | exact And.right ‹_›); rintro e w' ⟨rfl, hk6⟩)
            | (go_at_call 31; with_reducible refine (HCK.out _ ?_).mono ?_; (first | assumption | exact And.right ‹_›); rintro e w' ⟨rfl, hk6⟩))
        clear hb hb1 hb0
        have HA2 := Lib.hid (hA.out.on (by assumption : Bs wr 32 _).b)
        have hl2 := (by assumption : Bs wr 32 _).lit32
        go_wp2_with fail
        go_ret2
        exact ⟨rfl, H1.out.trans (HA2.out.b.mono H1.out.size)⟩
    · have hfd : ∀ W, (Instr.field 58 (.agg #[.int .i64 64, .int .i64 11, .int .i64 52]) 0).run Try.prog W = .ok (.int .i64 64) W := fun W => by kernel_rfl
      go_wp2_with fail
      with_reducible refine (HW.out _).mono ?_
      rintro e w2 ⟨rfl, hb⟩
      have HB2 := Lib.hid (hA.out.on hb)
      clear hb
      go_wp2_with fail
      go_ret2
      exact ⟨rfl, H1.out.trans (HB2.out.b.mono H1.out.size)⟩
end Go.Proofs.Ytkgejncolchobaa.nn
