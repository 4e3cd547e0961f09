/- The contracts of the real fbits: Exact, FromInt, Int. -/
import Derived.Test.YtkgejncolchobaaFbitsReal
import Derived.Test.YtkgejncolchobaaRefInt
namespace Go.Proofs.Ytkgejncolchobaa.nn
open Go.RowKit

theorem xa_amount (x : Nat) (h : ex 64 x ≠ 2047) : xaO x = true ∧ xaS x = sg 64 x ∧ xaM x = aM 64 (ex 64 x) (fr 64 x) ∧ xaE x = aE 64 (ex 64 x) := by
  unfold xaO xaS xaM xaE aM aE
  rw [if_neg h, if_neg h, if_neg h, decide_eq_true h]
  refine ⟨rfl, rfl, ?_, ?_⟩
  · by_cases h0 : ex 64 x = 0
    · rw [if_pos h0, if_pos h0]
    · rw [if_neg h0, if_neg h0]
      rfl
  · by_cases h0 : ex 64 x = 0
    · rw [if_pos h0, if_pos h0]
      rfl
    · rw [if_neg h0, if_neg h0, show bia 64 = 1023 from rfl, show fb 64 = 52 from rfl]
      omega
theorem xa_none (x : Nat) (h : ex 64 x = 2047) : xaO x = false ∧ xaS x = false ∧ xaM x = 0 ∧ xaE x = 0 := by
  unfold xaO xaS xaM xaE
  rw [if_pos h, if_pos h, if_pos h, decide_eq_false (by simp [h])]
  exact ⟨rfl, rfl, rfl, rfl⟩
set_option maxRecDepth 100000 in
set_option maxHeartbeats 1000000 in
theorem fexact_any (x : Nat) (w : World) (hx : x < 18446744073709551616) : Calls Try.prog 19 #[.int .u64 (x : Int)] w (XaAns x w) := by
  unfold XaAns
  obtain ⟨c1, c2⟩ := cl5_inf (k := 64) (X := ex 64 x) (M := fr 64 x)
  have hw : ∀ W, Calls Try.prog 32 #[] W fun e w' => e = .returned (sv 64) ∧ Below W.heap.size W w' := widest_any
  have hc := fun W => class_any 64 x W k64 hx
  have hs := fun W => split_any 64 x W k64 hx
  have h2 := fr_lt (w := 64) (x := x)
  have h1 := ex_lt (w := 64) (x := x)
  have ha := fun W => amount_any 64 (ex 64 x) (fr 64 x) W k64 (by unfold onz; omega) h2
  have e0 : onz 64 = 2047 := by decide
  rw [e0] at c1
  rw [show clk 64 x = cl5 (xb 64) (ex 64 x) (fr 64 x) from rfl] at hc
  obtain ⟨C, hC⟩ : ∃ C, cl5 (xb 64) (ex 64 x) (fr 64 x) = C := ⟨_, rfl⟩
  rw [hC] at c1 c2 hc
  clear hC h1 h2 e0
  by_cases h : ex 64 x = 2047
  · obtain ⟨x1, x2, x3, x4⟩ := xa_none x h
    rw [x1, x2, x3, x4]
    have h34 : C = 3 ∨ C = 4 := by have := c1.2 h; omega
    clear x1 x2 x3 x4 c1 c2 h hs ha
    obtain ⟨K, hK⟩ : ∃ K, K = 64 := ⟨64, rfl⟩
    rw [← hK] at hc hw
    clear hK
    unfold sv at hc hw
    have HC := Lib.hid hc
    have HW := Lib.hid hw
    clear hc hw
    rcases h34 with rfl | rfl
    all_goals
      go_enter Try.func19, Try.ntmps19
      go_wp2_with fail
      with_reducible refine (HW.out _).mono ?_
      rintro e w1 ⟨rfl, hb⟩
      have H1 := Lib.hid hb
      clear hb
      have HB := Lib.hid (Bs.new w1 K 58)
      go_wp2_with fail
      with_reducible refine (HC.out _).mono ?_
      rintro e w2 ⟨rfl, hb⟩
      have H2 := Lib.hid (HB.out.on hb)
      clear hb
      go_wp2_with fail
      exact bodyPost_ret (v := .tuple #[.bool false, .int .u64 0, .int .i64 0, .bool false]) (by simp [results, Try.results19, go_sem]) rfl ⟨rfl, H1.out.trans (H2.out.b.mono H1.out.size)⟩
  · obtain ⟨x1, x2, x3, x4⟩ := xa_amount x h
    rw [x1, x2, x3, x4]
    have q1 : ((C : Int) == 3) = false := by simp; intro h3; exact h (c1.1 (by omega))
    have q2 : ((C : Int) == 4) = false := by simp; intro h3; exact h (c1.1 (by omega))
    clear x1 x2 x3 x4 c1 c2 h
    obtain ⟨m, hm⟩ : ∃ m, aM 64 (ex 64 x) (fr 64 x) = m := ⟨_, rfl⟩
    obtain ⟨e, he⟩ : ∃ e, aE 64 (ex 64 x) = e := ⟨_, rfl⟩
    rw [hm, he] at ha ⊢
    clear hm he
    obtain ⟨S, hS⟩ : ∃ S, sg 64 x = S := ⟨_, rfl⟩
    obtain ⟨X, hX⟩ : ∃ X, ex 64 x = X := ⟨_, rfl⟩
    obtain ⟨M, hM⟩ : ∃ M, fr 64 x = M := ⟨_, rfl⟩
    rw [hS, hX, hM] at hs
    rw [hX, hM] at ha
    rw [hS]
    clear hS hX hM
    obtain ⟨K, hK⟩ : ∃ K, K = 64 := ⟨64, rfl⟩
    rw [← hK] at hc hw hs ha
    clear hK
    unfold sv at hc hw hs ha
    have HC := Lib.hid hc
    have HW := Lib.hid hw
    have HS := Lib.hid hs
    have HA := Lib.hid ha
    clear hc hw hs ha
    go_enter Try.func19, Try.ntmps19
    go_wp2_with fail
    with_reducible refine (HW.out _).mono ?_
    rintro r1 w1 ⟨rfl, hb⟩
    have H1 := Lib.hid hb
    clear hb
    have HB := Lib.hid (Bs.new w1 K 58)
    go_wp2_with fail
    with_reducible refine (HC.out _).mono ?_
    rintro r1 w2 ⟨rfl, hb⟩
    have h2 := HB.out.on hb
    have hc2 := h2.all
    clear hb
    go_wp2_with fail
    with_reducible refine (HS.out _).mono ?_
    rintro r1 w3 ⟨rfl, hb⟩
    have h3 := h2.on hb
    have hc3 := h3.all
    clear hb hc2 h2
    go_wp2_with fail
    with_reducible refine (HA.out _).mono ?_
    rintro r1 w4 ⟨rfl, hb⟩
    have H4 := Lib.hid (h3.on hb)
    clear hb hc3 h3
    go_wp2_with fail
    exact bodyPost_ret (v := .tuple #[.bool S, .int .u64 (m : Int), .int .i64 e, .bool true]) (by simp [results, Try.results19, go_sem]) rfl ⟨rfl, H1.out.trans (H4.out.b.mono H1.out.size)⟩

/-! FromInt -/
set_option maxRecDepth 100000 in
set_option maxHeartbeats 1000000 in
theorem fromInt_walk (neg : Bool) (n v r : Nat) (O : Bool) (w : World) (hv : (v : Int) = (n : Int) + (if neg then 1 else 0)) (hv2 : v < 18446744073709551616)
    (HC : Hid (∀ W, Calls Try.prog 37 #[sv 64, .bool neg, .int .u64 (v : Int), .int .i64 0] W fun y w' => y = .returned (.tuple #[.int .u64 (r : Int), .bool O]) ∧ Below W.heap.size W w')) :
    Calls Try.prog 23 #[.bool neg, .int .u64 (n : Int)] w fun e W' => e = .returned (.tuple #[.int .u64 (r : Int), .bool O]) ∧ Below w.heap.size w W' := by
  have HW := Lib.hid (fun W => widest_any W)
  rw [show sv 64 = .agg #[.int .i64 64, .int .i64 11, .int .i64 52] from rfl] at HW HC
  cases neg with
  | false =>
    rw [if_neg (by decide), Int.add_zero] at hv
    rw [hv] at HC
    clear hv
    go_enter Try.func23, Try.ntmps23
    go_wp2_with fail
    with_reducible refine (HW.out _).mono ?_
    rintro r1 w1 ⟨rfl, hb⟩
    have H1 := Lib.hid hb
    clear hb
    go_wp2_with fail
    with_reducible refine (HC.out _).mono ?_
    rintro r1 w2 ⟨rfl, hb⟩
    have H2 := Lib.hid hb
    clear hb
    go_wp2_with fail
    go_ret2
    exact ⟨rfl, H1.out.trans (H2.out.mono H1.out.size)⟩
  | true =>
    rw [if_pos rfl] at hv
    rw [hv] at HC
    have q1 : ((n : Int) == 18446744073709551615) = false := by simp; omega
    have hn : (n : Int) < 18446744073709551615 := by omega
    clear hv
    go_enter Try.func23, Try.ntmps23
    go_wp2_with fail
    with_reducible refine (HW.out _).mono ?_
    rintro r1 w1 ⟨rfl, hb⟩
    have H1 := Lib.hid hb
    clear hb
    go_wp2_with fail
    with_reducible refine (HC.out _).mono ?_
    rintro r1 w2 ⟨rfl, hb⟩
    have H2 := Lib.hid hb
    clear hb
    go_wp2_with fail
    go_ret2
    exact ⟨rfl, H1.out.trans (H2.out.mono H1.out.size)⟩
theorem jv_least : jv true 1087 0 = 14118784831806504960 := by decide
set_option maxRecDepth 100000 in
theorem fromInt_top (n : Nat) (w : World) (h : n = 18446744073709551615) : Calls Try.prog 23 #[.bool true, .int .u64 (n : Int)] w fun e W' => e = .returned (.tuple #[.int .u64 14118784831806504960, .bool true]) ∧ w = W' := by
  have q1 : ((n : Int) == 18446744073709551615) = true := by simp; omega
  clear h
  go_enter Try.func23, Try.ntmps23
  go_wp2_with fail
  go_ret2
  exact ⟨rfl, rfl⟩
theorem ffromInt_any (neg : Bool) (n : Nat) (w : World) (hn : n < 18446744073709551616) :
    Calls Try.prog 23 #[.bool neg, .int .u64 (n : Int)] w fun e W' => e = .returned (.tuple #[.int .u64 (fiV neg (fiN neg n) : Int), .bool (fiO (fiN neg n))]) ∧ Below w.heap.size w W' := by
  by_cases ht : neg = true ∧ n = 18446744073709551615
  · obtain ⟨rfl, rfl⟩ := ht
    have e1 : fiN true 18446744073709551615 = 2 ^ 64 := by rw [p64]; rfl
    rw [e1, fi_big.1, fi_big.2, jv_least]
    refine (fromInt_top _ w rfl).mono ?_
    rintro e W' ⟨rfl, rfl⟩
    exact ⟨rfl, Below.refl _ _⟩
  · have hv : fiN neg n < 18446744073709551616 := by
      unfold fiN
      cases neg
      · exact hn
      · rw [Bool.toNat_true]
        have : n ≠ 18446744073709551615 := fun h => ht ⟨rfl, h⟩
        omega
    have hv1 : ((fiN neg n : Nat) : Int) = (n : Int) + (if neg then 1 else 0) := by unfold fiN; cases neg <;> simp
    refine fromInt_walk neg n (fiN neg n) _ _ w hv1 hv (Lib.hid fun W => ?_)
    have h := compose_any 64 neg (fiN neg n) 0 W k64 hv (by decide) (by decide)
    by_cases h0 : fiN neg n = 0
    · have hneg : neg = false := by
        cases neg
        · rfl
        · unfold fiN at h0; rw [Bool.toNat_true] at h0; omega
      subst hneg
      rw [h0] at h ⊢
      rw [(compose_none (neg := false)).1, (compose_none (neg := false)).2, kv_jv] at h
      rw [fi_zero.1, fi_zero.2]
      exact h
    · have hq := fromInt_num neg (show 0 < fiN neg n by omega) hv
      rw [hq.1, hq.2] at h
      exact h
end Go.Proofs.Ytkgejncolchobaa.nn
