/- The walk of the document's Int. -/
import Derived.Test.YtkgejncolchobaaRefExact
import Derived.Lib.MinMax
namespace Go.Proofs.Ytkgejncolchobaa.nn
open Go.RowKit

/-- what Int answers of a sign, a number, an exponent -/
def iR (S O : Bool) (M : Nat) (E : Int) : Bool × Nat × Bool :=
  if O = false ∨ (M = 0 ∧ S = true) then (false, 0, false) else if M = 0 then (false, 0, true)
  else if S = true ∧ E = 12 ∧ M = hid52 then (true, 18446744073709551615, true) else if 11 < E then (false, 0, false)
  else if 0 ≤ E then (S, M * 2 ^ E.toNat - S.toNat, true) else if M % 2 ^ (min (-E).toNat 64) = 0 then (S, M / 2 ^ (min (-E).toNat 64) - S.toNat, true) else (false, 0, false)
def inR (x : Nat) : Bool × Nat × Bool := iR (xaS x) (xaO x) (xaM x) (xaE x)
def InAns (r : Bool × Nat × Bool) (W : World) (e : Ending) (W' : World) : Prop := e = .returned (.tuple #[.bool r.1, .int .u64 (r.2.1 : Int), .bool r.2.2]) ∧ Below W.heap.size W W'
theorem InAns.mk {r : Bool × Nat × Bool} {a c : Bool} {b : Int} {W W' : World} (h1 : r.1 = a) (h2 : (r.2.1 : Int) = b) (h3 : r.2.2 = c) (hb : Below W.heap.size W W') : InAns r W (.returned (.tuple #[.bool a, .int .u64 b, .bool c])) W' := by
  unfold InAns
  rw [h1, h2, h3]
  exact ⟨rfl, hb⟩
theorem xaM_lt (x : Nat) : xaM x < 9007199254740992 := by
  have h2 := fr_lt (w := 64) (x := x)
  rw [show 2 ^ fb 64 = 4503599627370496 from rfl] at h2
  unfold xaM hid52
  split
  · omega
  · split <;> omega
theorem xaE_le (x : Nat) : -1074 ≤ xaE x ∧ xaE x ≤ 972 := by
  have h1 := ex_lt (w := 64) (x := x)
  rw [show 2 ^ xb 64 = 2048 from rfl] at h1
  unfold xaE
  split
  · omega
  · split <;> omega
set_option maxRecDepth 100000 in
set_option maxHeartbeats 4000000 in
theorem int_walk (x : Nat) (w : World) (S O : Bool) (M : Nat) (E : Int) (hM : M < 9007199254740992) (hE : -1074 ≤ E) (hE2 : E ≤ 972)
    (HX : Hid (Calls Try.prog 20 #[.int .u64 (x : Int)] w fun e W' => e = .returned (.tuple #[.bool S, .int .u64 (M : Int), .int .i64 E, .bool O]) ∧ Below w.heap.size w W')) :
    Calls Try.prog 22 #[.int .u64 (x : Int)] w (InAns (iR S O M E) w) := by
  obtain ⟨R, hR⟩ : ∃ R, iR S O M E = R := ⟨_, rfl⟩
  rw [hR]
  unfold iR hid52 at hR
  cases O
  · rw [if_pos (.inl rfl)] at hR
    have HR := Lib.hid hR
    clear hR
    go_enter Try.func22, Try.ntmps22
    go_wp2_with fail
    refine HX.out.mono ?_
    rintro e w1 ⟨rfl, hb⟩
    have HB := Lib.hid hb
    clear hb
    go_wp2_with fail
    exact bodyPost_ret (v := .tuple #[.bool false, .int .u64 0, .bool false]) (by simp [results, Try.results22, go_sem]) rfl (InAns.mk (by rw [← HR.out]) (by rw [← HR.out]; rfl) (by rw [← HR.out]) HB.out)
  · by_cases m0 : M = 0
    · subst m0
      cases S
      · rw [if_neg (by simp), if_pos rfl] at hR
        have HR := Lib.hid hR
        clear hR
        go_enter Try.func22, Try.ntmps22
        go_wp2_with fail
        refine HX.out.mono ?_
        rintro e w1 ⟨rfl, hb⟩
        have HB := Lib.hid hb
        clear hb
        go_wp2_with fail
        exact bodyPost_ret (v := .tuple #[.bool false, .int .u64 0, .bool true]) (by simp [results, Try.results22, go_sem]) rfl (InAns.mk (by rw [← HR.out]) (by rw [← HR.out]; rfl) (by rw [← HR.out]) HB.out)
      · rw [if_pos (.inr ⟨rfl, rfl⟩)] at hR
        have HR := Lib.hid hR
        clear hR
        go_enter Try.func22, Try.ntmps22
        go_wp2_with fail
        refine HX.out.mono ?_
        rintro e w1 ⟨rfl, hb⟩
        have HB := Lib.hid hb
        clear hb
        go_wp2_with fail
        exact bodyPost_ret (v := .tuple #[.bool false, .int .u64 0, .bool false]) (by simp [results, Try.results22, go_sem]) rfl (InAns.mk (by rw [← HR.out]) (by rw [← HR.out]; rfl) (by rw [← HR.out]) HB.out)
    · have q0 := ne_int (c := (M : Int)) (k := 0) (by omega)
      rw [if_neg (by simp; omega), if_neg m0] at hR
      by_cases hs : S = true ∧ E = 12 ∧ M = 4503599627370496
      · rw [if_pos hs] at hR
        obtain ⟨rfl, rfl, rfl⟩ := hs
        have HR := Lib.hid hR
        clear hR q0 m0
        go_enter Try.func22, Try.ntmps22
        go_wp2_with fail
        refine HX.out.mono ?_
        rintro e w1 ⟨rfl, hb⟩
        have HB := Lib.hid hb
        clear hb
        go_wp2_with fail
        exact bodyPost_ret (v := .tuple #[.bool true, .int .u64 18446744073709551615, .bool true]) (by simp [results, Try.results22, go_sem]) rfl (InAns.mk (by rw [← HR.out]) (by rw [← HR.out]; rfl) (by rw [← HR.out]) HB.out)
      · rw [if_neg hs] at hR
        have HS := Lib.hid hs
        by_cases h11 : 11 < E
        · rw [if_pos h11] at hR
          have HR := Lib.hid hR
          clear hR m0 hs
          cases S
          · go_enter Try.func22, Try.ntmps22
            go_wp2_with fail
            refine HX.out.mono ?_
            rintro e w1 ⟨rfl, hb⟩
            have HB := Lib.hid hb
            clear hb
            go_wp2_with fail
            exact bodyPost_ret (v := .tuple #[.bool false, .int .u64 0, .bool false]) (by simp [results, Try.results22, go_sem]) rfl (InAns.mk (by rw [← HR.out]) (by rw [← HR.out]; rfl) (by rw [← HR.out]) HB.out)
          · by_cases e12 : E = 12
            · subst e12
              have q1 := ne_int (c := (M : Int)) (k := 4503599627370496) (by have := HS.out; intro h; exact this ⟨rfl, rfl, by omega⟩)
              go_enter Try.func22, Try.ntmps22
              go_wp2_with fail
              refine HX.out.mono ?_
              rintro e w1 ⟨rfl, hb⟩
              have HB := Lib.hid hb
              clear hb
              go_wp2_with fail
              exact bodyPost_ret (v := .tuple #[.bool false, .int .u64 0, .bool false]) (by simp [results, Try.results22, go_sem]) rfl (InAns.mk (by rw [← HR.out]) (by rw [← HR.out]; rfl) (by rw [← HR.out]) HB.out)
            · have q1 := ne_int (c := E) (k := 12) e12
              go_enter Try.func22, Try.ntmps22
              go_wp2_with fail
              refine HX.out.mono ?_
              rintro e w1 ⟨rfl, hb⟩
              have HB := Lib.hid hb
              clear hb
              go_wp2_with fail
              exact bodyPost_ret (v := .tuple #[.bool false, .int .u64 0, .bool false]) (by simp [results, Try.results22, go_sem]) rfl (InAns.mk (by rw [← HR.out]) (by rw [← HR.out]; rfl) (by rw [← HR.out]) HB.out)
        · rw [if_neg h11] at hR
          clear hs
          have q1 := ne_int (c := E) (k := 12) (by omega)
          by_cases he : 0 ≤ E
          · rw [if_pos he] at hR
            obtain ⟨k, rfl⟩ : ∃ k : Nat, E = (k : Int) := ⟨E.toNat, by omega⟩
            rw [Int.toNat_natCast] at hR
            have hk : k ≤ 11 := by omega
            have hV : M * 2 ^ k < 18446744073709551616 := by
              have h1 : M * 2 ^ k ≤ M * 2 ^ 11 := Nat.mul_le_mul_left M (Nat.pow_le_pow_right (by decide) hk)
              omega
            have hV0 : 0 < M * 2 ^ k := Nat.mul_pos (by omega) (Nat.two_pow_pos k)
            have eV : (M : Int) * 2 ^ k = ((M * 2 ^ k : Nat) : Int) := by simp
            obtain ⟨V, hVV⟩ : ∃ V, M * 2 ^ k = V := ⟨_, rfl⟩
            rw [hVV] at hV hV0 eV hR
            have q2 := ne_int (c := (V : Int)) (k := 0) (by omega)
            clear hVV m0
            cases S
            · have HR := Lib.hid hR
              clear hR
              go_enter Try.func22, Try.ntmps22
              go_wp2_with fail
              refine HX.out.mono ?_
              rintro e w1 ⟨rfl, hb⟩
              have HB := Lib.hid hb
              clear hb
              go_wp2_with fail
              exact bodyPost_ret (v := .tuple #[.bool false, .int .u64 (V : Int), .bool true]) (by simp [results, Try.results22, go_sem]) rfl (InAns.mk (by rw [← HR.out]) (by rw [← HR.out]; simp) (by rw [← HR.out]) HB.out)
            · have HR := Lib.hid hR
              clear hR
              go_enter Try.func22, Try.ntmps22
              go_wp2_with fail
              refine HX.out.mono ?_
              rintro e w1 ⟨rfl, hb⟩
              have HB := Lib.hid hb
              clear hb
              go_wp2_with fail
              exact bodyPost_ret (v := .tuple #[.bool true, .int .u64 ((V : Int) - 1), .bool true]) (by simp [results, Try.results22, go_sem]) rfl (InAns.mk (by rw [← HR.out]) (by rw [← HR.out]; simp; omega) (by rw [← HR.out]) HB.out)
          · rw [if_neg he] at hR
            obtain ⟨d, rfl⟩ : ∃ d : Nat, E = -(d : Int) := ⟨(-E).toNat, by omega⟩
            rw [show (-(-(d : Int))).toNat = d by omega] at hR
            obtain ⟨u, hu⟩ : ∃ u, min d 64 = u := ⟨_, rfl⟩
            rw [hu] at hR
            have hu64 : u ≤ 64 := by omega
            have emin : min (d : Int) 64 = (u : Int) := by omega
            have HSH := Lib.hid (fun w => rshift_any M u w (by omega) (by omega))
            have hd1 : 1 ≤ d := by omega
            have hd2 : d ≤ 1074 := by omega
            clear hu hE hE2 h11
            by_cases hz : M % 2 ^ u = 0
            · rw [if_pos hz] at hR
              have s1 : shOk M u = true := decide_eq_true hz
              have s2 : shV M u = M / 2 ^ u := if_pos hz
              rw [s1, s2] at HSH
              have hV0 : 0 < M / 2 ^ u := by
                rcases Nat.eq_zero_or_pos (M / 2 ^ u) with h | h
                · have := Nat.div_add_mod M (2 ^ u)
                  rw [h, hz, Nat.mul_zero] at this
                  omega
                · exact h
              have hV : M / 2 ^ u < 18446744073709551616 := Nat.lt_of_le_of_lt (Nat.div_le_self _ _) (by omega)
              obtain ⟨V, hVV⟩ : ∃ V, M / 2 ^ u = V := ⟨_, rfl⟩
              rw [hVV] at hV hV0 hR HSH
              have q2 := ne_int (c := (V : Int)) (k := 0) (by omega)
              clear hVV m0 hz s1 s2
              cases S
              · have HR := Lib.hid hR
                clear hR
                go_enter Try.func22, Try.ntmps22
                go_wp2_with fail
                refine HX.out.mono ?_
                rintro e w1 ⟨rfl, hb⟩
                have HB := Lib.hid hb
                clear hb
                go_wp2_with fail
                refine (HSH.out _).mono ?_
                rintro e w2 ⟨rfl, rfl⟩
                go_wp2_with fail
                exact bodyPost_ret (v := .tuple #[.bool false, .int .u64 (V : Int), .bool true]) (by simp [results, Try.results22, go_sem]) rfl (InAns.mk (by rw [← HR.out]) (by rw [← HR.out]; simp) (by rw [← HR.out]) HB.out)
              · have HR := Lib.hid hR
                clear hR
                go_enter Try.func22, Try.ntmps22
                go_wp2_with fail
                refine HX.out.mono ?_
                rintro e w1 ⟨rfl, hb⟩
                have HB := Lib.hid hb
                clear hb
                go_wp2_with fail
                refine (HSH.out _).mono ?_
                rintro e w2 ⟨rfl, rfl⟩
                go_wp2_with fail
                exact bodyPost_ret (v := .tuple #[.bool true, .int .u64 ((V : Int) - 1), .bool true]) (by simp [results, Try.results22, go_sem]) rfl (InAns.mk (by rw [← HR.out]) (by rw [← HR.out]; simp; omega) (by rw [← HR.out]) HB.out)
            · rw [if_neg hz] at hR
              have s1 : shOk M u = false := decide_eq_false hz
              have s2 : shV M u = 0 := if_neg hz
              rw [s1, s2] at HSH
              have HR := Lib.hid hR
              clear hR m0 hz s1 s2
              cases S
              · go_enter Try.func22, Try.ntmps22
                go_wp2_with fail
                refine HX.out.mono ?_
                rintro e w1 ⟨rfl, hb⟩
                have HB := Lib.hid hb
                clear hb
                go_wp2_with fail
                refine (HSH.out _).mono ?_
                rintro e w2 ⟨rfl, rfl⟩
                go_wp2_with fail
                exact bodyPost_ret (v := .tuple #[.bool false, .int .u64 0, .bool false]) (by simp [results, Try.results22, go_sem]) rfl (InAns.mk (by rw [← HR.out]) (by rw [← HR.out]; rfl) (by rw [← HR.out]) HB.out)
              · go_enter Try.func22, Try.ntmps22
                go_wp2_with fail
                refine HX.out.mono ?_
                rintro e w1 ⟨rfl, hb⟩
                have HB := Lib.hid hb
                clear hb
                go_wp2_with fail
                refine (HSH.out _).mono ?_
                rintro e w2 ⟨rfl, rfl⟩
                go_wp2_with fail
                exact bodyPost_ret (v := .tuple #[.bool false, .int .u64 0, .bool false]) (by simp [results, Try.results22, go_sem]) rfl (InAns.mk (by rw [← HR.out]) (by rw [← HR.out]; rfl) (by rw [← HR.out]) HB.out)
theorem rint_any (x : Nat) (w : World) (hx : x < 18446744073709551616) : Calls Try.prog 22 #[.int .u64 (x : Int)] w (InAns (inR x) w) :=
  int_walk x w _ _ _ _ (xaM_lt x) (xaE_le x).1 (xaE_le x).2 (Lib.hid (rexact_any x w hx))
end Go.Proofs.Ytkgejncolchobaa.nn
