/- Joined texts, what is wanted of them: FbNum2, ShapeNum, FbitsReal2, FdD, FdNear, FdRound, FdParse. -/
import Derived.Test.YtljbnnpmnoejeaaGreatDoorJc
import Derived.Test.YtljbnnpmnoejeaaGreatDoorJa
import Derived.Test.YtljbnnpmnoejeaaGreatDoorJb
namespace Go.Proofs.YtljbnnpmnoejeaaGreatDoor.nn

/-! order -/
section
variable {E F B T X M X' M' : Nat}
set_option maxRecDepth 100000 in
theorem Wd.val_lt (h : Wd E F B T) (hX : X < T - 1) (hM : M < 2 ^ F) : wX B T F X M * 4503599627370496 + wM T F X M < (X + 1024 - B) * 4503599627370496 := by
  have hB := h.b
  have hbt := h.bt
  have hF := h.f
  by_cases c2 : 0 < X
  · have hw := (h.wide (X := X) (by omega) hM).2
    have e1 : wX B T F X M = X + 1023 - B := by unfold wX; rw [if_neg (by omega), if_pos c2]
    rw [e1, show X + 1024 - B = X + 1023 - B + 1 by omega, Nat.succ_mul]
    exact Nat.add_lt_add_left hw _
  · obtain rfl : X = 0 := by omega
    by_cases c3 : 0 < M
    · obtain ⟨s1, s2, _⟩ := h.small hM c3
      have hw := (h.wide (X := 0) (by omega) hM).2
      have n3 := nrm_pos s1 s2
      have n4 := h.nrm_le hM c3
      have e1 : wX B T F 0 M = 1024 - B - nrm (M * 2 ^ (52 - F)) := by unfold wX; rw [if_neg (by omega), if_neg c2, if_pos c3]
      rw [e1]
      omega
    · have e1 : wX B T F 0 M = 0 := by unfold wX; rw [if_neg (by omega), if_neg c2, if_neg c3]
      have e2 : wM T F 0 M = 0 := by unfold wM; rw [if_neg (by omega), if_neg c3]
      rw [e1, e2, Nat.zero_mul, Nat.zero_add]
      exact Nat.mul_pos (by omega) (by decide)
set_option maxRecDepth 100000 in
theorem Wd.mono (h : Wd E F B T) (hX' : X' < T) (hM : M < 2 ^ F) (hM' : M' < 2 ^ F) (hi : X' = T - 1 → M' = 0) (hl : X < X' ∨ X = X' ∧ M < M') :
    wX B T F X M * 4503599627370496 + wM T F X M < wX B T F X' M' * 4503599627370496 + wM T F X' M' := by
  have hB := h.b
  have hbt := h.bt
  have hF := h.f
  have hp := Nat.two_pow_pos (52 - F)
  rcases hl with hl | ⟨rfl, hl⟩
  · have h1 := h.val_lt (X := X) (by omega) hM
    have h2 : X' + 1023 - B ≤ wX B T F X' M' := by
      unfold wX
      split
      · omega
      · rw [if_pos (by omega)]; exact Nat.le_refl _
    have h3 : (X + 1024 - B) * 4503599627370496 ≤ wX B T F X' M' * 4503599627370496 := Nat.mul_le_mul_right _ (by omega)
    exact Nat.lt_of_lt_of_le h1 (Nat.le_trans h3 (Nat.le_add_right _ _))
  · have c1 : X ≠ T - 1 := fun h => by have := hi h; omega
    have hN : M * 2 ^ (52 - F) < M' * 2 ^ (52 - F) := Nat.mul_lt_mul_of_pos_right hl hp
    by_cases c2 : 0 < X
    · have e1 : ∀ m, wX B T F X m = X + 1023 - B := fun m => by unfold wX; rw [if_neg c1, if_pos c2]
      have e2 : ∀ m, wM T F X m = m * 2 ^ (52 - F) := fun m => if_pos (.inr c2)
      rw [e1, e1, e2, e2]
      omega
    · obtain rfl : X = 0 := by omega
      have c3' : 0 < M' := by omega
      obtain ⟨s1', s2', _⟩ := h.small hM' c3'
      obtain ⟨m1', m2'⟩ := nrm_hi s1' s2'
      have n4' := h.nrm_le hM' c3'
      have e1' : wX B T F 0 M' = 1024 - B - nrm (M' * 2 ^ (52 - F)) := by unfold wX; rw [if_neg c1, if_neg c2, if_pos c3']
      have e2' : wM T F 0 M' = M' * 2 ^ (52 - F) * 2 ^ nrm (M' * 2 ^ (52 - F)) - 4503599627370496 := by unfold wM; rw [if_neg (by omega), if_pos c3']
      rw [e1', e2']
      by_cases c3 : 0 < M
      · obtain ⟨s1, s2, _⟩ := h.small hM c3
        obtain ⟨m1, m2⟩ := nrm_hi s1 s2
        have n4 := h.nrm_le hM c3
        have e1 : wX B T F 0 M = 1024 - B - nrm (M * 2 ^ (52 - F)) := by unfold wX; rw [if_neg c1, if_neg c2, if_pos c3]
        have e2 : wM T F 0 M = M * 2 ^ (52 - F) * 2 ^ nrm (M * 2 ^ (52 - F)) - 4503599627370496 := by unfold wM; rw [if_neg (by omega), if_pos c3]
        rw [e1, e2]
        obtain ⟨N, hNN⟩ : ∃ N, M * 2 ^ (52 - F) = N := ⟨_, rfl⟩
        obtain ⟨N', hNN'⟩ : ∃ N', M' * 2 ^ (52 - F) = N' := ⟨_, rfl⟩
        rw [hNN] at m1 m2 n4 hN s1 s2 ⊢
        rw [hNN'] at m1' m2' n4' hN s1' s2' ⊢
        have ht : nrm N' ≤ nrm N := by
          rcases Nat.lt_or_ge (nrm N) (nrm N') with h1 | h1
          · have h2 := (nrm_lt s1' s2').1 h1
            have h3 : N * 2 ^ nrm N < N' * 2 ^ nrm N := Nat.mul_lt_mul_of_pos_right hN (Nat.two_pow_pos _)
            omega
          · exact h1
        rcases Nat.lt_or_ge (nrm N') (nrm N) with h1 | h1
        · have h2 : (1024 - B - nrm N + 1) * 4503599627370496 ≤ (1024 - B - nrm N') * 4503599627370496 := Nat.mul_le_mul_right _ (by omega)
          rw [Nat.succ_mul] at h2
          obtain ⟨a, ha⟩ : ∃ a, (1024 - B - nrm N) * 4503599627370496 = a := ⟨_, rfl⟩
          obtain ⟨a', ha'⟩ : ∃ a', (1024 - B - nrm N') * 4503599627370496 = a' := ⟨_, rfl⟩
          rw [ha, ha'] at h2 ⊢
          clear ha ha'
          omega
        · have h2 : nrm N = nrm N' := by omega
          have h3 : N * 2 ^ nrm N < N' * 2 ^ nrm N := Nat.mul_lt_mul_of_pos_right hN (Nat.two_pow_pos _)
          rw [h2] at h3 m1 m2 ⊢
          omega
      · have e1 : wX B T F 0 M = 0 := by unfold wX; rw [if_neg c1, if_neg c2, if_neg c3]
        have e2 : wM T F 0 M = 0 := by unfold wM; rw [if_neg (by omega), if_neg c3]
        rw [e1, e2, Nat.zero_mul, Nat.zero_add]
        exact Nat.lt_of_lt_of_le (Nat.mul_pos (by omega) (by decide)) (Nat.le_add_right _ _)
end
/-! whole numbers -/
end Go.Proofs.YtljbnnpmnoejeaaGreatDoor.nn
namespace Go.Proofs.YtljbnnpmnoejeaaGreatDoor.nn

/-- m times 2^e is m' times 2^e' -/
def Sm (m : Nat) (e : Int) (m' : Nat) (e' : Int) : Prop := ∃ a b : Nat, e - (a : Int) = e' - (b : Int) ∧ m * 2 ^ a = m' * 2 ^ b
section
variable {m m' m'' : Nat} {e e' e'' : Int}
theorem Sm.refl (m : Nat) (e : Int) : Sm m e m e := ⟨0, 0, rfl, rfl⟩
theorem Sm.symm (h : Sm m e m' e') : Sm m' e' m e := by
  obtain ⟨a, b, h1, h2⟩ := h
  exact ⟨b, a, h1.symm, h2.symm⟩
theorem Sm.trans (h : Sm m e m' e') (h' : Sm m' e' m'' e'') : Sm m e m'' e'' := by
  obtain ⟨a, b, h1, h2⟩ := h
  obtain ⟨c, d, h3, h4⟩ := h'
  refine ⟨a + c, d + b, by omega, ?_⟩
  rw [Nat.pow_add, Nat.pow_add, ← Nat.mul_assoc, h2, ← Nat.mul_assoc, ← h4, Nat.mul_right_comm]
end
section
variable {k m X M : Nat} {e : Int}
end
theorem k64 : kOk 64 := .inr (.inr rfl)
end Go.Proofs.YtljbnnpmnoejeaaGreatDoor.nn
namespace Go.Proofs.YtljbnnpmnoejeaaGreatDoor.nn
open Go.RowKit

theorem xa_amount (x : Nat) (h : ex 64 x ≠ 2047) : xaO x = true ∧ xaS x = sg 64 x ∧ xaM x = aM 64 (ex 64 x) (fr 64 x) ∧ xaE x = aE 64 (ex 64 x) := by
  unfold xaO xaS xaM xaE aM aE
  rw [if_neg h, if_neg h, if_neg h, decide_eq_true h]
  refine ⟨rfl, rfl, ?_, ?_⟩
  · by_cases h0 : ex 64 x = 0
    · rw [if_pos h0, if_pos h0]
    · rw [if_neg h0, if_neg h0]
      rfl
  · by_cases h0 : ex 64 x = 0
    · rw [if_pos h0, if_pos h0]
      rfl
    · rw [if_neg h0, if_neg h0, show bia 64 = 1023 from rfl, show fb 64 = 52 from rfl]
      omega
theorem xa_none (x : Nat) (h : ex 64 x = 2047) : xaO x = false ∧ xaS x = false ∧ xaM x = 0 ∧ xaE x = 0 := by
  unfold xaO xaS xaM xaE
  rw [if_pos h, if_pos h, if_pos h, decide_eq_false (by simp [h])]
  exact ⟨rfl, rfl, rfl, rfl⟩
set_option maxRecDepth 100000 in
set_option maxHeartbeats 1000000 in
theorem fexact_any (x : Nat) (w : World) (hx : x < 18446744073709551616) : Calls Tryz.prog 84 #[.int .u64 (x : Int)] w (XaAns x w) := by
  unfold XaAns
  obtain ⟨c1, c2⟩ := cl5_inf (k := 64) (X := ex 64 x) (M := fr 64 x)
  have hw : ∀ W, Calls Tryz.prog 127 #[] W fun e w' => e = .returned (sv 64) ∧ Below W.heap.size W w' := widest_any
  have hc := fun W => class_any 64 x W k64 hx
  have hs := fun W => split_any 64 x W k64 hx
  have h2 := fr_lt (w := 64) (x := x)
  have h1 := ex_lt (w := 64) (x := x)
  have ha := fun W => amount_any 64 (ex 64 x) (fr 64 x) W k64 (by unfold onz; omega) h2
  have e0 : onz 64 = 2047 := by decide
  rw [e0] at c1
  rw [show clk 64 x = cl5 (xb 64) (ex 64 x) (fr 64 x) from rfl] at hc
  obtain ⟨C, hC⟩ : ∃ C, cl5 (xb 64) (ex 64 x) (fr 64 x) = C := ⟨_, rfl⟩
  rw [hC] at c1 c2 hc
  clear hC h1 h2 e0
  by_cases h : ex 64 x = 2047
  · obtain ⟨x1, x2, x3, x4⟩ := xa_none x h
    rw [x1, x2, x3, x4]
    have h34 : C = 3 ∨ C = 4 := by have := c1.2 h; omega
    clear x1 x2 x3 x4 c1 c2 h hs ha
    obtain ⟨K, hK⟩ : ∃ K, K = 64 := ⟨64, rfl⟩
    rw [← hK] at hc hw
    clear hK
    unfold sv at hc hw
    have HC := Lib.hid hc
    have HW := Lib.hid hw
    clear hc hw
    rcases h34 with rfl | rfl
    all_goals
      go_enter Tryz.func84, Tryz.ntmps84
      go_wp2_with fail
      with_reducible refine (HW.out _).mono ?_
      rintro e w1 ⟨rfl, hb⟩
      have H1 := Lib.hid hb
      clear hb
      have HB := Lib.hid (Bs.new w1 K 164)
      go_wp2_with fail
      with_reducible refine (HC.out _).mono ?_
      rintro e w2 ⟨rfl, hb⟩
      have H2 := Lib.hid (HB.out.on hb)
      clear hb
      go_wp2_with fail
      exact bodyPost_ret (v := .tuple #[.bool false, .int .u64 0, .int .i64 0, .bool false]) (by simp [results, Tryz.results84, go_sem]) rfl ⟨rfl, H1.out.trans (H2.out.b.mono H1.out.size)⟩
  · obtain ⟨x1, x2, x3, x4⟩ := xa_amount x h
    rw [x1, x2, x3, x4]
    have q1 : ((C : Int) == 3) = false := by simp; intro h3; exact h (c1.1 (by omega))
    have q2 : ((C : Int) == 4) = false := by simp; intro h3; exact h (c1.1 (by omega))
    clear x1 x2 x3 x4 c1 c2 h
    obtain ⟨m, hm⟩ : ∃ m, aM 64 (ex 64 x) (fr 64 x) = m := ⟨_, rfl⟩
    obtain ⟨e, he⟩ : ∃ e, aE 64 (ex 64 x) = e := ⟨_, rfl⟩
    rw [hm, he] at ha ⊢
    clear hm he
    obtain ⟨S, hS⟩ : ∃ S, sg 64 x = S := ⟨_, rfl⟩
    obtain ⟨X, hX⟩ : ∃ X, ex 64 x = X := ⟨_, rfl⟩
    obtain ⟨M, hM⟩ : ∃ M, fr 64 x = M := ⟨_, rfl⟩
    rw [hS, hX, hM] at hs
    rw [hX, hM] at ha
    rw [hS]
    clear hS hX hM
    obtain ⟨K, hK⟩ : ∃ K, K = 64 := ⟨64, rfl⟩
    rw [← hK] at hc hw hs ha
    clear hK
    unfold sv at hc hw hs ha
    have HC := Lib.hid hc
    have HW := Lib.hid hw
    have HS := Lib.hid hs
    have HA := Lib.hid ha
    clear hc hw hs ha
    go_enter Tryz.func84, Tryz.ntmps84
    go_wp2_with fail
    with_reducible refine (HW.out _).mono ?_
    rintro r1 w1 ⟨rfl, hb⟩
    have H1 := Lib.hid hb
    clear hb
    have HB := Lib.hid (Bs.new w1 K 164)
    go_wp2_with fail
    with_reducible refine (HC.out _).mono ?_
    rintro r1 w2 ⟨rfl, hb⟩
    have h2 := HB.out.on hb
    have hc2 := h2.all
    clear hb
    go_wp2_with fail
    with_reducible refine (HS.out _).mono ?_
    rintro r1 w3 ⟨rfl, hb⟩
    have h3 := h2.on hb
    have hc3 := h3.all
    clear hb hc2 h2
    go_wp2_with fail
    with_reducible refine (HA.out _).mono ?_
    rintro r1 w4 ⟨rfl, hb⟩
    have H4 := Lib.hid (h3.on hb)
    clear hb hc3 h3
    go_wp2_with fail
    exact bodyPost_ret (v := .tuple #[.bool S, .int .u64 (m : Int), .int .i64 e, .bool true]) (by simp [results, Tryz.results84, go_sem]) rfl ⟨rfl, H1.out.trans (H4.out.b.mono H1.out.size)⟩

/-! FromInt -/
end Go.Proofs.YtljbnnpmnoejeaaGreatDoor.nn
namespace Go.Proofs.YtljbnnpmnoejeaaGreatDoor.nn
open Go.RowKit

/-- the bits of what is infinite -/
def inf : Nat := 2047 * h52
theorem inf_eq : inf = 9218868437227405312 := by decide
theorem cl_inf {x : Nat} (hx : x ≤ inf) : (x = inf → clC 64 x = 3) ∧ (x < inf → (clC 64 x : Int) ≠ 3) ∧ clC 64 x < 5 := by
  have e1 : clC 64 x = cls 64 (ex 64 x) (fr 64 x) := by unfold clC; rw [if_pos (fits64 x)]; rfl
  rw [inf_eq] at *
  have e2 : ex 64 x = x / 4503599627370496 % 2048 := rfl
  have e3 : fr 64 x = x % 4503599627370496 := rfl
  rw [e1]
  unfold cls
  rw [show (2 : Nat) ^ xb 64 - 1 = 2047 from rfl]
  refine ⟨fun h => ?_, fun h => ?_, ?_⟩
  · rw [if_pos (by omega), if_pos (by omega)]
  · rw [if_neg (by omega)]
    split
    · decide
    · split <;> decide
  · split
    · split <;> decide
    · split
      · decide
      · split <;> decide

theorem unit_of {X Y : Nat} {h u : Int} (hY : 0 < Y) (hh : HiIs X Y h) (hu : max (h - 52) (-1074) = u) : Unit X Y u := by
  rcases hh with ⟨h0, h1⟩ | ⟨_, h1, h2⟩
  · have hu' : u = -1074 := by omega
    refine ⟨by omega, .inl hu', fun g => ?_⟩
    unfold ge2 at g
    rw [h0, Nat.zero_mul] at g
    have := Nat.mul_pos hY (Nat.two_pow_pos (u + 53).toNat)
    omega
  · refine ⟨by omega, ?_, fun g => h2 (ge2_anti (by omega) g)⟩
    by_cases c : u = -1074
    · exact .inl c
    · exact .inr (by rw [show u + 52 = h by omega]; exact h1)
def neV (b : Nat) : Nat := if b < inf then b else 0
def NeAns (X Y : Nat) (w : World) (e : Ending) (w' : World) : Prop :=
  ∃ b, Near (X * 2 ^ e74) Y b ∧ e = .returned (.tuple #[.int .u64 (neV b : Int), .bool (decide (b < inf))]) ∧ Below w.heap.size w w'
theorem ne_yes {b : Nat} (h : b < inf) : neV b = b ∧ decide (b < inf) = true := ⟨if_pos h, decide_eq_true h⟩
theorem ne_no {b : Nat} (h : inf ≤ b) : neV b = 0 ∧ decide (b < inf) = false := ⟨if_neg (by omega), decide_eq_false (by omega)⟩

set_option maxRecDepth 100000 in
set_option maxHeartbeats 2000000 in
theorem nearest_any (v y : Value) (X Y : Nat) (w : World) (hv : N w v X) (hy : N w y Y) (hX : X < 2 ^ b20) (hY : Y < 2 ^ b20) (h0 : 0 < Y) :
    Calls Tryz.prog 120 #[v, y] w (NeAns X Y w) := by
  have HH := Lib.hid (highest_any v y X Y w hv hy hX hY h0)
  have HCl := Lib.hid (fun (b : Nat) (z : Int) (hz : z = (b : Int)) (hb : b < 18446744073709551616) W => by
    have := fclass_any 64 b W hb
    rw [← hz] at this
    exact this)
  have HV := Lib.hid (And.intro hv hy)
  have HX := Lib.hid (And.intro hX hY)
  clear hv hy hX hY
  go_enter Tryz.func120, Tryz.ntmps120
  go_wp2_with fail
  refine HH.out.mono ?_
  rintro e w1 ⟨h, rfl, hh1, hh2, hi, hb1⟩
  obtain ⟨u, hu⟩ : ∃ u, max (h - 52) (-1074) = u := ⟨_, rfl⟩
  have hU := unit_of h0 hi hu
  have HU := Lib.hid hU
  have HB1 := Lib.hid hb1
  have hlu := hU.least
  have hup : u ≤ 20001 := by omega
  obtain ⟨X', hX'⟩ : ∃ X', X' = X * 2 ^ (-u).toNat := ⟨_, rfl⟩
  obtain ⟨Y', hY'⟩ : ∃ Y', Y' = Y * 2 ^ u.toNat := ⟨_, rfl⟩
  obtain ⟨k, hk⟩ : ∃ k, (u + 1074).toNat = k := ⟨_, rfl⟩
  have k1 : u + 1074 = (k : Int) := by omega
  have HY0 : Hid (0 < Y') := Lib.hid (by rw [hY']; exact Nat.mul_pos h0 (Nat.two_pow_pos _))
  have key := fun up hq => near_unit h0 hU hX' hY' (up := up) hq
  rw [hk] at key
  obtain ⟨Q, hQ⟩ : ∃ Q, X' / Y' = Q := ⟨_, rfl⟩
  obtain ⟨R, hR⟩ : ∃ R, X' % Y' = R := ⟨_, rfl⟩
  have hRl : R < Y' := by rw [← hR]; exact Nat.mod_lt _ HY0.out
  rw [hQ, hR] at key
  obtain ⟨up, hup2⟩ : ∃ up, up = if Y' < 2 * R ∨ (2 * R = Y' ∧ Q % 2 = 1) then 1 else 0 := ⟨_, rfl⟩
  obtain ⟨q1, q2, near⟩ := key up hup2
  have hu01 : up ≤ 1 := by rw [hup2]; split <;> omega
  have HN := Lib.hid near
  clear key near hb1 hi hU
  by_cases hbig : 971 < u
  · have HE : Hid (inf ≤ k * h52 + (Q + up)) := Lib.hid (by
      have h52' : h52 = 4503599627370496 := rfl
      rw [inf_eq]
      rw [h52'] at q2 ⊢
      omega)
    clear q1 q2 hup2 hu01 hX' hY' hQ hR hRl hk k1
    go_wp2_with fail
    go_ret2
    refine ⟨_, HN.out, ?_, HB1.out⟩
    rw [(ne_no HE.out).1, (ne_no HE.out).2]
    rfl
  · have hXf : X * 2 ^ (-u).toNat < big := mul_fits (b := b20) HX.out.1 (by rw [b20_eq]; omega) (by rw [b131_eq, b20_eq]; omega)
    have hYf : Y * 2 ^ u.toNat < big := mul_fits (b := b20) HX.out.2 (by rw [b20_eq]; omega) (by rw [b131_eq, b20_eq]; omega)
    have hYf2 : Y' * 2 ^ 1 < big := by
      rw [hY', Nat.mul_assoc, ← Nat.pow_add]
      exact mul_fits (b := b20) HX.out.2 (by rw [b20_eq]; omega) (by rw [b131_eq, b20_eq]; omega)
    have hT := ftimesPower_any v y X Y (-u) w1 (HV.out.1.below HB1.out) (HV.out.2.below HB1.out) (by omega) (by omega) hXf (by rw [Int.neg_neg]; exact hYf)
    rw [Int.neg_neg, ← hX', ← hY'] at hT
    rw [← hX'] at hXf
    rw [← hY'] at hYf
    have HT := Lib.hid hT
    have HD := Lib.hid (fun W v1 u1 (h1 : N W v1 X') (h2 : N W u1 Y') => fdivide_any v1 u1 X' Y' W h1 h2 hXf hYf HY0.out)
    rw [hQ, hR] at HD
    have q1' : Q < 9007199254740992 := q1
    have HS := Lib.hid (fun W v1 (h1 : N W v1 Q) => fshort_any v1 Q W h1 (by omega))
    have HR2 := Lib.hid (fun W v1 (h1 : N W v1 R) => fshiftUp_any v1 R 1 W h1 (by omega) (by omega))
    have HC := Lib.hid (fun W v1 u1 (h1 : N W v1 (R * 2 ^ 1)) (h2 : N W u1 Y') => fcmp_any v1 u1 (R * 2 ^ 1) Y' W h1 h2)
    have hk2 : k ≤ 2045 := by omega
    obtain ⟨c, hc⟩ : ∃ c, cm (R * 2 ^ 1) Y' = c := ⟨_, rfl⟩
    have cases4 : (c = 1 ∧ up = 1) ∨ (c = 0 ∧ Q % 2 = 1 ∧ up = 1) ∨ (c = 0 ∧ Q % 2 = 0 ∧ up = 0) ∨ (c = -1 ∧ up = 0) := by
      rcases Nat.lt_trichotomy (R * 2 ^ 1) Y' with g | g | g
      · rw [cm_lt g] at hc
        rw [if_neg (by omega)] at hup2
        exact .inr (.inr (.inr ⟨hc.symm, hup2⟩))
      · rw [cm_eq g] at hc
        by_cases par : Q % 2 = 1
        · rw [if_pos (by omega)] at hup2
          exact .inr (.inl ⟨hc.symm, par, hup2⟩)
        · rw [if_neg (by omega)] at hup2
          exact .inr (.inr (.inl ⟨hc.symm, by omega, hup2⟩))
      · rw [cm_gt g] at hc
        rw [if_pos (by omega)] at hup2
        exact .inl ⟨hc.symm, hup2⟩
    rw [hc] at HC
    obtain ⟨b, hb⟩ : ∃ b, k * h52 + (Q + up) = b := ⟨_, rfl⟩
    rw [hb] at HN
    have hb2 : b = k * 4503599627370496 + (Q + up) := hb.symm
    have hb3 : b ≤ inf := by rw [inf_eq]; omega
    obtain ⟨ci, cl, c5⟩ := cl_inf hb3
    rw [inf_eq] at hb3
    clear q2 hup2 hX' hY' hQ hR hk hT hXf hYf hYf2 hRl hc hb q1
    have fin : Hid ((b = inf ∧ clC 64 b = 3) ∨ (b < inf ∧ (clC 64 b : Int) ≠ 3)) := Lib.hid (by
      rcases Nat.lt_or_ge b inf with g | g
      · exact .inr ⟨g, cl g⟩
      · have : b = inf := by rw [inf_eq] at g ⊢; omega
        exact .inl ⟨this, ci this⟩)
    have HK : Hid (∀ z : Int, z = (b : Int) → ∀ W, Calls Tryz.prog 159 #[.int .i64 64, .int .u64 z] W (ClAns 64 b W)) := Lib.hid (fun z hz W => HCl.out b z hz (by omega) W)
    clear ci cl HCl
    obtain ⟨C, hC⟩ : ∃ C, clC 64 b = C := ⟨_, rfl⟩
    unfold ClAns at HK
    rw [hC] at fin HK c5
    clear hC
    have k2 : u - -1074 = (k : Int) := by omega
    rcases cases4 with ⟨rfl, rfl⟩ | ⟨rfl, par, rfl⟩ | ⟨rfl, par, rfl⟩ | ⟨rfl, rfl⟩
    all_goals
      go_wp2_with fail
      refine HT.out.mono ?_
      rintro e w2 ⟨v2, y2, rfl, hN1, hN2, hb1⟩
      have HB2 := Lib.hid (HB1.out.trans (hb1.mono HB1.out.size))
      have HN2 := Lib.hid (And.intro hN1 hN2)
      clear hb1 hN1 hN2
      go_wp2_with fail
      refine (HD.out _ _ _ HN2.out.1 HN2.out.2).mono ?_
      rintro e w3 ⟨v3, y3, rfl, hN1, hN2, hb1⟩
      have HB3 := Lib.hid (HB2.out.trans (hb1.mono HB2.out.size))
      have HN3 := Lib.hid (And.intro (HN2.out.2.below hb1) (And.intro hN1 hN2))
      clear hb1 hN1 hN2
      go_wp2_with fail
      refine (HS.out _ _ HN3.out.2.1).mono ?_
      rintro e w' ⟨rfl, rfl⟩
      go_wp2_with fail
      refine (HR2.out _ _ HN3.out.2.2).mono ?_
      rintro e w4 ⟨v4, rfl, hN1, hb1⟩
      have HB4 := Lib.hid (HB3.out.trans (hb1.mono HB3.out.size))
      have HN4 := Lib.hid (And.intro (HN3.out.1.below hb1) hN1)
      clear hb1 hN1
      go_wp2_with fail
      refine (HC.out _ _ _ HN4.out.2 HN4.out.1).mono ?_
      rintro e w' ⟨rfl, j, rfl⟩
      go_wp2_with fail
      refine (HK.out _ (by omega) _).mono ?_
      rintro e w5 ⟨rfl, hb1⟩
      have HB5 := Lib.hid ((drew_below HB4.out j).trans (hb1.mono (by have := HB4.out.size; simp; omega)))
      clear hb1
      rcases fin.out with ⟨f1, f2⟩ | ⟨f1, f2⟩
      · have HE := Lib.hid (ne_no (Nat.le_of_eq f1.symm))
        clear f1
        obtain rfl : C = 3 := f2
        go_wp2_with fail
        go_ret2
        refine ⟨b, HN.out, ?_, HB5.out⟩
        rw [HE.out.1, HE.out.2]
        rfl
      · have HE := Lib.hid (ne_yes f1)
        have hne : ((C : Int) == 3) = false := by rw [beq_eq_false_iff_ne]; exact f2
        clear f1 f2
        go_wp2_with fail
        go_ret2
        refine ⟨b, HN.out, ?_, HB5.out⟩
        rw [HE.out.1, HE.out.2]
        exact ret_ub (by omega) rfl
end Go.Proofs.YtljbnnpmnoejeaaGreatDoor.nn
namespace Go.Proofs.YtljbnnpmnoejeaaGreatDoor.nn

theorem near_ex (X Y : Nat) (hY : 0 < Y) : ∃ b, Near X Y b := by
  obtain ⟨B, hB⟩ : ∃ B, 2 * h52 * Y = B := ⟨_, rfl⟩
  have h0 : 0 < h52 := by decide
  have hB0 : 0 < B := by rw [← hB]; exact Nat.mul_pos (by omega) hY
  have step : ∀ n, X < B * 2 ^ n → ∃ k, X < B * 2 ^ k ∧ (k = 0 ∨ B * 2 ^ (k - 1) ≤ X) := by
    intro n
    induction n with
    | zero => exact fun h => ⟨0, h, .inl rfl⟩
    | succ n ih =>
      intro h
      rcases Nat.lt_or_ge X (B * 2 ^ n) with g | g
      · exact ih g
      · exact ⟨n + 1, h, .inr (by rw [Nat.add_sub_cancel]; exact g)⟩
  obtain ⟨k, h1, h2⟩ := step X (by
    have h3 := Nat.lt_two_pow_self (n := X)
    have h4 : 1 * 2 ^ X ≤ B * 2 ^ X := Nat.mul_le_mul_right _ hB0
    omega)
  have hD : 0 < Y * 2 ^ k := Nat.mul_pos hY (Nat.two_pow_pos k)
  have hdm := Nat.div_add_mod X (Y * 2 ^ k)
  refine ⟨_, near_of (q := X / (Y * 2 ^ k)) (r := X % (Y * 2 ^ k)) (k := k) (up := _) hY (by rw [Nat.mul_comm]; exact hdm.symm) (Nat.mod_lt _ hD) ?_ ?_ rfl⟩
  · rw [Nat.div_lt_iff_lt_mul hD, ← Nat.mul_assoc, hB]
    exact h1
  · rcases h2 with h2 | h2
    · exact .inl h2
    · rcases Nat.eq_zero_or_pos k with h3 | h3
      · exact .inl h3
      · right
        rw [Nat.le_div_iff_mul_le hD]
        have e : B * 2 ^ (k - 1) = h52 * (Y * 2 ^ k) := by
          rw [← hB, show k = k - 1 + 1 by omega, Nat.add_sub_cancel, Nat.pow_succ, ← Nat.mul_assoc, ← Nat.mul_assoc, Nat.mul_right_comm 2 h52 Y, Nat.mul_comm (2 * Y) h52, Nat.mul_comm 2 Y, ← Nat.mul_assoc, Nat.mul_right_comm]
        rw [← e]
        exact h2
theorem ten_two (n : Nat) : 10 ^ n ≤ 2 ^ (4 * n) := by
  rw [Nat.pow_mul]
  exact Nat.pow_le_pow_left (by decide) n
end Go.Proofs.YtljbnnpmnoejeaaGreatDoor.nn
namespace Go.Proofs.YtljbnnpmnoejeaaGreatDoor.nn
open Go.RowKit

/-- the number that digits with an exponent are, over another -/
def rX (s : ByteArray) (z : Int) : Nat := dv (bt s) s.size * 10 ^ z.toNat
def rY (z : Int) : Nat := 10 ^ (-z).toNat
theorem rY_pos (z : Int) : 0 < rY z := Nat.pow_pos (by decide)
/-- b is the nearest -/
def RN (s : ByteArray) (z : Int) (b : Nat) : Prop := Near (rX s z * 2 ^ e74) (rY z) b
theorem RN_ex (s : ByteArray) (z : Int) : ∃ b, RN s z b := near_ex _ _ (rY_pos z)
def roV (neg : Bool) (b : Nat) : Nat := if b < inf then sB neg + b else 0
def roE (b : Nat) : Nat := if b < inf then 0 else 8
def RoAns (V E : Nat) (w : World) (e : Ending) (w' : World) : Prop := e = .returned (.tuple #[.int .u64 (V : Int), .int .i64 (E : Int)]) ∧ Below w.heap.size w w'
theorem rf_zero {s : ByteArray} {z : Int} (h : rfE s z = 0) : s.size ≤ 800 ∧ 0 < s.size ∧ dgs (bt s) s.size = true ∧ -2000 ≤ z ∧ z ≤ 2000 := by
  unfold rfE at h
  by_cases h1 : 800 < s.size
  · rw [if_pos h1] at h; omega
  · rw [if_neg h1] at h
    cases h2 : (dgs (bt s) s.size && decide (0 < s.size)) with
    | false => rw [h2, if_pos rfl] at h; omega
    | true =>
      rw [h2, if_neg (by decide)] at h
      rw [Bool.and_eq_true, decide_eq_true_eq] at h2
      split at h
      · omega
      · exact ⟨by omega, h2.2, h2.1, by omega, by omega⟩
theorem rX_fits {s : ByteArray} {z : Int} (h : rfE s z = 0) : rX s z < 2 ^ b20 ∧ rY z < 2 ^ b20 := by
  obtain ⟨h1, h2, h3, h4, h5⟩ := rf_zero h
  have e : ∀ n, n ≤ 2800 → 10 ^ n < 2 ^ b20 := fun n hn => Nat.lt_of_le_of_lt (ten_two n) ((Nat.pow_lt_pow_iff_right (by decide)).2 (by rw [b20_eq]; omega))
  constructor
  · unfold rX
    have h6 := dv_lt h3
    have h7 : dv (bt s) s.size * 10 ^ z.toNat < 10 ^ s.size * 10 ^ z.toNat := Nat.mul_lt_mul_of_pos_right h6 (Nat.pow_pos (by decide))
    rw [← Nat.pow_add] at h7
    exact Nat.lt_trans h7 (e _ (by omega))
  · exact e _ (by omega)

set_option maxRecDepth 100000 in
set_option maxHeartbeats 400000 in
theorem round_yes (neg : Bool) (s : ByteArray) (z : Int) (b : Nat) (w : World) (hr : rfE s z = 0) (hb : RN s z b) :
    Calls Tryz.prog 75 #[.bool neg, .string s, .int .i64 z] w (RoAns (roV neg b) (roE b) w) := by
  obtain ⟨h1, h2, h3, h4, h5⟩ := rf_zero hr
  obtain ⟨f1, f2⟩ := rX_fits hr
  have HR := Lib.hid (refuse_any s z w (by unfold maxLen; omega) (by omega) (by omega))
  have HA := Lib.hid (ratio_any s z w h3 h2 (by omega) (by omega) (by omega))
  have HN := Lib.hid (fun W v u (hv : N W v (rX s z)) (hu : N W u (rY z)) => nearest_any v u (rX s z) (rY z) W hv hu f1 f2 (rY_pos z))
  have HS := Lib.hid (fun m W (hm : m < 9223372036854775808) => fsigned_any neg m W hm)
  rw [hr] at HR
  have HU : Hid (∀ b', Near (rX s z * 2 ^ e74) (rY z) b' → b' = b) := Lib.hid fun b' h => near_uniq (rY_pos z) h hb
  have hA : rX s z = dv (bt s) s.size * 10 ^ z.toNat := rfl
  have hY : rY z = 10 ^ (-z).toNat := rfl
  rw [← hA, ← hY] at HA
  have HB := Lib.hid (Below.refl w.heap.size w)
  clear hb hr h3 f1 f2 hA hY
  obtain ⟨P, hP⟩ : ∃ P, rX s z = P := ⟨_, rfl⟩
  obtain ⟨Q, hQ⟩ : ∃ Q, rY z = Q := ⟨_, rfl⟩
  rw [hP, hQ] at HA HN HU
  clear hP hQ
  by_cases hi : b < inf
  · have e1 : roV neg b = sB neg + b := if_pos hi
    have e2 : roE b = 0 := if_pos hi
    obtain ⟨n1, n2⟩ := ne_yes hi
    rw [e1, e2]
    have hi2 := hi
    rw [inf_eq] at hi2
    have H12 := Lib.hid (And.intro n1 n2)
    clear e1 e2 n1 n2 hi
    go_enter Tryz.func75, Tryz.ntmps75
    go_wp2_with fail
    refine HR.out.mono ?_
    rintro e w' ⟨rfl, rfl⟩
    go_wp2_with fail
    refine HA.out.mono ?_
    rintro e w1 ⟨v, u, rfl, hv, hu, hb1⟩
    have HV := Lib.hid (And.intro hv hu)
    have HB1 := Lib.hid hb1
    clear hv hu hb1
    go_wp2_with fail
    refine (HN.out _ _ _ HV.out.1 HV.out.2).mono ?_
    rintro e w2 ⟨b', hn, rfl, hb2⟩
    obtain rfl := HU.out b' hn
    have HB2 := Lib.hid (HB1.out.trans (hb2.mono HB1.out.size))
    rw [H12.out.1, H12.out.2]
    clear hn hb2
    go_wp2_with fail
    refine (HS.out _ _ (by omega)).mono ?_
    rintro e w' ⟨rfl, rfl⟩
    go_wp2_with fail
    go_ret2
    exact ⟨rfl, HB2.out⟩
  · have e1 : roV neg b = 0 := if_neg hi
    have e2 : roE b = 8 := if_neg hi
    obtain ⟨n1, n2⟩ := ne_no (Nat.le_of_not_lt hi)
    rw [e1, e2]
    have H12 := Lib.hid (And.intro n1 n2)
    clear e1 e2 n1 n2 hi
    go_enter Tryz.func75, Tryz.ntmps75
    go_wp2_with fail
    refine HR.out.mono ?_
    rintro e w' ⟨rfl, rfl⟩
    go_wp2_with fail
    refine HA.out.mono ?_
    rintro e w1 ⟨v, u, rfl, hv, hu, hb1⟩
    have HV := Lib.hid (And.intro hv hu)
    have HB1 := Lib.hid hb1
    clear hv hu hb1
    go_wp2_with fail
    refine (HN.out _ _ _ HV.out.1 HV.out.2).mono ?_
    rintro e w2 ⟨b', hn, rfl, hb2⟩
    obtain rfl := HU.out b' hn
    have HB2 := Lib.hid (HB1.out.trans (hb2.mono HB1.out.size))
    rw [H12.out.1, H12.out.2]
    clear hn hb2
    go_wp2_with fail
    go_ret2
    exact ⟨rfl, HB2.out⟩

end Go.Proofs.YtljbnnpmnoejeaaGreatDoor.nn
namespace Go.Proofs.YtljbnnpmnoejeaaGreatDoor.nn

/-- how many digits stand in s from place a on -/
def rn (s : ByteArray) (a : Nat) : Nat := dc (fun i => bt s (a + i)) (s.size - a)
theorem rn_le (s : ByteArray) (a : Nat) : rn s a ≤ s.size - a := (dc_facts _ _).1
/-- from place a on -/
def sfx (s : ByteArray) (a : Nat) : ByteArray := s.extract a s.size
/-- from place a to place b -/
def cutT (s : ByteArray) (a b : Nat) : ByteArray := s.extract a b
theorem fba_ext {a b : ByteArray} (h : a.size = b.size) (e : ∀ i, i < a.size → bt a i = bt b i) : a = b := by
  apply ByteArray.ext_getElem h
  intro i h1 h2
  have := e i h1
  rw [bt_at h1, bt_at h2] at this
  exact UInt8.toNat_inj.1 this
theorem cutT_size {s : ByteArray} {a b : Nat} (h : b ≤ s.size) : (cutT s a b).size = b - a := by
  unfold cutT
  rw [ByteArray.size_extract]
  omega
theorem sfx_size (s : ByteArray) (a : Nat) : (sfx s a).size = s.size - a := by
  unfold sfx
  rw [ByteArray.size_extract]
  omega
theorem bt_cutT {s : ByteArray} {a b i : Nat} (h : b ≤ s.size) (hi : i < b - a) : bt (cutT s a b) i = bt s (a + i) := by
  have h1 : i < (s.extract a b).size := by
    have := cutT_size (a := a) h
    unfold cutT at this
    omega
  have h2 : a + i < s.size := by omega
  show bt (s.extract a b) i = _
  rw [bt_at h1, bt_at h2, ByteArray.getElem_extract]
theorem bt_sfx {s : ByteArray} {a i : Nat} (hi : i < s.size - a) : bt (sfx s a) i = bt s (a + i) := bt_cutT (Nat.le_refl _) hi
theorem sfx_zero (s : ByteArray) : sfx s 0 = s := by
  refine fba_ext (by rw [sfx_size]; omega) fun i hi => ?_
  rw [sfx_size] at hi
  rw [bt_sfx hi, Nat.zero_add]
theorem sfx_cut {s : ByteArray} {a k : Nat} (h : a + k ≤ s.size) : (sfx s a).extract 0 k = cutT s a (a + k) := by
  have e1 : ((sfx s a).extract 0 k).size = k := by rw [ByteArray.size_extract, sfx_size]; omega
  refine fba_ext (by rw [e1, cutT_size h]; omega) fun i hi => ?_
  rw [e1] at hi
  rw [bt_cutT h (by omega), ← bt_sfx (by omega)]
  have := bt_cutT (s := sfx s a) (a := 0) (b := k) (i := i) (by rw [sfx_size]; omega) (by omega)
  rw [Nat.zero_add] at this
  exact this
theorem sfx_sfx {s : ByteArray} {a k : Nat} (h : a + k ≤ s.size) : (sfx s a).extract k (sfx s a).size = sfx s (a + k) := by
  have e1 : ((sfx s a).extract k (sfx s a).size).size = s.size - (a + k) := by rw [ByteArray.size_extract, sfx_size]; omega
  refine fba_ext (by rw [e1, sfx_size]) fun i hi => ?_
  rw [e1] at hi
  rw [bt_sfx hi]
  have := bt_sfx (s := sfx s a) (a := k) (i := i) (by rw [sfx_size]; omega)
  unfold sfx at this ⊢
  rw [this]
  have h2 := bt_sfx (s := s) (a := a) (i := k + i) (by omega)
  unfold sfx at h2
  rw [h2, Nat.add_assoc]
theorem dc_sfx {s : ByteArray} (a : Nat) : dc (bt (sfx s a)) (sfx s a).size = rn s a := by
  have : ∀ n, n ≤ s.size - a → dc (bt (sfx s a)) n = dc (fun i => bt s (a + i)) n := by
    intro n
    induction n with
    | zero => exact fun _ => rfl
    | succ n ih =>
      intro hn
      rw [dc, dc, ih (by omega), bt_sfx (by omega)]
  rw [sfx_size]
  exact this _ (Nat.le_refl _)
/-- the digits that are run through are digits -/
theorem rn_dgs {s : ByteArray} {a : Nat} (ha : a ≤ s.size) : dgs (bt (cutT s a (a + rn s a))) (rn s a) = true := by
  have h1 := rn_le s a
  obtain ⟨_, h2, _⟩ := dc_facts (fun i => bt s (a + i)) (s.size - a)
  rw [dgs_congr (g := fun i => bt s (a + i)) (fun i hi => bt_cutT (by omega) (by omega))]
  exact h2
end Go.Proofs.YtljbnnpmnoejeaaGreatDoor.nn
