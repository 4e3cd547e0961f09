/- Joined texts, what is wanted of them: FdShort, FdFewA, FdFewB, FdText, FdMore, FdecOrderW, FdFewC, FsM. -/
import Derived.Lib.AppendIntMem
import Derived.Laws.IdiomStrings
import Derived.Test.YtljbnnpmnoejeaaGreatDoorJb
import Derived.Test.YtljbnnpmnoejeaaGreatDoorJc
import Derived.Test.YtljbnnpmnoejeaaGreatDoorJe
import Derived.Test.YtljbnnpmnoejeaaGreatDoorJa
import Derived.Test.YtljbnnpmnoejeaaGreatDoorJd
import Derived.Test.YtljbnnpmnoejeaaGreatDoorJf
namespace Go.Proofs.YtljbnnpmnoejeaaGreatDoor.nn
open Go.RowKit

/-- the decimals with the fewest digits, in units of 10^spP -/
def shN (m : Nat) (e : Int) : Nat := fws (spA m e) (spM m e) (spF m e) (spL m e) (j0 (spA m e))
/-- its digits without the zeros behind -/
def shL (m : Nat) (e : Int) : List UInt8 := Lib.trimRightB (Lib.decDigits (shN m e)) 48
def shD (m : Nat) (e : Int) : ByteArray := ⟨(shL m e).toArray⟩
def shE (m : Nat) (e : Int) : Int := spP m e + ((Lib.decDigits (shN m e)).length : Int) - ((shL m e).length : Int)
def ShAns (D : ByteArray) (E : Int) (R : Nat) (w : World) (r : Ending) (w' : World) : Prop := r = .returned (.tuple #[.string D, .int .i64 E, .int .i64 (R : Int)]) ∧ Below w.heap.size w w'
theorem fws_lt (A : Nat) (mo : Bool) (F L j : Nat) (h : A < 4000000000000000000) (hL : L < 4000000000000000000) : fws A mo F L j < 4000000000000000000 := by
  induction j with
  | zero => rw [fws]; decide
  | succ j ih =>
    rw [fws]
    split
    · rename_i x hx
      unfold cd at hx
      split at hx
      · injection hx with hx; omega
      · split at hx
        · injection hx with hx
          have := Nat.div_mul_le_self A (10 ^ (j + 1))
          omega
        · cases hx
    · exact ih
theorem trimR_len (l : List UInt8) (c : UInt8) : (Lib.trimRightB l c).length ≤ l.length := by
  unfold Lib.trimRightB
  rw [List.length_reverse]
  exact Nat.le_trans (List.dropWhile_sublist _).length_le (by rw [List.length_reverse]; exact Nat.le_refl _)
set_option maxRecDepth 100000 in
set_option maxHeartbeats 1000000 in
theorem shortest_no (x : Nat) (w : World) (hx : x < 18446744073709551616) (h : xaO x = false) : Calls Tryz.prog 83 #[.int .u64 (x : Int)] w (ShAns ⟨#[]⟩ 0 1 w) := by
  have H := Lib.hid (fun W => fexact_any x W hx)
  unfold XaAns at H
  rw [h] at H
  generalize xaS x = S at H
  generalize xaM x = M at H
  generalize xaE x = E at H
  go_enter Tryz.func83, Tryz.ntmps83
  go_wp2_with fail
  refine (H.out _).mono ?_
  rintro r w1 ⟨rfl, hb⟩
  go_wp2_with fail
  exact bodyPost_ret (by simp [results, Tryz.results83, go_sem]) rfl ⟨rfl, hb⟩
set_option maxRecDepth 100000 in
set_option maxHeartbeats 1000000 in
theorem shortest_zero (x : Nat) (w : World) (hx : x < 18446744073709551616) (h : xaO x = true) (hm : xaM x = 0) : Calls Tryz.prog 83 #[.int .u64 (x : Int)] w (ShAns ⟨#[48]⟩ 0 0 w) := by
  have H := Lib.hid (fun W => fexact_any x W hx)
  unfold XaAns at H
  rw [h, hm] at H
  generalize xaS x = S at H
  generalize xaE x = E at H
  go_enter Tryz.func83, Tryz.ntmps83
  go_wp2_with fail
  refine (H.out _).mono ?_
  rintro r w1 ⟨rfl, hb⟩
  go_wp2_with fail
  exact bodyPost_ret (by simp [results, Tryz.results83, go_sem]) rfl ⟨rfl, hb⟩
set_option maxRecDepth 100000 in
set_option maxHeartbeats 4000000 in
theorem shortest_yes (x : Nat) (w : World) (hx : x < 18446744073709551616) (h : xaO x = true) (hF : Fe (xaM x) (xaE x)) (hP : Pow10 w) : Calls Tryz.prog 83 #[.int .u64 (x : Int)] w (ShAns (shD (xaM x) (xaE x)) (shE (xaM x) (xaE x)) 0 w) := by
  have H := Lib.hid (fun W => fexact_any x W hx)
  unfold XaAns at H
  rw [h] at H
  generalize xaS x = S at H
  generalize xaM x = m at H hF ⊢
  generalize xaE x = e at H hF ⊢
  obtain ⟨s1, s2, s3, s4, s5⟩ := hF.span
  obtain ⟨q1, q2, q3, q4, q5⟩ := hF
  rw [h52] at q2
  have hN0 : shN m e < 4000000000000000000 := fws_lt _ _ _ _ _ (by omega) s5
  have HS := Lib.hid (fun W => newSpan_any m e W q1 (by omega) q3 q4 (by omega) (by omega))
  have HW := Lib.hid (fun W => fewest_any (spA m e) (spM m e) (spF m e) (spL m e) (spP m e) W s1 (by omega) (by omega) (by omega))
  have hPat := hP.at_
  have HFm := Lib.hid (fun W (hb : Below w.heap.size w W) => fmtUint_any (shN m e) W (by omega) (hP.below hb hPat))
  have hl1 : (Lib.decDigits (shN m e)).length ≤ 20 := by rw [Lib.decDigits_length]; by_cases h0 : 1 ≤ shN m e; (have := Lib.numDigits_eq (shN m e) h0 (by omega); split at this <;> omega); (rw [show shN m e = 0 by omega, show Lib.nDigits 0 = 1 by unfold Lib.nDigits; rfl]; decide)
  have hl2 : (Lib.trimRightB (Lib.decDigits (shN m e)) 48).length ≤ 20 := Nat.le_trans (trimR_len _ _) hl1
  have HT := Lib.hid (fun W => Tryz.strings_TrimRight_one ⟨(Lib.decDigits (shN m e)).toArray⟩ 48 (by decide) W (by show (Lib.decDigits (shN m e)).toArray.size ≤ _; rw [List.size_toArray]; omega))
  unfold SpAns at HS
  rw [show fws (spA m e) (spM m e) (spF m e) (spL m e) (j0 (spA m e)) = shN m e from rfl] at HW
  have HV : Hid (ShAns (shD m e) (shE m e) 0 w = ShAns ⟨(Lib.trimRightB (Lib.decDigits (shN m e)) 48).toArray⟩ (spP m e + ((Lib.decDigits (shN m e)).length : Int) - ((Lib.trimRightB (Lib.decDigits (shN m e)) 48).length : Int)) 0 w) := Lib.hid rfl
  have hpb : -500 ≤ spP m e ∧ spP m e ≤ 500 := by
    have b1 := (bl_ge (N := m) (by omega)).2
    have b2 : bl m ≤ 53 := bl_le (k := 53) (by omega)
    unfold spP dcm; omega
  generalize spA m e = A at *
  generalize spM m e = mo at *
  generalize spF m e = F at *
  generalize spL m e = L at *
  generalize spP m e = p at *
  generalize shN m e = N at *
  generalize Lib.decDigits N = ds at *
  generalize Lib.trimRightB ds 48 = ts at *
  rw [HV.out]
  unfold spV at HS HW
  have hz1 : ByteArray.size ⟨ds.toArray⟩ = ds.length := List.size_toArray
  have hz2 : ByteArray.size ⟨ts.toArray⟩ = ts.length := List.size_toArray
  generalize (⟨ds.toArray⟩ : ByteArray) = S1 at *
  generalize (⟨ts.toArray⟩ : ByteArray) = S2 at *
  generalize ds.length = n1 at *
  generalize ts.length = n2 at *
  go_enter Tryz.func83, Tryz.ntmps83
  go_wp2_with fail
  refine (H.out _).mono ?_
  rintro r w1 ⟨rfl, hb⟩
  have HB := Lib.hid hb
  clear hb
  go_wp2_with fail
  refine (HS.out _).mono ?_
  rintro r w2 ⟨rfl, hb⟩
  have HB2 := Lib.hid hb
  clear hb
  go_wp2_with fail
  have HX := Lib.hid (Bsp.new (A := A) (mo := mo) (F := F) (L := L) (p := p) w2 160)
  have HB3 := Lib.hid ((Below.refl w2.heap.size w2).alloc (Nat.le_refl _) (.cells #[.int .u64 (A : Int), .bool mo, .int .u64 (F : Int), .int .u64 (L : Int), .int .i64 p] 160))
  generalize w2.alloc (.cells #[.int .u64 (A : Int), .bool mo, .int .u64 (F : Int), .int .u64 (L : Int), .int .i64 p] 160) = W2 at HX HB3 ⊢
  have HB4 : Hid (Below w.heap.size w W2) := Lib.hid (HB.out.trans ((HB2.out.trans (HB3.out.mono HB2.out.size)).mono HB.out.size))
  clear HB HB2 HB3
  refine (HW.out _).mono ?_
  rintro r w3 ⟨rfl, hb⟩
  have HX3 := Lib.hid (HX.out.on hb)
  have HB5 : Hid (Below w.heap.size w w3) := Lib.hid (HB4.out.trans (hb.mono HB4.out.size))
  clear hb HX HB4
  go_wp2_with fail
  refine (HFm.out _ HB5.out).mono ?_
  rintro r w4 ⟨rfl, hb⟩
  have HX4 := Lib.hid (HX3.out.on hb)
  have HB6 : Hid (Below w.heap.size w w4) := Lib.hid (HB5.out.trans (hb.mono HB5.out.size))
  clear hb HX3 HB5
  go_wp2_with fail
  refine (HT.out _).mono ?_
  rintro r w5 ⟨rfl, rfl⟩
  obtain ⟨x0, x1, x2, x3, x4⟩ := HX4.out.all
  go_wp2_with fail
  go_quiet (fail)
  go_wp2_with fail
  exact bodyPost_ret (by simp [results, Tryz.results83, go_sem]) rfl ⟨rfl, drew_below HB6.out _⟩
end Go.Proofs.YtljbnnpmnoejeaaGreatDoor.nn
namespace Go.Proofs.YtljbnnpmnoejeaaGreatDoor.nn
open Go.RowKit

theorem cd_none {A F L P : Nat} {mo : Bool} (h : cd A mo F L P = none) (c : Nat) : ¬ (F ≤ c * P ∧ c * P ≤ L) := by
  unfold cd at h
  split at h
  · cases h
  · rename_i h1
    split at h
    · cases h
    · rename_i h2
      rintro ⟨g1, g2⟩
      rcases Nat.lt_or_ge (A / P) c with g | g
      · have : (A / P + 1) * P ≤ c * P := Nat.mul_le_mul_right _ g
        rw [Nat.add_mul, Nat.one_mul] at this
        exact h1 ⟨by omega, .inl (by omega)⟩
      · have : c * P ≤ A / P * P := Nat.mul_le_mul_right _ g
        omega
theorem cd_some {A F L P N : Nat} {mo : Bool} (hP : 0 < P) (hF : F ≤ A + 1) (hL : A ≤ L) (h : cd A mo F L P = some N) : F ≤ N ∧ N ≤ L ∧ (N = A / P * P ∨ N = A / P * P + P) := by
  have h1 := Nat.div_mul_le_self A P
  have h2 : A < A / P * P + P := by have h3 := Nat.div_add_mod A P; have := Nat.mod_lt A hP; rw [Nat.mul_comm] at h3; omega
  unfold cd at h
  split at h
  · injection h with h; omega
  · split at h
    · injection h with h; omega
    · cases h
theorem fws_ex {A F L : Nat} {mo : Bool} (h1 : cd A mo F L (10 ^ 1) ≠ none) : ∀ n, 1 ≤ n → ∃ j, 1 ≤ j ∧ j ≤ n ∧ cd A mo F L (10 ^ j) = some (fws A mo F L n) ∧ ∀ i, j < i → i ≤ n → cd A mo F L (10 ^ i) = none := fun n hn => by
  induction n with
  | zero => omega
  | succ n ih =>
    rw [fws]
    cases hc : cd A mo F L (10 ^ (n + 1)) with
    | some x => exact ⟨n + 1, by omega, Nat.le_refl _, hc, fun i h2 h3 => by omega⟩
    | none =>
      by_cases h0 : n = 0
      · subst h0; exact absurd hc h1
      · obtain ⟨j, a1, a2, a3, a4⟩ := ih (by omega)
        refine ⟨j, a1, by omega, a3, fun i h2 h3 => ?_⟩
        rcases (by omega : i = n + 1 ∨ i ≤ n) with rfl | g
        · exact hc
        · exact a4 i h2 g
/-- the span is wide: ten in a row -/
theorem Fe.wide {m : Nat} {e : Int} (h : Fe m e) : spA m e ≤ spL m e ∧ spF m e + 9 ≤ spL m e := by
  obtain ⟨h0, h1, h2⟩ := h.ends
  obtain ⟨a1, a2, a3, a4, a5⟩ := h.span
  obtain ⟨q1, q2, q3, q4, q5⟩ := h
  obtain ⟨X, hX⟩ : ∃ X, spX m e = X := ⟨_, rfl⟩
  obtain ⟨Y, hY⟩ : ∃ Y, spY m e = Y := ⟨_, rfl⟩
  have hF : spF m e ≤ (4 * m - spB m e) * X / Y + 1 := by unfold spF; rw [hX, hY]; split <;> omega
  have hL : (4 * m + 2) * X / Y ≤ spL m e + 1 := by unfold spL; rw [hX, hY]; split <;> omega
  have hA : spA m e = 4 * m * X / Y := by unfold spA; rw [hX, hY]
  rw [hX, hY] at h1
  rw [hY] at h0
  have hX0 : 11 * Y ≤ 4 * X := by
    have : 4 * m * X ≤ 9007199254740992 * (4 * X) := by
      rw [Nat.mul_comm 4 m, Nat.mul_assoc]
      exact Nat.mul_le_mul_right _ (by rw [h52] at q2; omega)
    omega
  have add : ∀ q k c, c * Y ≤ k * X → q * X / Y + c ≤ (q + k) * X / Y := fun q k c hc => by
    rw [Nat.add_mul, ← Nat.add_mul_div_right _ _ h0]
    exact Nat.div_le_div_right (by omega)
  have k1 := add (4 * m) 2 5 (by omega)
  rw [← hA] at k1
  refine ⟨by omega, ?_⟩
  by_cases c : m = 4503599627370496 ∧ -1074 < e
  · have hB : spB m e = 1 := if_pos c
    rw [hB] at hF
    have hm := c.1
    have : 15 * Y ≤ 3 * X := by
      have : 4 * m * X = 4503599627370496 * (4 * X) := by rw [hm, Nat.mul_comm 4, Nat.mul_assoc]
      omega
    have k2 := add (4 * m - 1) 3 11 (by omega)
    rw [show 4 * m - 1 + 3 = 4 * m + 2 by omega] at k2
    omega
  · have hB : spB m e = 2 := if_neg c
    rw [hB] at hF
    have k2 := add (4 * m - 2) 4 11 (by omega)
    rw [show 4 * m - 2 + 4 = 4 * m + 2 by omega] at k2
    omega
theorem cd_wide {A F L : Nat} {mo : Bool} (h : F + 9 ≤ L) : cd A mo F L (10 ^ 1) ≠ none := fun g => by
  have := cd_none g ((F + 9) / 10)
  omega
/-- what the search finds -/
theorem Fe.found {m : Nat} {e : Int} (h : Fe m e) : ∃ j, 1 ≤ j ∧ j ≤ j0 (spA m e) ∧ spF m e ≤ shN m e ∧ shN m e ≤ spL m e ∧ (shN m e = spA m e / 10 ^ j * 10 ^ j ∨ shN m e = spA m e / 10 ^ j * 10 ^ j + 10 ^ j) ∧ ∀ i, j < i → i ≤ j0 (spA m e) → ∀ c, ¬ (spF m e ≤ c * 10 ^ i ∧ c * 10 ^ i ≤ spL m e) := by
  obtain ⟨w1, w2⟩ := h.wide
  obtain ⟨a1, a2, a3, a4, a5⟩ := h.span
  obtain ⟨j, b1, b2, b3, b4⟩ := fws_ex (A := spA m e) (mo := spM m e) (cd_wide w2) (j0 (spA m e)) (by have := j0_le (spA m e); omega)
  obtain ⟨c1, c2, c3⟩ := cd_some (Nat.pow_pos (by decide)) a4 w1 b3
  exact ⟨j, b1, b2, c1, c2, c3, fun i h1 h2 c => cd_none (b4 i h1 h2) c⟩
/-- the decimals s times 10^(spP + t) -/
theorem Fe.near {m : Nat} {e : Int} (h : Fe m e) (s : ByteArray) (t : Nat) (z : Int) (hz : z = spP m e + (t : Int)) : RN s z (bm m e) ↔ spF m e ≤ dv (bt s) s.size * 10 ^ t ∧ dv (bt s) s.size * 10 ^ t ≤ spL m e := by
  rw [← span_near h]
  unfold RN rX rY
  subst hz
  generalize spP m e = p at *
  generalize dv (bt s) s.size = V at *
  have e1 : 10 ^ (p + (t : Int)).toNat * 10 ^ (-p).toNat = 10 ^ t * 10 ^ p.toNat * 10 ^ (-(p + (t : Int))).toNat := by
    rw [← Nat.pow_add, ← Nat.pow_add, ← Nat.pow_add]
    refine congrArg (10 ^ ·) ?_
    omega
  obtain ⟨T, hT⟩ : ∃ T, 2 ^ e74 = T := ⟨_, rfl⟩
  rw [hT]
  have hs : V * 10 ^ (p + (t : Int)).toNat * T * 10 ^ (-p).toNat = V * 10 ^ t * 10 ^ p.toNat * T * 10 ^ (-(p + (t : Int))).toNat := by
    rw [show V * 10 ^ (p + (t : Int)).toNat * T * 10 ^ (-p).toNat = V * T * (10 ^ (p + (t : Int)).toNat * 10 ^ (-p).toNat) by simp only [Nat.mul_assoc, Nat.mul_left_comm, Nat.mul_comm], e1]
    simp only [Nat.mul_assoc, Nat.mul_left_comm, Nat.mul_comm]
  exact ⟨fun n => near_same (Nat.pow_pos (by decide)) (Nat.pow_pos (by decide)) hs n, fun n => near_same (Nat.pow_pos (by decide)) (Nat.pow_pos (by decide)) hs.symm n⟩
end Go.Proofs.YtljbnnpmnoejeaaGreatDoor.nn
namespace Go.Proofs.YtljbnnpmnoejeaaGreatDoor.nn
open Go.RowKit

theorem bt_lf (l : List UInt8) (i : Nat) (h : i < l.length) : bt ⟨l.toArray⟩ i = lf_ l i := by
  have hs : ByteArray.size ⟨l.toArray⟩ = l.length := List.size_toArray
  rw [bt_at (by omega)]
  unfold lf_
  rw [List.getD_eq_getElem?_getD, List.getElem?_eq_getElem h]
  rfl
theorem drop_split (c : UInt8) (r : List UInt8) : ∃ t, r = List.replicate t c ++ r.dropWhile (· == c) ∧ ∀ x q, r.dropWhile (· == c) = x :: q → x ≠ c := by
  induction r with
  | nil => exact ⟨0, rfl, fun x q h => by cases h⟩
  | cons a r ih =>
    by_cases h : a = c
    · subst h
      obtain ⟨t, h1, h2⟩ := ih
      rw [List.dropWhile_cons_of_pos (by simp)]
      refine ⟨t + 1, ?_, h2⟩
      rw [List.replicate_succ, List.cons_append, ← h1]
    · rw [List.dropWhile_cons_of_neg (by simpa using h)]
      refine ⟨0, rfl, fun x q g => ?_⟩
      injection g with g1 g2
      rw [← g1]
      exact h
theorem trimR_split (l : List UInt8) (c : UInt8) : ∃ t, l = Lib.trimRightB l c ++ List.replicate t c ∧ ∀ q x, Lib.trimRightB l c = q ++ [x] → x ≠ c := by
  obtain ⟨t, h1, h2⟩ := drop_split c l.reverse
  refine ⟨t, ?_, fun q x h => ?_⟩
  · have := congrArg List.reverse h1
    rw [List.reverse_reverse, List.reverse_append, List.reverse_replicate] at this
    exact this
  · refine h2 x q.reverse ?_
    have := congrArg List.reverse h
    unfold Lib.trimRightB at this
    rw [List.reverse_reverse, List.reverse_append] at this
    exact this
theorem dec_head {N : Nat} : 0 < N → lf_ (Lib.decDigits N) 0 ≠ 48 := by
  induction N using Nat.strongRecOn with
  | _ N ih =>
    intro h0
    by_cases h : N < 10
    · rw [Lib.decDigits_one h]
      show (UInt8.ofNat (48 + N)).toNat ≠ 48
      rw [digit_nat h]
      omega
    · rw [dec_big h, lf_lo]
      · exact ih (N / 10) (by omega) (by omega)
      · rw [Lib.decDigits_length]
        exact Nat.pos_of_ne_zero fun g => by
          have := Lib.lt_pow_nDigits (N / 10)
          rw [g] at this
          omega
theorem sh_digits {N : Nat} (h0 : 0 < N) (l : List UInt8) (hl : Lib.trimRightB (Lib.decDigits N) 48 = l) : ∃ t V, (Lib.decDigits N).length = l.length + t ∧ N = V * 10 ^ t ∧ V % 10 ≠ 0 ∧ 0 < l.length ∧ dgs (bt ⟨l.toArray⟩) l.length = true ∧ dv (bt ⟨l.toArray⟩) l.length = V ∧ bt ⟨l.toArray⟩ 0 ≠ 48 ∧ bt ⟨l.toArray⟩ (l.length - 1) ≠ 48 := by
  obtain ⟨t, h1, h2⟩ := trimR_split (Lib.decDigits N) 48
  obtain ⟨r1, r2⟩ := dec_read N
  have r3 := dec_head h0
  rw [hl] at h1 h2
  generalize Lib.decDigits N = d at *
  have hlen : d.length = l.length + t := by rw [h1, List.length_append, List.length_replicate]
  have hsz : ByteArray.size ⟨l.toArray⟩ = l.length := List.size_toArray
  have hbt : ∀ i, i < l.length → lf_ d i = bt ⟨l.toArray⟩ i := fun i hi => by rw [bt_lf l i hi, h1, lf_lo hi]
  have hdg : dgs (bt ⟨l.toArray⟩) l.length = true := by rw [← dgs_congr hbt]; exact dgs_mono r1 (by omega)
  have hcat : (⟨l.toArray⟩ ++ zk t : ByteArray) = ⟨d.toArray⟩ := by
    rw [h1]
    refine ByteArray.ext ?_
    rw [ByteArray.data_append]
    show l.toArray ++ (List.replicate t 48).toArray = _
    simp
  have hz := (dv_zk (a := ⟨l.toArray⟩) (by rw [hsz]; exact hdg) t).2
  have hsz2 : ByteArray.size ⟨d.toArray⟩ = d.length := List.size_toArray
  rw [hcat, hsz, hsz2, dv_congr (g := lf_ d) (fun i hi => bt_lf d i hi), r2] at hz
  have hpos : 0 < l.length := by
    rcases Nat.eq_zero_or_pos l.length with g | g
    · rw [g] at hz
      simp [dv] at hz
      omega
    · exact g
  have hlast : bt ⟨l.toArray⟩ (l.length - 1) ≠ 48 := by
    have hne : l ≠ [] := by intro g; rw [g] at hpos; exact absurd hpos (by decide)
    have e := (List.dropLast_concat_getLast hne).symm
    have h3 := h2 _ _ e
    rw [bt_lf l _ (by omega)]
    have e2 : lf_ l (l.length - 1) = (l.getLast hne).toNat := by
      unfold lf_
      rw [List.getD_eq_getElem?_getD, List.getElem?_eq_getElem (by omega), List.getLast_eq_getElem]
      rfl
    rw [e2]
    intro g
    exact h3 (UInt8.toNat_inj.1 g)
  refine ⟨t, _, hlen, hz, ?_, hpos, hdg, rfl, ?_, hlast⟩
  · obtain ⟨n, hn⟩ : ∃ n, l.length = n + 1 := ⟨l.length - 1, by omega⟩
    rw [hn] at hlast hdg ⊢
    have := dgs_at hdg (i := n) (by omega)
    rw [dv]
    rw [Nat.add_sub_cancel] at hlast
    omega
  · rw [← hbt 0 hpos]
    exact r3
/-- the parts of bits -/
theorem xa_fe (x : Nat) (_hx : x < 18446744073709551616) (hO : xaO x = true) (hm : xaM x ≠ 0) : Fe (xaM x) (xaE x) ∧ bm (xaM x) (xaE x) = x % 9223372036854775808 ∧ bm (xaM x) (xaE x) < inf := by
  have e1 : ex 64 x = x / 4503599627370496 % 2048 := rfl
  have e2 : fr 64 x = x % 4503599627370496 := rfl
  unfold xaO at hO
  have hO := of_decide_eq_true hO
  have hh : hid52 = 4503599627370496 := rfl
  rw [inf_eq]
  by_cases c : ex 64 x = 0
  · have hM : xaM x = fr 64 x := by unfold xaM; rw [if_neg hO, if_pos c]
    have hE : xaE x = -1074 := by unfold xaE; rw [if_neg hO, if_pos c]
    rw [hM] at hm
    unfold bm Fe
    rw [hM, hE, show h52 = 4503599627370496 from rfl]
    omega
  · have hM : xaM x = fr 64 x + hid52 := by unfold xaM; rw [if_neg hO, if_neg c]
    have hE : xaE x = (ex 64 x : Int) - 1075 := by unfold xaE; rw [if_neg hO, if_neg c]
    unfold bm Fe
    rw [hM, hE, hh, show h52 = 4503599627370496 from rfl, show ((ex 64 x : Int) - 1075 + 1074).toNat = ex 64 x - 1 by omega]
    omega
end Go.Proofs.YtljbnnpmnoejeaaGreatDoor.nn
namespace Go.Proofs.YtljbnnpmnoejeaaGreatDoor.nn
open Go.RowKit

/-- the builder behind some writes, and the rest as it was -/
def Bw (w : World) (l : List UInt8) (W : World) : Prop := Bld w.heap.size w.heap.size l W ∧ Below w.heap.size w W
theorem Bw.below {w W W' : World} {l : List UInt8} (h : Bw w l W) (hb : Below W.heap.size W W') : Bw w l W' := ⟨h.1.below hb (Nat.le_refl _), h.2.trans (hb.mono h.2.size)⟩
theorem Bw.new (w : World) : Bw w [] (w.alloc (.cells #[.pointer none, .slice none 0 0] 124)) := ⟨Bld.new w, (Below.refl _ _).alloc (Nat.le_refl _) _⟩
theorem bw_write {w W : World} {l : List UInt8} (s : ByteArray) (h : Bw w l W) (hlen : l.length ≤ 1000) (hs : s.size ≤ 1000) :
    Calls Tryz.prog 91 #[.pointer (some ⟨w.heap.size, 0, none⟩), .string s] W fun e w' => e = .returned (.tuple #[.int .i64 s.size, .nilIface]) ∧ Bw w (l ++ s.data.toList) w' :=
  (writeString_any _ _ l s W h.1 (by omega) h.2.size).mono fun _ _ ⟨he, hb, hb2⟩ => ⟨he, hb, h.2.trans hb2⟩
/-- the text with an exponent -/
def wxL (D : ByteArray) (e : Int) : List UInt8 := (cutT D 0 1).data.toList ++ (if 1 < D.size then [46] ++ (cutT D 1 D.size).data.toList else []) ++ [101] ++ Lib.itoa e
theorem nd_small {u : Nat} (h : u < 10000000000) : (Lib.decDigits u).length ≤ 20 := by
  rw [Lib.decDigits_length]
  by_cases h0 : 1 ≤ u
  · have := Lib.numDigits_eq u h0 (by omega)
    split at this <;> omega
  · rw [show u = 0 by omega, show Lib.nDigits 0 = 1 by unfold Lib.nDigits; rfl]
    decide
theorem itoa_small {e : Int} (he : -100000 ≤ e ∧ e ≤ 100000) : (Lib.itoa e).length ≤ 25 := by
  unfold Lib.itoa
  split
  · have := nd_small (u := e.natAbs) (by omega)
    simp only [List.length_cons]
    omega
  · have := nd_small (u := e.toNat) (by omega)
    omega
theorem blen (s : ByteArray) : s.data.toList.length = s.size := by rw [Array.length_toList]; rfl
set_option maxRecDepth 100000 in
set_option maxHeartbeats 4000000 in
theorem withExp_any (D : ByteArray) (e : Int) (w : World) (h0 : 0 < D.size) (hs : D.size ≤ 500) (he : -100000 ≤ e ∧ e ≤ 100000) (hP : Pow10 w) :
    Calls Tryz.prog 131 #[.string D, .int .i64 e] w fun r w' => r = .returned (.string ⟨(wxL D e).toArray⟩) ∧ Below w.heap.size w w' := by
  have HW := Lib.hid (fun l s W (h : Bw w l W) (h1 : l.length ≤ 1000) (h2 : s.size ≤ 1000) => bw_write s h h1 h2)
  have hPat := hP.at_
  have hi6 : (Lib.itoa e).length ≤ 25 := itoa_small he
  have HI := Lib.hid (fun l W (h : Bw w l W) => (Tryz.strconv_Itoa e (by omega) (by omega) W (hP.below h.2 hPat)).mono (R' := fun r w' => r = .returned (.string ⟨(Lib.itoa e).toArray⟩) ∧ Bw w l w') fun r w' ⟨hr, k, os, hw⟩ => ⟨hr, by rw [hw]; exact h.below (Lib.below_grow _ _ (Nat.le_refl _) k os)⟩)
  have HS := Lib.hid (fun l W (h : Bw w l W) => (Tryz.Builder_String_any _ _ l W h.1 h.2.size).mono (R' := fun r w' => r = .returned (.string ⟨l.toArray⟩) ∧ Below w.heap.size w w') fun r w' ⟨hr, hb⟩ => ⟨hr, h.2.trans hb⟩)
  have HN := Lib.hid (Bw.new w)
  obtain ⟨T, hT⟩ : ∃ T : ByteArray, ⟨(Lib.itoa e).toArray⟩ = T := ⟨_, rfl⟩
  have hTl : T.data.toList = Lib.itoa e := by rw [← hT]
  have hTs : T.size ≤ 25 := by rw [← blen, hTl]; exact hi6
  obtain ⟨D1, hD1⟩ : ∃ t, cutT D 0 1 = t := ⟨_, rfl⟩
  obtain ⟨D2, hD2⟩ : ∃ t, cutT D 1 D.size = t := ⟨_, rfl⟩
  have hs1 : D1.size = 1 := by rw [← hD1, cutT_size (by omega)]
  have hs2 : D2.size = D.size - 1 := by rw [← hD2, cutT_size (by omega)]
  have sl1 : ∀ W, (Instr.slice 9 (.string D) none (some (.int .i64 1)) none).run Tryz.prog W = .ok (.string D1) W := fun W => by
    rw [run_slice_string_h (w := W) (s := D) (ht := Tryz.underlying9) (h0 := by omega) (h2 := by omega), ← hD1]
    rfl
  have sl2 : ∀ W, (Instr.slice 9 (.string D) (some (.int .i64 1)) none none).run Tryz.prog W = .ok (.string D2) W := fun W => by
    rw [run_slice_string_l (w := W) (s := D) (ht := Tryz.underlying9) (h0 := by omega) (h1 := by omega), ← hD2]
    rfl
  have HX : Hid (wxL D e = D1.data.toList ++ (if 1 < D.size then [46] ++ D2.data.toList else []) ++ [101] ++ T.data.toList) := Lib.hid (by unfold wxL; rw [hD1, hD2, hTl])
  rw [hT] at HI
  clear hT hTl hi6 hP hPat hD1 hD2
  by_cases c : 1 < D.size
  · rw [if_pos c] at HX
    go_enter Tryz.func131, Tryz.ntmps131
    go_wp2_with fail
    refine (HW.out _ _ _ HN.out (by simp) (by omega)).mono ?_
    rintro r w1 ⟨rfl, hb⟩
    have B1 := Lib.hid hb
    clear hb
    go_wp2_with fail
    refine (HW.out _ _ _ B1.out (by simp; omega) (by decide)).mono ?_
    rintro r w2 ⟨rfl, hb⟩
    have B2 := Lib.hid hb
    clear hb
    go_wp2_with fail
    refine (HW.out _ _ _ B2.out (by simp; omega) (by omega)).mono ?_
    rintro r w3 ⟨rfl, hb⟩
    have B3 := Lib.hid hb
    clear hb
    go_wp2_with fail
    refine (HW.out _ _ _ B3.out (by simp; omega) (by decide)).mono ?_
    rintro r w4 ⟨rfl, hb⟩
    have B4 := Lib.hid hb
    clear hb
    go_wp2_with fail
    refine (HI.out _ _ B4.out).mono ?_
    rintro r w5 ⟨rfl, hb⟩
    have B5 := Lib.hid hb
    clear hb
    go_wp2_with fail
    refine (HW.out _ _ _ B5.out (by simp; omega) (by omega)).mono ?_
    rintro r w6 ⟨rfl, hb⟩
    have B6 := Lib.hid hb
    clear hb
    go_wp2_with fail
    refine (HS.out _ _ B6.out).mono ?_
    rintro r w7 ⟨rfl, hb⟩
    go_wp2_with fail
    go_ret
    refine ⟨?_, hb⟩
    rw [HX.out]
    simp
  · rw [if_neg c] at HX
    go_enter Tryz.func131, Tryz.ntmps131
    go_wp2_with fail
    refine (HW.out _ _ _ HN.out (by simp) (by omega)).mono ?_
    rintro r w1 ⟨rfl, hb⟩
    have B1 := Lib.hid hb
    clear hb
    go_wp2_with fail
    refine (HW.out _ _ _ B1.out (by simp; omega) (by decide)).mono ?_
    rintro r w4 ⟨rfl, hb⟩
    have B4 := Lib.hid hb
    clear hb
    go_wp2_with fail
    refine (HI.out _ _ B4.out).mono ?_
    rintro r w5 ⟨rfl, hb⟩
    have B5 := Lib.hid hb
    clear hb
    go_wp2_with fail
    refine (HW.out _ _ _ B5.out (by simp; omega) (by omega)).mono ?_
    rintro r w6 ⟨rfl, hb⟩
    have B6 := Lib.hid hb
    clear hb
    go_wp2_with fail
    refine (HS.out _ _ B6.out).mono ?_
    rintro r w7 ⟨rfl, hb⟩
    go_wp2_with fail
    go_ret
    refine ⟨?_, hb⟩
    rw [HX.out]
    simp

/-- the text of a number -/
def loT (D : ByteArray) (p : Int) : ByteArray :=
  if p < -5 ∨ 21 < p then ⟨(wxL D (p - 1)).toArray⟩ else if p ≤ 0 then ⟨#[48, 46]⟩ ++ zk (-p).toNat ++ D else if (D.size : Int) ≤ p then D ++ zk (p - D.size).toNat ++ ⟨#[46, 48]⟩ else cutT D 0 p.toNat ++ ⟨#[46]⟩ ++ cutT D p.toNat D.size
set_option maxRecDepth 100000 in
set_option maxHeartbeats 4000000 in
theorem layOut_any (D : ByteArray) (p : Int) (w : World) (h0 : 0 < D.size) (hs : D.size ≤ 500) (he : -90000 ≤ p ∧ p ≤ 90000) (hP : Pow10 w) :
    Calls Tryz.prog 85 #[.string D, .int .i64 p] w fun r w' => r = .returned (.string (loT D p)) ∧ Below w.heap.size w w' := by
  have HW := Lib.hid (fun W (hb : Below w.heap.size w W) => (withExp_any D (p - 1) W h0 hs (by omega) (hP.below hb hP.at_)).mono (R' := fun r w' => r = .returned (.string ⟨(wxL D (p - 1)).toArray⟩) ∧ Below w.heap.size w w') fun r w' ⟨hr, h⟩ => ⟨hr, hb.trans (h.mono hb.size)⟩)
  have HZ := Lib.hid (fun z W (h1 : -100000 ≤ z) (h2 : z ≤ 100000) (hb : Below w.heap.size w W) => (zeros_any z W h1 h2).mono (R' := fun r w' => r = .returned (.string (zk z.toNat)) ∧ Below w.heap.size w w') fun r w' ⟨hr, h⟩ => ⟨hr, hb.trans (h.mono hb.size)⟩)
  have HB := Lib.hid (Below.refl w.heap.size w)
  clear hP
  have hz1 := zk_size (-p).toNat
  have hz2 := zk_size (p - D.size).toNat
  by_cases c1 : p < -5 ∨ 21 < p
  · have HL : Hid (loT D p = ⟨(wxL D (p - 1)).toArray⟩) := Lib.hid (by unfold loT; rw [if_pos c1])
    rcases c1 with c | c
    · go_enter Tryz.func85, Tryz.ntmps85
      go_wp2_with fail
      refine (HW.out _ (by first | exact HB.out | exact drew_below HB.out _)).mono ?_
      rintro r w1 ⟨rfl, hb⟩
      go_wp2_with fail
      go_ret
      exact ⟨by rw [HL.out]; rfl, hb⟩
    · go_enter Tryz.func85, Tryz.ntmps85
      go_wp2_with fail
      refine (HW.out _ (by first | exact HB.out | exact drew_below HB.out _)).mono ?_
      rintro r w1 ⟨rfl, hb⟩
      go_wp2_with fail
      go_ret
      exact ⟨by rw [HL.out]; rfl, hb⟩
  · by_cases c2 : p ≤ 0
    · have HL : Hid (loT D p = ⟨#[48, 46]⟩ ++ zk (-p).toNat ++ D) := Lib.hid (by unfold loT; rw [if_neg c1, if_pos c2])
      go_enter Tryz.func85, Tryz.ntmps85
      go_wp2_with fail
      refine (HZ.out _ _ (by omega) (by omega) (by first | exact HB.out | exact drew_below HB.out _)).mono ?_
      rintro r w1 ⟨rfl, hb⟩
      go_wp2_with fail
      go_ret
      exact ⟨by rw [HL.out]; rfl, hb⟩
    · by_cases c3 : (D.size : Int) ≤ p
      · have HL : Hid (loT D p = D ++ zk (p - D.size).toNat ++ ⟨#[46, 48]⟩) := Lib.hid (by unfold loT; rw [if_neg c1, if_neg c2, if_pos c3])
        have HZ2 := Lib.hid (fun W (hb : Below w.heap.size w W) => HZ.out (p - D.size) W (by omega) (by omega) hb)
        obtain ⟨Z, hZ⟩ : ∃ Z, zk (p - D.size).toNat = Z := ⟨_, rfl⟩
        have hZs : Z.size ≤ 100000 := by rw [← hZ, hz2]; omega
        rw [hZ] at HZ2 HL
        clear hZ hz1 hz2
        go_enter Tryz.func85, Tryz.ntmps85
        go_wp2_with fail
        refine (HZ2.out _ (by first | exact HB.out | exact drew_below HB.out _)).mono ?_
        rintro r w1 ⟨rfl, hb⟩
        go_wp2_with fail
        go_ret
        exact ⟨by rw [HL.out]; rfl, hb⟩
      · have HL : Hid (loT D p = cutT D 0 p.toNat ++ ⟨#[46]⟩ ++ cutT D p.toNat D.size) := Lib.hid (by unfold loT; rw [if_neg c1, if_neg c2, if_neg c3])
        obtain ⟨D1, hD1⟩ : ∃ t, cutT D 0 p.toNat = t := ⟨_, rfl⟩
        obtain ⟨D2, hD2⟩ : ∃ t, cutT D p.toNat D.size = t := ⟨_, rfl⟩
        have hs1 : D1.size = p.toNat := by rw [← hD1, cutT_size (by omega)]; omega
        have hs2 : D2.size = D.size - p.toNat := by rw [← hD2, cutT_size (by omega)]
        have sl1 : ∀ W, (Instr.slice 9 (.string D) none (some (.int .i64 p)) none).run Tryz.prog W = .ok (.string D1) W := fun W => by
          rw [run_slice_string_h (w := W) (s := D) (ht := Tryz.underlying9) (h0 := by omega) (h2 := by omega), ← hD1]
          rfl
        have sl2 : ∀ W, (Instr.slice 9 (.string D) (some (.int .i64 p)) none none).run Tryz.prog W = .ok (.string D2) W := fun W => by
          rw [run_slice_string_l (w := W) (s := D) (ht := Tryz.underlying9) (h0 := by omega) (h1 := by omega), ← hD2]
          rfl
        rw [hD1, hD2] at HL
        clear hD1 hD2
        go_enter Tryz.func85, Tryz.ntmps85
        go_wp2_with fail
        go_quiet (fail)
        go_wp2_with fail
        go_ret
        exact ⟨by rw [HL.out]; rfl, by first | exact HB.out | exact drew_below HB.out _⟩

def TxAns (T : ByteArray) (R : Nat) (w : World) (r : Ending) (w' : World) : Prop := r = .returned (.tuple #[.string T, .int .i64 (R : Int)]) ∧ Below w.heap.size w w'
theorem loT_size (D : ByteArray) (p : Int) (h0 : 0 < D.size) (hs : D.size ≤ 500) (he : -90000 ≤ p ∧ p ≤ 90000) : (loT D p).size ≤ 200000 := by
  unfold loT
  split
  · show (wxL D (p - 1)).toArray.size ≤ _
    have h1 := itoa_small (e := p - 1) (by omega)
    have h2 : (cutT D 0 1).size = 1 := by rw [cutT_size (by omega)]
    have h3 : (cutT D 1 D.size).size = D.size - 1 := by rw [cutT_size (by omega)]
    unfold wxL
    rw [List.size_toArray]
    split
    · simp only [List.length_append, blen, List.length_cons, List.length_nil]
      omega
    · simp only [List.length_append, blen, List.length_cons, List.length_nil]
      omega
  · split
    · rw [ByteArray.size_append, ByteArray.size_append, zk_size]
      have : ByteArray.size ⟨#[48, 46]⟩ = 2 := rfl
      omega
    · split
      · rw [ByteArray.size_append, ByteArray.size_append, zk_size]
        have : ByteArray.size ⟨#[46, 48]⟩ = 2 := rfl
        omega
      · rw [ByteArray.size_append, ByteArray.size_append, cutT_size (by omega), cutT_size (by omega)]
        have : ByteArray.size ⟨#[46]⟩ = 1 := rfl
        omega
set_option maxRecDepth 100000 in
set_option maxHeartbeats 2000000 in
theorem text_no (x : Nat) (w : World) (D : ByteArray) (E : Int) (HS : Hid (∀ W, Below w.heap.size w W → Calls Tryz.prog 83 #[.int .u64 (x : Int)] W (ShAns D E 1 W))) :
    Calls Tryz.prog 45 #[.int .u64 (x : Int)] w (TxAns ⟨#[]⟩ 1 w) := by
  have HB := Lib.hid (Below.refl w.heap.size w)
  go_enter Tryz.func45, Tryz.ntmps45
  go_wp2_with fail
  refine (HS.out _ (by first | exact HB.out | exact drew_below HB.out _)).mono ?_
  rintro r w1 ⟨rfl, hb⟩
  go_wp2_with fail
  exact bodyPost_ret (by simp [results, Tryz.results45, go_sem]) rfl ⟨rfl, hb⟩
set_option maxRecDepth 100000 in
set_option maxHeartbeats 4000000 in
theorem text_yes (x : Nat) (w : World) (hx : x < 18446744073709551616) (D : ByteArray) (E : Int) (h0 : 0 < D.size) (hs : D.size ≤ 500) (he : -80000 ≤ E ∧ E ≤ 80000) (hP : Pow10 w)
    (HS : Hid (∀ W, Below w.heap.size w W → Calls Tryz.prog 83 #[.int .u64 (x : Int)] W (ShAns D E 0 W))) :
    Calls Tryz.prog 45 #[.int .u64 (x : Int)] w (TxAns ((if xaS x = true then ⟨#[45]⟩ else ⟨#[]⟩) ++ loT D (D.size + E)) 0 w) := by
  have HB := Lib.hid (Below.refl w.heap.size w)
  have HX := Lib.hid (fun W => fexact_any x W hx)
  unfold XaAns at HX
  have HL := Lib.hid (fun W (hb : Below w.heap.size w W) => (layOut_any D (D.size + E) W h0 hs (by omega) (hP.below hb hP.at_)).mono (R' := fun r w' => r = .returned (.string (loT D (D.size + E))) ∧ Below w.heap.size w w') fun r w' ⟨hr, h⟩ => ⟨hr, hb.trans (h.mono hb.size)⟩)
  have hsz := loT_size D (D.size + E) h0 hs (by omega)
  obtain ⟨T, hT⟩ : ∃ T, loT D (D.size + E) = T := ⟨_, rfl⟩
  rw [hT] at HL hsz ⊢
  generalize xaM x = m at HX
  generalize xaE x = e at HX
  generalize xaO x = o at HX
  generalize xaS x = S at HX ⊢
  clear hT hP hx
  cases S
  all_goals
    go_enter Tryz.func45, Tryz.ntmps45
    go_wp2_with fail
    refine (HS.out _ (by first | exact HB.out | exact drew_below HB.out _)).mono ?_
    rintro r w1 ⟨rfl, hb⟩
    have B1 := Lib.hid hb
    clear hb
    go_wp2_with fail
    refine (HX.out _).mono ?_
    rintro r w2 ⟨rfl, hb⟩
    have B2 := Lib.hid (B1.out.trans (hb.mono B1.out.size))
    clear hb
    go_wp2_with fail
    refine (HL.out _ B2.out).mono ?_
    rintro r w3 ⟨rfl, hb⟩
    have B3 := Lib.hid hb
    clear hb
    go_wp2_with fail
    exact bodyPost_ret (by simp [results, Tryz.results45, go_sem]) rfl ⟨rfl, B3.out⟩
end Go.Proofs.YtljbnnpmnoejeaaGreatDoor.nn
namespace Go.Proofs.YtljbnnpmnoejeaaGreatDoor.nn
open Go.RowKit

/-! digits -/
/-! the new bytes -/
/-- the block g is the bytes f, n of them, as a text's copy lies -/
structure Mk (w0 wr : World) (g n : Nat) (f : Nat → Nat) : Prop where
  blk : ∃ (cur : Array Value) (m : Nat), wr.heap[g]? = some (.cells cur 5 (m, m + 1)) ∧ n ≤ m ∧ n ≤ cur.size ∧ Ints cur .u8 0 n f
  old : w0.heap.size ≤ g
  below : Below w0.heap.size w0 wr
theorem Mk.cell {w0 wr : World} {g n i : Nat} {f : Nat → Nat} (h : Mk w0 wr g n f) (hi : i < n) : wr.cell? ⟨g, i, none⟩ = some (.int .u8 (f i : Int)) ∧ wr.frozen? ⟨g, i, none⟩ = false := by
  obtain ⟨cur, m, hb, hn, hs, hin⟩ := h.blk
  have := hin i hi
  rw [Nat.zero_add] at this
  refine ⟨(cell_of_row wr g i cur _ _ hb).trans this, ?_⟩
  unfold World.frozen?
  rw [hb]
  simp
  omega
theorem Mk.rd {w0 wr : World} {g n : Nat} {f : Nat → Nat} (h : Mk w0 wr g n f) : Rd wr .u8 (some ⟨g, 0, none⟩) n f := fun hn => by
  refine ⟨g, 0, rfl, ?_, fun i hi => by rw [Nat.zero_add]; exact (h.cell hi).1⟩
  obtain ⟨cur, m, hb, _⟩ := h.blk
  exact (Array.getElem?_eq_some_iff.1 hb).1
theorem Mk.new (w : World) (s : ByteArray) (C : Nat) : Mk w ((w.drew.alloc (.cells (bytesRow s C) 5 ((bytesRow s C).size, (bytesRow s C).size + 1)))) w.heap.size s.size (bt s) := by
  have hsz : s.size ≤ (bytesRow s C).size := by
    have h1 : s.data.size = s.size := rfl
    unfold bytesRow
    rw [Array.size_append, Array.size_map, h1]
    omega
  refine ⟨⟨bytesRow s C, (bytesRow s C).size, ?_, hsz, hsz, fun i hi => ?_⟩, Nat.le_refl _, (Below.refl _ _).drew.alloc (Nat.le_refl _) _⟩
  · show (w.heap.push _)[w.heap.size]? = _
    simp
  · rw [Nat.zero_add, bt_at hi]
    unfold bytesRow
    rw [Array.getElem?_append_left (by simp; exact hi)]
    simp
    exact ⟨_, Array.getElem?_eq_getElem hi, rfl⟩

end Go.Proofs.YtljbnnpmnoejeaaGreatDoor.nn
namespace Go.Proofs.YtljbnnpmnoejeaaGreatDoor.nn
open Go.RowKit

theorem rf_ok {s : ByteArray} {z : Int} (h8 : s.size ≤ 800) (h0 : 0 < s.size) (hd : dgs (bt s) s.size = true) (h1 : -2000 ≤ z) (h2 : z ≤ 2000) : rfE s z = 0 := by
  unfold rfE
  rw [if_neg (by omega), hd, decide_eq_true h0, if_neg (by decide), if_neg (by omega)]
end Go.Proofs.YtljbnnpmnoejeaaGreatDoor.nn
namespace Go.Proofs.YtljbnnpmnoejeaaGreatDoor.nn
open Go.RowKit

theorem fe_pos {m : Nat} {e : Int} (hF : Fe m e) : 0 < shN m e := by
  obtain ⟨j, b1, b2, b3, b4, b5, b6⟩ := hF.found
  obtain ⟨a1, a2, a3, a4, a5⟩ := hF.span
  have hp : 10 ^ j ≤ spA m e := by
    unfold j0 at b2
    split at b2
    · exact Nat.le_trans (Nat.pow_le_pow_right (by decide) b2) (by omega)
    · exact Nat.le_trans (Nat.pow_le_pow_right (by decide) b2) (by omega)
  have hp0 : 0 < 10 ^ j := Nat.pow_pos (by decide)
  have hq : 1 * 10 ^ j ≤ spA m e / 10 ^ j * 10 ^ j := Nat.mul_le_mul_right _ ((Nat.le_div_iff_mul_le hp0).2 (by omega))
  generalize spA m e / 10 ^ j * 10 ^ j = L1 at *
  generalize 10 ^ j = L2 at *
  omega
theorem fe_place {m : Nat} {e : Int} (hF : Fe m e) : -500 ≤ spP m e ∧ spP m e ≤ 300 := by
  obtain ⟨q1, q2, q3, q4, q5⟩ := hF
  rw [h52] at q2
  have b1 := (bl_ge (N := m) (by omega)).2
  have b2 : bl m ≤ 53 := bl_le (k := 53) (by omega)
  unfold spP dcm; omega
theorem fe_wide2 {m : Nat} {e : Int} (h : Fe m e) (hA18 : 1000000000000000000 ≤ spA m e) : spF m e + 99 ≤ spL m e := by
  obtain ⟨h0, _, _⟩ := h.ends
  obtain ⟨q1, q2, q3, q4, q5⟩ := h
  obtain ⟨X, hX⟩ : ∃ X, spX m e = X := ⟨_, rfl⟩
  obtain ⟨Y, hY⟩ : ∃ Y, spY m e = Y := ⟨_, rfl⟩
  have hF : spF m e ≤ (4 * m - spB m e) * X / Y + 1 := by unfold spF; rw [hX, hY]; split <;> omega
  have hL : (4 * m + 2) * X / Y ≤ spL m e + 1 := by unfold spL; rw [hX, hY]; split <;> omega
  have hA : spA m e = 4 * m * X / Y := by unfold spA; rw [hX, hY]
  rw [hY] at h0
  rw [hA] at hA18
  have h1 := (Nat.le_div_iff_mul_le h0).1 hA18
  have hX0 : 111 * Y ≤ 4 * X := by
    have : 4 * m * X ≤ 9007199254740992 * (4 * X) := by
      rw [Nat.mul_comm 4 m, Nat.mul_assoc]
      exact Nat.mul_le_mul_right _ (by rw [h52] at q2; omega)
    omega
  have add : ∀ q k c, c * Y ≤ k * X → q * X / Y + c ≤ (q + k) * X / Y := fun q k c hc => by
    rw [Nat.add_mul, ← Nat.add_mul_div_right _ _ h0]
    exact Nat.div_le_div_right (by omega)
  by_cases c : m = 4503599627370496 ∧ -1074 < e
  · have hB : spB m e = 1 := if_pos c
    rw [hB] at hF
    have hm := c.1
    have : 150 * Y ≤ 3 * X := by
      have : 4 * m * X = 4503599627370496 * (4 * X) := by rw [hm, Nat.mul_comm 4, Nat.mul_assoc]
      omega
    have k2 := add (4 * m - 1) 3 111 (by omega)
    rw [show 4 * m - 1 + 3 = 4 * m + 2 by omega] at k2
    omega
  · have hB : spB m e = 2 := if_neg c
    rw [hB] at hF
    have k2 := add (4 * m - 2) 4 111 (by omega)
    rw [show 4 * m - 2 + 4 = 4 * m + 2 by omega] at k2
    omega
theorem fe_17 {m : Nat} {e : Int} (hF : Fe m e) {t V : Nat} (d1 : (Lib.decDigits (shN m e)).length = (shL m e).length + t) (d2 : shN m e = V * 10 ^ t) (d3 : V % 10 ≠ 0) : (shL m e).length ≤ 17 := by
  obtain ⟨j, b1, b2, b3, b4, b5, b6⟩ := hF.found
  obtain ⟨a1, a2, a3, a4, a5⟩ := hF.span
  have hN0 := fe_pos hF
  have hd : ∃ c, shN m e = c * 10 ^ j := by
    rcases b5 with g | g
    · exact ⟨_, g⟩
    · exact ⟨spA m e / 10 ^ j + 1, by rw [g, Nat.add_mul, Nat.one_mul]⟩
  obtain ⟨c, hc⟩ := hd
  have div10 : shN m e % 10 = 0 := by
    obtain ⟨i, rfl⟩ : ∃ i, j = i + 1 := ⟨j - 1, by omega⟩
    rw [hc, Nat.pow_succ, ← Nat.mul_assoc]
    omega
  have ht1 : 1 ≤ t := by
    rcases Nat.eq_zero_or_pos t with rfl | g
    · rw [Nat.pow_zero, Nat.mul_one] at d2; omega
    · exact g
  rw [Lib.decDigits_length] at d1
  by_cases h18 : shN m e < 1000000000000000000
  · have := nd_le 18 (shN m e) (by decide) (by rw [show (10 : Nat) ^ 18 = 1000000000000000000 by decide]; exact h18)
    omega
  · have hnd := nd_le 19 (shN m e) (by decide) (by rw [show (10 : Nat) ^ 19 = 10000000000000000000 by decide]; omega)
    have div100 : shN m e % 100 = 0 := by
      by_cases hA : 1000000000000000000 ≤ spA m e
      · have hw := fe_wide2 hF hA
        have hj2 : 2 ≤ j := by
          rcases (by omega : 2 ≤ j ∨ j < 2) with g | g
          · exact g
          · exfalso
            refine b6 2 g (by have := j0_le (spA m e); omega) ((spF m e + 99) / 100) ?_
            rw [show (10 : Nat) ^ 2 = 100 by decide]
            omega
        obtain ⟨i, rfl⟩ : ∃ i, j = i + 2 := ⟨j - 2, by omega⟩
        rw [hc, Nat.pow_add, ← Nat.mul_assoc, show (10 : Nat) ^ 2 = 100 by decide]
        omega
      · have hj17 : j ≤ 17 := by have hb := b2; unfold j0 at hb; rw [if_neg hA] at hb; exact hb
        have e1 : (10 : Nat) ^ 18 = 10 ^ (18 - j) * 10 ^ j := by rw [← Nat.pow_add, show 18 - j + j = 18 by omega]
        have h1 : spA m e / 10 ^ j < 10 ^ (18 - j) := by
          rw [Nat.div_lt_iff_lt_mul (Nat.pow_pos (by decide)), ← e1]
          omega
        have h2 : (spA m e / 10 ^ j + 1) * 10 ^ j ≤ 10 ^ (18 - j) * 10 ^ j := Nat.mul_le_mul_right _ h1
        rw [← e1, Nat.add_mul, Nat.one_mul, show (10 : Nat) ^ 18 = 1000000000000000000 by decide] at h2
        have : shN m e ≤ 1000000000000000000 := by
          rcases b5 with g | g
          · rw [g]; exact Nat.le_trans (Nat.le_add_right _ _) h2
          · rw [g]; exact h2
        omega
    have ht2 : 2 ≤ t := by
      rcases (by omega : t = 1 ∨ 2 ≤ t) with rfl | g
      · rw [Nat.pow_one] at d2; omega
      · exact g
    omega
end Go.Proofs.YtljbnnpmnoejeaaGreatDoor.nn
namespace Go.Proofs.YtljbnnpmnoejeaaGreatDoor.nn
open Go.RowKit

/-- what the document's ratio answers -/
def fA (m : Nat) (e : Int) : Nat := m * 2 ^ e.toNat
def fB (e : Int) : Nat := 2 ^ (-e).toNat
/-- and its scale -/
def scX (a : Nat) (z : Int) : Nat := a * 10 ^ (-z).toNat
def scY (b : Nat) (z : Int) : Nat := b * 10 ^ z.toNat
theorem scY_pos {b : Nat} (h : 0 < b) (z : Int) : 0 < scY b z := Nat.mul_pos h (Nat.pow_pos (by decide))
theorem fB_pos (e : Int) : 0 < fB e := Nat.two_pow_pos _
theorem scale_eq (m : Nat) (e : Int) (j : Nat) {z : Int} (hz : z = spP m e + (j : Int)) : scX (fA m e) z * (spY m e * 10 ^ j) = 4 * m * spX m e * scY (fB e) z := by
  have hX : spX m e = 10 ^ (-(spP m e)).toNat * 2 ^ (e - 2).toNat := rfl
  have hY : spY m e = 10 ^ (spP m e).toNat * 2 ^ (-(e - 2)).toNat := rfl
  rw [hX, hY]
  unfold scX scY fA fB
  generalize spP m e = p at *
  subst hz
  have e2 : 2 ^ e.toNat * 2 ^ (-(e - 2)).toNat = 4 * 2 ^ (e - 2).toNat * 2 ^ (-e).toNat := by
    rw [show (4 : Nat) = 2 ^ 2 by decide, ← Nat.pow_add, ← Nat.pow_add, ← Nat.pow_add]
    refine congrArg (2 ^ ·) ?_
    omega
  have e10 : 10 ^ (-(p + (j : Int))).toNat * 10 ^ p.toNat * 10 ^ j = 10 ^ (-p).toNat * 10 ^ (p + (j : Int)).toNat := by
    rw [← Nat.pow_add, ← Nat.pow_add, ← Nat.pow_add]
    refine congrArg (10 ^ ·) ?_
    omega
  generalize 2 ^ e.toNat = u1 at *
  generalize 2 ^ (-(e - 2)).toNat = u2 at *
  generalize 2 ^ (e - 2).toNat = u3 at *
  generalize 2 ^ (-e).toNat = u4 at *
  generalize 10 ^ (-(p + (j : Int))).toNat = t1 at *
  generalize 10 ^ p.toNat = t2 at *
  generalize 10 ^ j = t3 at *
  generalize 10 ^ (-p).toNat = t4 at *
  generalize 10 ^ (p + (j : Int)).toNat = t5 at *
  rw [show m * u1 * t1 * (t2 * u2 * t3) = m * (u1 * u2) * (t1 * t2 * t3) by ac_rfl, e2, e10]
  ac_rfl
/-- the same quotient, otherwise written -/
theorem same_ratio {x y X Y : Nat} (hy : 0 < y) (hY : 0 < Y) (h : x * Y = X * y) : x / y = X / Y ∧ cm (x % y * 2) y = cm (X % Y * 2) Y ∧ (x < y ↔ X < Y) := by
  have hq : x / y = X / Y := by rw [← Nat.mul_div_mul_right x y hY, h, Nat.mul_comm y Y, Nat.mul_div_mul_right X Y hy]
  have hr : x % y * Y = X % Y * y := by rw [← Nat.mul_mod_mul_right, h, Nat.mul_comm y Y, Nat.mul_mod_mul_right]
  have lt : ∀ a b : Nat, a * Y = b * y → (a < y ↔ b < Y) ∧ (a = y ↔ b = Y) := fun a b g => by
    constructor
    · constructor
      · intro k
        have := Nat.mul_lt_mul_of_pos_right k hY
        rw [g, Nat.mul_comm y Y] at this
        exact Nat.lt_of_mul_lt_mul_right this
      · intro k
        have := Nat.mul_lt_mul_of_pos_right k hy
        rw [← g, Nat.mul_comm Y y] at this
        exact Nat.lt_of_mul_lt_mul_right this
    · constructor
      · intro k
        rw [k, Nat.mul_comm] at g
        exact (Nat.eq_of_mul_eq_mul_right hy g).symm
      · intro k
        rw [k, Nat.mul_comm Y y] at g
        exact Nat.eq_of_mul_eq_mul_right hY g
  refine ⟨hq, ?_, (lt x X h).1⟩
  obtain ⟨l1, l2⟩ := lt (x % y * 2) (X % Y * 2) (by rw [Nat.mul_right_comm, hr, Nat.mul_right_comm])
  unfold cm
  by_cases c1 : X % Y * 2 < Y
  · rw [if_pos c1, if_pos (l1.2 c1)]
  · rw [if_neg c1, if_neg (fun g => c1 (l1.1 g))]
    by_cases c2 : X % Y * 2 = Y
    · rw [if_pos c2, if_pos (l2.2 c2)]
    · rw [if_neg c2, if_neg (fun g => c2 (l2.1 g))]
/-- which of two is taken -/
theorem doc_half {W Y P h : Nat} (hY : 0 < Y) (hP : P = 2 * h) (h0 : 0 < h) : W / (Y * P) = W / Y / P ∧ ((0 < cm (W % (Y * P) * 2) (Y * P) ∨ (cm (W % (Y * P) * 2) (Y * P) = 0 ∧ W / Y / P % 2 = 1)) ↔ iu (W / Y) (decide (0 < W % Y)) (W / Y / P * P) P = true) := by
  refine ⟨(Nat.div_div_eq_div_mul W Y P).symm, ?_⟩
  rw [Nat.mod_mul]
  have hr := Nat.mod_lt W hY
  obtain ⟨r, hr0⟩ : ∃ r, W % Y = r := ⟨_, rfl⟩
  obtain ⟨A, hA⟩ : ∃ A, W / Y = A := ⟨_, rfl⟩
  rw [hr0] at hr ⊢
  rw [hA]
  have hP0 : 0 < P := by omega
  have hu := Nat.mod_lt A hP0
  have hd := Nat.div_add_mod A P
  rw [Nat.mul_comm] at hd
  have hq : A / P * P / P = A / P := Nat.mul_div_cancel _ hP0
  unfold iu
  rw [hq]
  obtain ⟨u, hu0⟩ : ∃ u, A % P = u := ⟨_, rfl⟩
  obtain ⟨q, hq0⟩ : ∃ q, A / P = q := ⟨_, rfl⟩
  rw [hu0] at hu hd ⊢
  rw [hq0] at hd ⊢
  obtain ⟨B, hB⟩ : ∃ B, q * P = B := ⟨_, rfl⟩
  rw [hB] at hd ⊢
  have e1 : A - B = u := by omega
  have e2 : B + P - A = P - u := by omega
  rw [e1, e2]
  have eP : Y * P = 2 * (Y * h) := by rw [hP, ← Nat.mul_assoc, Nat.mul_comm Y 2, Nat.mul_assoc]
  rw [eP]
  rcases Nat.lt_trichotomy u h with g | g | g
  · have h1 : Y * (u + 1) ≤ Y * h := Nat.mul_le_mul_left _ g
    rw [Nat.mul_add, Nat.mul_one] at h1
    rw [cm_lt (by omega), if_neg (by omega), decide_eq_false (by omega)]
    simp
  · subst g
    rw [if_pos (by omega)]
    by_cases c : r = 0
    · subst c
      rw [cm_eq (by omega), if_neg (by simp)]
      simp
    · rw [cm_gt (by omega), if_pos (decide_eq_true (by omega))]
      simp
  · have h1 : Y * (h + 1) ≤ Y * u := Nat.mul_le_mul_left _ g
    rw [Nat.mul_add, Nat.mul_one] at h1
    rw [cm_gt (by omega), if_neg (by omega), decide_eq_true (by omega)]
    simp
/-- what the document's try takes of q and q + 1 -/
def tqN (q : Nat) (low top : Bool) (c : Int) : Option Nat := if low = false ∧ top = false then none else if top = true ∧ (low = false ∨ 0 < c ∨ (c = 0 ∧ q % 2 = 1)) then some (q + 1) else some q
theorem tq_cd {A F L P q : Nat} {mo low top : Bool} {c : Int} (hP : 0 < P) (hq : A / P = q) (hF : F ≤ A + 1) (hL : A ≤ L) (hl : (F ≤ q * P ∧ q * P ≤ L) ↔ low = true) (ht : (F ≤ (q + 1) * P ∧ (q + 1) * P ≤ L) ↔ top = true)
    (hc : (0 < c ∨ (c = 0 ∧ q % 2 = 1)) ↔ iu A mo (A / P * P) P = true) : cd A mo F L P = (tqN q low top c).map (· * P) := by
  have h1 := Nat.div_mul_le_self A P
  have h2 : A < A / P * P + P := by have h3 := Nat.div_add_mod A P; have := Nat.mod_lt A hP; rw [Nat.mul_comm] at h3; omega
  unfold cd
  rw [hq] at h1 h2 hc ⊢
  have e : (q + 1) * P = q * P + P := by rw [Nat.add_mul, Nat.one_mul]
  rw [e] at ht
  unfold tqN
  obtain ⟨B, hB⟩ : ∃ B, q * P = B := ⟨_, rfl⟩
  rw [hB] at h1 h2 hl ht hc ⊢
  have hl2 : F ≤ B ↔ low = true := by rw [← hl]; omega
  have ht2 : B + P ≤ L ↔ top = true := by rw [← ht]; omega
  have hl3 : B < F ↔ low = false := by
    rw [show low = false ↔ ¬ low = true by cases low <;> simp, ← hl2]; omega
  by_cases c1 : top = true ∧ (low = false ∨ 0 < c ∨ (c = 0 ∧ q % 2 = 1))
  · rw [if_pos c1, if_pos ⟨ht2.2 c1.1, c1.2.elim (fun g => .inl (hl3.2 g)) (fun g => .inr (hc.1 g))⟩, if_neg (by rintro ⟨_, g⟩; rw [c1.1] at g; cases g), Option.map_some, e, hB]
  · rw [if_neg c1, if_neg (fun ⟨g1, g2⟩ => c1 ⟨ht2.1 g1, g2.elim (fun g => .inl (hl3.1 g)) (fun g => .inr (hc.2 g))⟩)]
    by_cases c2 : F ≤ B
    · rw [if_pos c2, if_neg (by rintro ⟨g, _⟩; rw [hl2.1 c2] at g; cases g), Option.map_some, hB]
    · have hlf : low = false := hl3.1 (by omega)
      rw [if_neg c2, if_pos ⟨hlf, by
        cases ht3 : top with
        | false => rfl
        | true => exact absurd ⟨ht3, .inl hlf⟩ c1⟩, Option.map_none]

/-- a over b is below 10^z -/
def lt10 (a b : Nat) (z : Int) : Prop := scX a z < scY b z
theorem lt10_iff (a b : Nat) {z : Int} {i k : Nat} (h : z = (i : Int) - (k : Int)) : lt10 a b z ↔ a * 10 ^ k < b * 10 ^ i := by
  obtain ⟨c, h1, h2⟩ : ∃ c, i = z.toNat + c ∧ k = (-z).toNat + c := ⟨i - z.toNat, by omega⟩
  unfold lt10 scX scY
  rw [h1, h2, Nat.pow_add, Nat.pow_add, ← Nat.mul_assoc, ← Nat.mul_assoc]
  exact ⟨fun g => Nat.mul_lt_mul_of_pos_right g (Nat.pow_pos (by decide)), fun g => Nat.lt_of_mul_lt_mul_right g⟩
theorem lt10_mono {a b : Nat} {z y : Int} (h : z ≤ y) (g : lt10 a b z) : lt10 a b y := by
  obtain ⟨d, rfl⟩ : ∃ d : Nat, y = z + (d : Int) := ⟨(y - z).toNat, by omega⟩
  rw [lt10_iff a b (show z = (z.toNat : Int) - ((-z).toNat : Int) by omega)] at g
  rw [lt10_iff a b (show z + (d : Int) = ((z.toNat + d : Nat) : Int) - ((-z).toNat : Int) by omega), Nat.pow_add, ← Nat.mul_assoc]
  exact Nat.lt_of_lt_of_le g (Nat.le_mul_of_pos_right _ (Nat.pow_pos (by decide)))
/-- the power of ten of the first digit -/
def kk (m : Nat) (e : Int) : Int := spP m e + (j0 (spA m e) : Int)
theorem kk_is {m : Nat} {e : Int} (h : Fe m e) : ¬ lt10 (fA m e) (fB e) (kk m e) ∧ lt10 (fA m e) (fB e) (kk m e + 1) := by
  obtain ⟨h0, h1, h2⟩ := h.ends
  obtain ⟨a1, a2, a3, a4, a5⟩ := h.span
  have hp : ∀ j : Nat, (lt10 (fA m e) (fB e) (spP m e + (j : Int)) ↔ spA m e < 10 ^ j) := fun j => by
    obtain ⟨_, _, r3⟩ := same_ratio (scY_pos (fB_pos e) (spP m e + (j : Int))) (Nat.mul_pos h0 (Nat.pow_pos (n := j) (by decide))) (scale_eq m e j rfl)
    unfold lt10
    rw [r3]
    unfold spA
    rw [Nat.div_lt_iff_lt_mul h0, Nat.mul_comm (spY m e)]
  unfold kk
  have e1 : spP m e + (j0 (spA m e) : Int) + 1 = spP m e + ((j0 (spA m e) + 1 : Nat) : Int) := by omega
  rw [e1, hp, hp]
  unfold j0
  split
  · rw [show (10 : Nat) ^ 18 = 1000000000000000000 by decide, show (10 : Nat) ^ (18 + 1) = 10000000000000000000 by decide]; omega
  · rw [show (10 : Nat) ^ 17 = 100000000000000000 by decide, show (10 : Nat) ^ (17 + 1) = 1000000000000000000 by decide]; omega
/-- where the document's high begins, of as many bits -/
def h0z (d : Int) : Int := (d * 30103).tdiv 100000 - 2
def hzOk (d : Int) : Bool :=
  let z := h0z d
  Nat.ble (2 ^ (-d).toNat * 10 ^ z.toNat) (2 ^ d.toNat * 10 ^ (-z).toNat) && Nat.ble (2 ^ (d + 1).toNat * 10 ^ (-(z + 7)).toNat) (2 ^ (-(d + 1)).toNat * 10 ^ (z + 7).toNat) && decide (-400 ≤ z) && decide (z ≤ 400)
def hzAll : Nat → Bool | 0 => true | n + 1 => hzOk ((n : Int) - 1074) && hzAll n
theorem hzAll_true : hzAll 2100 = true := by decide +kernel
theorem hzAll_at : ∀ n, hzAll n = true → ∀ j : Nat, j < n → hzOk ((j : Int) - 1074) = true := fun n => by
  induction n with
  | zero => intro _ k h1; omega
  | succ n ih =>
    intro h k h1
    rw [hzAll, Bool.and_eq_true] at h
    rcases (by omega : k = n ∨ k < n) with rfl | g
    · exact h.1
    · exact ih h.2 k g
theorem kk_near {m : Nat} {e : Int} (h : Fe m e) : h0z ((bl m : Int) - 1 + e) ≤ kk m e ∧ kk m e ≤ h0z ((bl m : Int) - 1 + e) + 6 ∧ -400 ≤ h0z ((bl m : Int) - 1 + e) ∧ h0z ((bl m : Int) - 1 + e) ≤ 400 := by
  obtain ⟨k1, k2⟩ := kk_is h
  obtain ⟨q1, q2, q3, q4, q5⟩ := h
  rw [h52] at q2
  obtain ⟨b1, b2⟩ := bl_ge (N := m) (by omega)
  have b3 : bl m ≤ 53 := bl_le (k := 53) (by omega)
  have b4 := bl_lt m
  have ok := hzAll_at 2100 hzAll_true ((bl m : Int) - 1 + e + 1074).toNat (by omega)
  rw [show ((((bl m : Int) - 1 + e + 1074).toNat : Nat) : Int) - 1074 = (bl m : Int) - 1 + e by omega] at ok
  unfold hzOk at ok
  simp only [Bool.and_eq_true, decide_eq_true_eq] at ok
  obtain ⟨⟨⟨o1, o2⟩, o3⟩, o4⟩ := ok
  have o1 := Nat.le_of_ble_eq_true o1
  have o2 := Nat.le_of_ble_eq_true o2
  obtain ⟨d, hd⟩ : ∃ d, (bl m : Int) - 1 + e = d := ⟨_, rfl⟩
  rw [hd] at o1 o2 o3 o4 ⊢
  generalize h0z d = z at *
  -- 2^d ≤ a / b < 2^(d+1)
  have c1 : 2 ^ d.toNat * fB e ≤ fA m e * 2 ^ (-d).toNat := by
    unfold fA fB
    have : 2 ^ (bl m - 1) * 2 ^ e.toNat * 2 ^ (-d).toNat = 2 ^ d.toNat * 2 ^ (-e).toNat := by
      rw [← Nat.pow_add, ← Nat.pow_add, ← Nat.pow_add]
      refine congrArg (2 ^ ·) ?_
      omega
    rw [← this]
    exact Nat.mul_le_mul_right _ (Nat.mul_le_mul_right _ b1)
  have c2 : fA m e * 2 ^ (-(d + 1)).toNat < 2 ^ (d + 1).toNat * fB e := by
    unfold fA fB
    have : 2 ^ bl m * 2 ^ e.toNat * 2 ^ (-(d + 1)).toNat = 2 ^ (d + 1).toNat * 2 ^ (-e).toNat := by
      rw [← Nat.pow_add, ← Nat.pow_add, ← Nat.pow_add]
      refine congrArg (2 ^ ·) ?_
      omega
    rw [← this]
    exact Nat.mul_lt_mul_of_pos_right (Nat.mul_lt_mul_of_pos_right b4 (Nat.two_pow_pos _)) (Nat.two_pow_pos _)
  have z1 : ¬ lt10 (fA m e) (fB e) z := by
    unfold lt10 scX scY
    intro g
    have p1 : 0 < 2 ^ (-d).toNat := Nat.two_pow_pos _
    have g1 := Nat.mul_lt_mul_of_pos_right g p1
    have g2 := Nat.mul_le_mul_right (10 ^ (-z).toNat) c1
    have g3 := Nat.mul_le_mul_right (fB e) o1
    generalize 10 ^ (-z).toNat = t1 at *
    generalize 10 ^ z.toNat = t2 at *
    generalize 2 ^ (-d).toNat = u1 at *
    generalize 2 ^ d.toNat = u2 at *
    generalize fA m e = a at *
    generalize fB e = b at *
    rw [show a * t1 * u1 = a * u1 * t1 by ac_rfl] at g1
    rw [show u1 * t2 * b = b * t2 * u1 by ac_rfl, show u2 * t1 * b = u2 * b * t1 by ac_rfl] at g3
    omega
  have z2 : lt10 (fA m e) (fB e) (z + 7) := by
    unfold lt10 scX scY
    have p1 : 0 < 2 ^ (-(d + 1)).toNat := Nat.two_pow_pos _
    have p2 : 0 < 10 ^ (-(z + 7)).toNat := Nat.pow_pos (by decide)
    refine Nat.lt_of_mul_lt_mul_right (a := 2 ^ (-(d + 1)).toNat) ?_
    have g2 := Nat.mul_lt_mul_of_pos_right c2 p2
    have g3 := Nat.mul_le_mul_right (fB e) o2
    generalize 10 ^ (-(z + 7)).toNat = t1 at *
    generalize 10 ^ (z + 7).toNat = t2 at *
    generalize 2 ^ (-(d + 1)).toNat = u1 at *
    generalize 2 ^ (d + 1).toNat = u2 at *
    generalize fA m e = a at *
    generalize fB e = b at *
    rw [show a * t1 * u1 = a * u1 * t1 by ac_rfl]
    rw [show u1 * t2 * b = b * t2 * u1 by ac_rfl, show u2 * t1 * b = u2 * b * t1 by ac_rfl] at g3
    omega
  refine ⟨?_, ?_, o3, o4⟩
  · rcases (by omega : kk m e < z ∨ z ≤ kk m e) with g | g
    · exact absurd (lt10_mono (by omega) k2) z1
    · exact g
  · rcases (by omega : z + 6 < kk m e ∨ kk m e ≤ z + 6) with g | g
    · exact absurd (lt10_mono (by omega) z2) k1
    · exact g
theorem fa_bits {m : Nat} {e : Int} (h0 : m ≠ 0) : (bl (fA m e) : Int) - (bl (fB e) : Int) = (bl m : Int) - 1 + e := by
  unfold fA fB
  rw [bl_mul h0, ← Nat.one_mul (2 ^ (-e).toNat), bl_mul (by decide), show bl 1 = 1 by decide]
  omega

/-- the digits of what has zeros behind -/
theorem trimR_rep (l : List UInt8) (c : UInt8) (j : Nat) : Lib.trimRightB (l ++ List.replicate j c) c = Lib.trimRightB l c := by
  unfold Lib.trimRightB
  rw [List.reverse_append, List.reverse_replicate]
  congr 1
  induction j with
  | zero => rfl
  | succ j ih => rw [List.replicate_succ, List.cons_append, List.dropWhile_cons_of_pos (by simp)]; exact ih
theorem dec_zeros {q : Nat} (h : 0 < q) (j : Nat) : Lib.decDigits (q * 10 ^ j) = Lib.decDigits q ++ List.replicate j 48 := by
  have := dec_join j q 0 (by omega) (Nat.pow_pos (by decide))
  rw [Nat.add_zero, fw_zero] at this
  exact this
theorem trim_cut {x n : Nat} (h0 : 0 < x) (h1 : 1 ≤ n) (hn : n ≤ (Lib.decDigits x).length) (hz : ∀ i, n ≤ i → i < (Lib.decDigits x).length → bt ⟨(Lib.decDigits x).toArray⟩ i = 48) (hl : n = 1 ∨ bt ⟨(Lib.decDigits x).toArray⟩ (n - 1) ≠ 48) :
    cutT ⟨(Lib.decDigits x).toArray⟩ 0 n = ⟨(Lib.trimRightB (Lib.decDigits x) 48).toArray⟩ ∧ n = (Lib.trimRightB (Lib.decDigits x) 48).length := by
  obtain ⟨t, h2, _⟩ := trimR_split (Lib.decDigits x) 48
  obtain ⟨_, V, d1, d2, d3, d4, d5, d6, d7, d8⟩ := sh_digits h0 (Lib.trimRightB (Lib.decDigits x) 48) rfl
  generalize Lib.trimRightB (Lib.decDigits x) 48 = l at *
  generalize Lib.decDigits x = d at *
  have hlen : d.length = l.length + t := by rw [h2, List.length_append, List.length_replicate]
  have sd : ByteArray.size ⟨d.toArray⟩ = d.length := List.size_toArray
  have sl : ByteArray.size ⟨l.toArray⟩ = l.length := List.size_toArray
  have lo : ∀ i, i < l.length → bt ⟨d.toArray⟩ i = bt ⟨l.toArray⟩ i := fun i hi => by rw [bt_lf d i (by omega), bt_lf l i hi, h2, lf_lo hi]
  have hi : ∀ i, l.length ≤ i → i < d.length → bt ⟨d.toArray⟩ i = 48 := fun i h3 h4 => by
    rw [bt_lf d i h4]
    unfold lf_
    rw [List.getD_eq_getElem?_getD, h2, List.getElem?_append_right h3, List.getElem?_replicate, if_pos (by omega)]
    rfl
  have e : n = l.length := by
    rcases Nat.lt_trichotomy n l.length with g | g | g
    · have := hz (l.length - 1) (by omega) (by omega)
      rw [lo _ (by omega)] at this
      exact absurd this d8
    · exact g
    · rcases hl with rfl | hl
      · omega
      · exact absurd (hi (n - 1) (by omega) (by omega)) hl
  refine ⟨?_, e⟩
  have cs : (cutT ⟨d.toArray⟩ 0 n).size = n := by rw [cutT_size (by rw [sd]; exact hn)]; omega
  refine fba_ext (by rw [cs, sl, e]) fun i hi2 => ?_
  rw [cs] at hi2
  rw [bt_cutT (by rw [sd]; exact hn) (by omega), Nat.zero_add, lo i (by omega)]
end Go.Proofs.YtljbnnpmnoejeaaGreatDoor.nn
