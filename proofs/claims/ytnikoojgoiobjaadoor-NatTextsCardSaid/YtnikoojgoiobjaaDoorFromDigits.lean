/- The walks of areDigits and FromDigits: the number of decimal digits. -/
import Derived.Test.YtnikoojgoiobjaaDoorTimesPlus
import Derived.Test.YtnikoojgoiobjaaDoorNarrow
import Derived.Lib.MinMax
namespace Go.Proofs.YtnikoojgoiobjaaDoor.nn
open Go.RowKit

/-- byte i of a text -/
def bt (s : ByteArray) (i : Nat) : Nat := if h : i < s.size then s[i].toNat else 0
theorem bt_at {s : ByteArray} {i : Nat} (h : i < s.size) : bt s i = s[i].toNat := dif_pos h
theorem bt_lt (s : ByteArray) (i : Nat) : bt s i < 256 := by
  unfold bt
  split
  · exact s[i].toNat_lt
  · omega

def dg (x : Nat) : Bool := decide (48 ≤ x ∧ x ≤ 57)
/-- the first n bytes are digits -/
def dgs (f : Nat → Nat) : Nat → Bool
  | 0 => true
  | n + 1 => dgs f n && dg (f n)
/-- the number of n digits -/
def dv (f : Nat → Nat) : Nat → Nat
  | 0 => 0
  | n + 1 => dv f n * 10 + (f n - 48)
theorem dgs_mono {f : Nat → Nat} {n m : Nat} (h : dgs f n = true) (hm : m ≤ n) : dgs f m = true := by
  induction n with
  | zero => obtain rfl : m = 0 := by omega
            rfl
  | succ n ih =>
    by_cases e : m = n + 1
    · subst e; exact h
    · rw [dgs, Bool.and_eq_true] at h; exact ih h.1 (by omega)
theorem dgs_at {f : Nat → Nat} {n i : Nat} (h : dgs f n = true) (hi : i < n) : 48 ≤ f i ∧ f i ≤ 57 := by
  have := dgs_mono h (show i + 1 ≤ n by omega)
  rw [dgs, Bool.and_eq_true] at this
  exact of_decide_eq_true this.2
theorem dv_lt {f : Nat → Nat} {n : Nat} (h : dgs f n = true) : dv f n < 10 ^ n := by
  induction n with
  | zero => exact Nat.zero_lt_one
  | succ n ih =>
    have h1 := ih (dgs_mono h (by omega))
    have h2 := dgs_at h (Nat.lt_succ_self n)
    rw [dv, Nat.pow_succ]
    omega
theorem dv_add (f : Nat → Nat) (a n : Nat) : dv f (a + n) = dv f a * 10 ^ n + dv (fun i => f (a + i)) n := by
  induction n with
  | zero => simp [dv]
  | succ n ih =>
    rw [← Nat.add_assoc, dv, dv, ih, Nat.pow_succ, Nat.add_mul, Nat.mul_assoc, Nat.add_assoc]
theorem dgs_add {f : Nat → Nat} {a n : Nat} (h : dgs f (a + n) = true) : dgs (fun i => f (a + i)) n = true := by
  induction n with
  | zero => rfl
  | succ n ih =>
    rw [← Nat.add_assoc, dgs, Bool.and_eq_true] at h
    rw [dgs, ih h.1]
    exact h.2
theorem dgs_congr {f g : Nat → Nat} {n : Nat} (h : ∀ i, i < n → f i = g i) : dgs f n = dgs g n := by
  induction n with
  | zero => rfl
  | succ n ih => rw [dgs, dgs, ih fun i hi => h i (by omega), h n (by omega)]
theorem dv_congr {f g : Nat → Nat} {n : Nat} (h : ∀ i, i < n → f i = g i) : dv f n = dv g n := by
  induction n with
  | zero => rfl
  | succ n ih => rw [dv, dv, ih fun i hi => h i (by omega), h n (by omega)]

set_option maxRecDepth 100000 in
set_option maxHeartbeats 1000000 in
theorem areDigits_any (s : ByteArray) (w : World) (hs : s.size ≤ maxLen) :
    Calls Tryd.prog 20 #[.string s] w fun r w' => r = .returned (.bool (dgs (bt s) s.size && decide (0 < s.size))) ∧ w = w' := by
  unfold maxLen at hs
  go_enter Tryd.func20, Tryd.ntmps20
  go_wp2
  go_loop [6] (fun s6 => ∃ i : Nat, i ≤ s.size ∧ s6 = .int .i64 (i : Int) ∧ Hid (dgs (bt s) i = true)) (fun s6 => s.size - (intOf s6).toNat)
  case atStart => exact ⟨0, Nat.zero_le _, rfl, Lib.hid rfl⟩
  case round =>
    obtain ⟨i, hi, rfl, hd⟩ := hrel
    by_cases hlt : i < s.size
    · have hx := bt_at hlt
      obtain ⟨x, hxx⟩ : ∃ x, s[i].toNat = x := ⟨_, rfl⟩
      have hx256 : x < 256 := by rw [← hxx]; exact s[i].toNat_lt
      rw [hxx] at hx
      by_cases hy : 48 ≤ x ∧ x ≤ 57
      · have HD : Hid (dgs (bt s) (i + 1) = true) := Lib.hid (by rw [dgs, hd.out, hx]; exact decide_eq_true hy)
        obtain ⟨h1, h2⟩ := hy
        clear hx
        go_wp2
        go_round
        case rel => exact ⟨i + 1, by omega, by go_num, HD⟩
        case measure => simp [intOf]; omega
      · have HD : Hid ((dgs (bt s) s.size && decide (0 < s.size)) = false) := Lib.hid (by
          cases hh : dgs (bt s) s.size with
          | false => rfl
          | true => have := dgs_at hh hlt; rw [hx] at this; exact absurd this hy)
        clear hx
        by_cases h1 : 48 ≤ x
        · have h2 : 57 < x := by omega
          clear hy
          go_wp2
          go_ret
          exact ⟨by rw [HD.out]; rfl, rfl⟩
        · clear hy
          go_wp2
          go_ret
          exact ⟨by rw [HD.out]; rfl, rfl⟩
    · obtain rfl : i = s.size := by omega
      have HD : Hid (decide (0 < s.size) = (dgs (bt s) s.size && decide (0 < s.size))) := Lib.hid (by rw [hd.out, Bool.true_and])
      go_wp2
      go_ret
      exact ⟨congrArg (fun b => Ending.returned (.bool b)) HD.out, rfl⟩

def fdR (f : Nat → Nat) (n : Nat) : Nat := if 4096 < n then 0 else if (dgs f n && decide (0 < n)) = true then dv f n else 0
def fdE (f : Nat → Nat) (n : Nat) : Nat := if 4096 < n then 2 else if (dgs f n && decide (0 < n)) = true then 0 else 4
/-- S is what stands in s from p on -/
def From (s S : ByteArray) (p : Nat) : Prop := S.size = s.size - p ∧ ∀ i, i < S.size → bt S i = bt s (p + i)

theorem From.skip {s S : ByteArray} {p n : Nat} (h : From s S p) (hn : n ≤ S.size) : From s (S.extract n S.size) (p + n) := by
  obtain ⟨h1, h2⟩ := h
  have h3 : (S.extract n S.size).size = S.size - n := by rw [ByteArray.size_extract]; omega
  refine ⟨by omega, fun i hi => ?_⟩
  have h4 : n + i < S.size := by omega
  rw [bt_at hi, ByteArray.getElem_extract, Nat.add_assoc, ← h2 (n + i) h4, bt_at h4]
theorem ten_le {i : Nat} (h : i < 19) : 10 ^ i * 10 ≤ 10000000000000000000 := by
  have h1 : 10 ^ (i + 1) ≤ 10 ^ 19 := Nat.pow_le_pow_right (by decide) (by omega)
  rw [Nat.pow_succ] at h1
  exact Nat.le_trans h1 (by decide)

set_option maxRecDepth 100000 in
set_option maxHeartbeats 2000000 in
theorem fromDigits_any (s : ByteArray) (w : World) (hs : s.size ≤ maxLen) :
    Calls Tryd.prog 7 #[.string s] w fun e w' => Res w w' e (fdR (bt s) s.size) (fdE (bt s) s.size) := by
  have HN := Lib.hid (num_nil w)
  have HB := Lib.hid (Below.refl w.heap.size w)
  have HA := fun wz => areDigits_any s wz hs
  unfold maxLen at hs
  by_cases hl : 4096 < s.size
  · have e1 : fdR (bt s) s.size = 0 := by unfold fdR; rw [if_pos hl]
    have e2 : fdE (bt s) s.size = 2 := by unfold fdE; rw [if_pos hl]
    rw [e1, e2]
    clear HA e1 e2
    go_enter Tryd.func7, Tryd.ntmps7
    go_wp2
    go_ret2
    exact ⟨_, _, _, _, rfl, HN.out, HB.out⟩
  · cases hd : (dgs (bt s) s.size && decide (0 < s.size)) with
    | false =>
      have e1 : fdR (bt s) s.size = 0 := by unfold fdR; rw [if_neg hl, if_neg (by rw [hd]; decide)]
      have e2 : fdE (bt s) s.size = 4 := by unfold fdE; rw [if_neg hl, if_neg (by rw [hd]; decide)]
      rw [hd] at HA
      rw [e1, e2]
      have HAA := Lib.hid HA
      clear HA e1 e2 hd
      go_enter Tryd.func7, Tryd.ntmps7
      go_wp2_with fail
      refine (HAA.out _).mono ?_
      rintro r w1 ⟨rfl, rfl⟩
      go_wp2_with fail
      go_ret2
      exact ⟨_, _, _, _, rfl, HN.out, HB.out⟩
    | true =>
      have e1 : fdR (bt s) s.size = dv (bt s) s.size := by unfold fdR; rw [if_neg hl, if_pos hd]
      have e2 : fdE (bt s) s.size = 0 := by unfold fdE; rw [if_neg hl, if_pos hd]
      rw [hd] at HA
      rw [e1, e2]
      have HAA := Lib.hid HA
      rw [Bool.and_eq_true] at hd
      have HD := Lib.hid hd.1
      clear HA e1 e2 hd HN
      go_enter Tryd.func7, Tryd.ntmps7
      go_wp2_with fail
      refine (HAA.out _).mono ?_
      rintro r w1 ⟨rfl, rfl⟩
      go_wp2_with fail
      go_loopw [0, 4] (fun s0 s4 wr => ∃ (p : Nat) (S : ByteArray) (v : Value) (n : Nat) (f : Nat → Nat), p ≤ s.size ∧ s0 = .string S ∧ v = s4 ∧ n ≤ p ∧ Hid (From s S p) ∧ Hid (wr.ownsRow w.heap.size 48 1 v n (vl .u64 f n) ∧ Lt W64 f n ∧ sm W64 f n = dv (bt s) p ∧ Below w.heap.size w wr)) (fun s0 _ _ => match s0 with | .string S => S.size | _ => 0)
      case atStart => exact ⟨0, s, _, 0, fun _ => 0, Nat.zero_le _, rfl, rfl, Nat.le_refl _, Lib.hid ⟨by omega, fun i _ => by rw [Nat.zero_add]⟩, Lib.hid ⟨⟨rfl, .inl ⟨rfl, rfl⟩⟩, fun _ h => absurd h (by omega), rfl, HB.out⟩⟩
      case round =>
        obtain ⟨p, S, v, n, f, hp, rfl, rfl, hnp, hS, hW⟩ := hrel
        have hSs := Lib.hid hS.out.1
        have hS4 : S.size ≤ 4096 := by have := hSs.out; omega
        by_cases hlt : 0 < S.size
        · obtain ⟨n1, hn1⟩ : ∃ n1, min S.size 19 = n1 := ⟨_, rfl⟩
          have q1 : min (S.size : Int) 19 = (n1 : Int) := by omega
          have hn19 : n1 ≤ 19 := by omega
          have hn1S : n1 ≤ S.size := by omega
          have hn10 : 0 < n1 := by omega
          have hpn : p + n1 ≤ s.size := by have := hSs.out; omega
          have hdS : Hid (dgs (bt S) S.size = true) := Lib.hid (by
            have h := dgs_add (f := bt s) (a := p) (n := s.size - p) (by rw [Nat.add_sub_cancel' hp]; exact HD.out)
            rw [← hSs.out] at h
            rw [dgs_congr hS.out.2]
            exact h)
          clear hn1
          go_wp2_with fail
          have Q1 := Lib.hid q1
          clear q1
          go_loop [6, 7, 22] (fun s6 s7 s22 => ∃ i : Nat, i ≤ n1 ∧ s6 = .int .u64 ((10 ^ i : Nat) : Int) ∧ s7 = .int .u64 (dv (bt S) i : Int) ∧ s22 = .int .i64 (i : Int)) (fun _ _ s22 => n1 - (intOf s22).toNat)
          case atStart => exact ⟨0, Nat.zero_le _, rfl, rfl, rfl⟩
          case round =>
            obtain ⟨i, hi, rfl, rfl, rfl⟩ := hrel
            by_cases hil : i < n1
            · have hiS : i < S.size := by omega
              have hx := bt_at hiS
              have hdx := dgs_at hdS.out hiS
              have hv := dv_lt (dgs_mono hdS.out (show i ≤ S.size by omega))
              have h10 := ten_le (i := i) (by omega)
              have HV : Hid (dv (bt S) (i + 1) = dv (bt S) i * 10 + (bt S i - 48)) := Lib.hid rfl
              have HP : Hid (10 ^ (i + 1) = 10 ^ i * 10) := Lib.hid (Nat.pow_succ 10 i)
              obtain ⟨x, hxx⟩ : ∃ x, S[i].toNat = x := ⟨_, rfl⟩
              rw [hxx] at hx
              rw [hx] at hdx
              have HX := Lib.hid hx
              obtain ⟨P, hP⟩ : ∃ P, 10 ^ i = P := ⟨_, rfl⟩
              obtain ⟨u, hu⟩ : ∃ u, dv (bt S) i = u := ⟨_, rfl⟩
              rw [hP, hu] at hv
              rw [hP] at h10
              have HPU := Lib.hid (And.intro hP hu)
              rw [hP, hu]
              clear hx hP hu
              go_wp2_with fail
              go_round
              case rel => exact ⟨i + 1, by omega, by rw [HP.out, HPU.out.1]; go_num, congrArg (Value.int .u64) (by rw [HV.out, HPU.out.2, HX.out]; omega), by go_num⟩
              case measure => simp [intOf]; omega
            · obtain rfl : i = n1 := by omega
              obtain ⟨ho, lf, hv, hb⟩ := hW.out
              have hc19 : 10 ^ i < W64 := Nat.lt_of_le_of_lt (Nat.pow_le_pow_right (by decide) hn19) (by decide)
              have hdl := dv_lt (dgs_mono hdS.out hn1S)
              have hT := timesPlus_any w.heap.size n v f (10 ^ i) (dv (bt S) i) wr ho hb.size lf hc19 (by omega) (by omega)
              have hval : sm W64 f n * 10 ^ i + dv (bt S) i = dv (bt s) (p + i) := by
                rw [hv, dv_add, dv_congr (fun j hj => hS.out.2 j (by omega))]
              rw [hval] at hT
              have HT := Lib.hid hT
              have HFR := Lib.hid (hS.out.skip hn1S)
              have HBW := Lib.hid hb
              obtain ⟨P, hP⟩ : ∃ P, 10 ^ i = P := ⟨_, rfl⟩
              obtain ⟨u, hu⟩ : ∃ u, dv (bt S) i = u := ⟨_, rfl⟩
              rw [hP, hu] at HT
              rw [hP, hu]
              clear hP hu hT hval ho lf hv hb hc19 hdl
              go_wp2_with fail
              refine HT.out.mono ?_
              rintro r w2 ⟨⟨v2, n2, f2, rfl, ho2, lf2, hv2, hn2⟩, hb2⟩
              have HO2 := Lib.hid (And.intro ho2 (And.intro lf2 (And.intro hv2 (HBW.out.trans hb2))))
              clear ho2 lf2 hv2 hb2
              go_wp2_with fail
              go_roundw
              case rel => exact ⟨p + i, _, v2, n2, f2, hpn, rfl, rfl, by omega, HFR, HO2⟩
              case measure => simp; omega
        · have hpe : p = s.size := by have := hSs.out; omega
          obtain ⟨ho, lf, hv, hb⟩ := hW.out
          obtain ⟨A1, c1, hv1, _, _, hr1⟩ := Rd.of_own ho
          subst hv1
          have hnar := narrow_any A1 n c1 f wr hr1 lf (by omega)
          rw [hv, hpe] at hnar
          have HNA := Lib.hid hnar
          have HBW := Lib.hid hb
          clear hnar ho lf hv hb hr1
          go_wp2_with fail
          refine HNA.out.mono ?_
          rintro r w2 ⟨A2, n2, c2, f2, rfl, hnum, _, hb2⟩
          have HNU := Lib.hid hnum
          clear hnum
          go_wp2_with fail
          go_ret2
          exact ⟨_, _, _, _, rfl, HNU.out, HBW.out.trans (hb2.mono HBW.out.size)⟩
end Go.Proofs.YtnikoojgoiobjaaDoor.nn
