/- The walk of timesPlus: a times a factor and more, in the row of its own. -/
import Derived.Test.YtnikoojgoiobjaaDoorWiden
import Derived.Test.YtnikoojgoiobjaaDoorAppend
namespace Go.Proofs.YtnikoojgoiobjaaDoor.nn
open Go.RowKit

/-- what holds when i limbs are done, with k to carry -/
def TpRel (w wr : World) (g : Nat) (e : TypeId) (cur : Array Value) (n : Nat) (f : Nat → Nat) (F M : Nat) (f' : Nat → Nat) (cur' : Array Value) (k i : Nat) : Prop :=
  Wrote w wr g e cur cur' 0 n ∧ Ints cur' .u64 0 n f' ∧ Lt W64 f' n ∧ (∀ j, i ≤ j → j < n → f' j = f j) ∧ sm W64 f' i + k * W64 ^ i = sm W64 f i * F + M
theorem TpRel.step {w wr : World} {g : Nat} {e : TypeId} {cur : Array Value} {n : Nat} {f : Nat → Nat} {F M : Nat} {f' : Nat → Nat} {cur' : Array Value} {k i : Nat} (H : TpRel w wr g e cur n f F M f' cur' k i) (hi : i < n) (k' v : Nat)
    (hk : f' i * F + k = v + k' * W64) (hv : v < W64) :
    TpRel w (wr.setCell ⟨g, i, none⟩ (.int .u64 (v : Int))) g e cur n f F M (upd f' i v) (cur'.setIfInBounds i (.int .u64 (v : Int))) k' (i + 1) := by
  obtain ⟨h1, h2, h3, h4, h5⟩ := H
  have a := h1.set_ i hi (.int .u64 (v : Int))
  have b := h2.set_ i v hi
  rw [Nat.zero_add] at a b
  refine ⟨a, b, h3.upd hv, fun j ha hb => ?_, ?_⟩
  · rw [upd_ne f' (by omega)]; exact h4 j (by omega) hb
  · have e1 : sm W64 f (i + 1) = sm W64 f i + f i * W64 ^ i := rfl
    rw [sm_snoc, e1, ← h4 i (Nat.le_refl _) hi, Nat.pow_succ W64 i, Nat.add_mul]
    have e2 : f' i * W64 ^ i * F = f' i * F * W64 ^ i := by rw [Nat.mul_assoc, Nat.mul_comm (W64 ^ i), ← Nat.mul_assoc]
    have e3 : f' i * F * W64 ^ i + k * W64 ^ i = v * W64 ^ i + k' * (W64 ^ i * W64) := by
      rw [← Nat.add_mul, hk, Nat.add_mul, Nat.mul_assoc, Nat.mul_comm W64]
    rw [e2]
    omega
theorem tp_words {x F k : Nat} (hx : x < W64) (hF : F < W64) (hk : k < W64) : x * F / W64 + (x * F % W64 + k) / W64 < W64 ∧ x * F + k = (x * F % W64 + k) % W64 + (x * F / W64 + (x * F % W64 + k) / W64) * W64 := by
  have hm : x * F ≤ (W64 - 1) * (W64 - 1) := Nat.mul_le_mul (by omega) (by omega)
  have hc : (W64 - 1) * (W64 - 1) + (W64 - 1) < W64 * W64 := by decide
  have h1 := Nat.div_add_mod (x * F) W64
  have h2 := Nat.div_add_mod (x * F % W64 + k) W64
  generalize x * F = p at *
  generalize p / W64 = u at *
  generalize p % W64 = v at *
  generalize (v + k) / W64 = u1 at *
  generalize (v + k) % W64 = v1 at *
  simp only [W64] at *
  omega

/-- a wide number in a row of its own -/
def OwnW (base : Nat) (w' : World) (e : Ending) (R N : Nat) : Prop :=
  ∃ v n f, e = .returned v ∧ w'.ownsRow base 48 1 v n (vl .u64 f n) ∧ Lt W64 f n ∧ sm W64 f n = R ∧ n ≤ N

set_option maxRecDepth 100000 in
set_option maxHeartbeats 1000000 in
theorem timesPlus_row (base g n c : Nat) (f : Nat → Nat) (F M : Nat) (w : World) (hown : w.ownsRow base 48 1 (.slice (some ⟨g, 0, none⟩) n c) n (vl .u64 f n)) (hbase : base ≤ w.heap.size)
    (lf : Lt W64 f n) (hF : F < W64) (hM : M < W64) (hn : n ≤ 1000000) :
    Calls Tryd.prog 21 #[.slice (some ⟨g, 0, none⟩) n c, .int .u64 F, .int .u64 M] w fun e w' => OwnW base w' e (sm W64 f n * F + M) (n + 1) ∧ Below base w w' := by
  obtain ⟨i0, hi, hz0, hz1, hz2⟩ := info_parts info_u64
  obtain ⟨cur, hbk, hint, hbg, hnc, hcm, _, hfin⟩ := own_wrote hown
  have LF := Lib.hid hF
  have LL := Lib.hid lf
  have HM := Lib.hid hM
  have HF := Lib.hid hfin
  have hM' : M ≤ 18446744073709551615 := by unfold W64 at hM; omega
  have hbg' := Lib.hid hbg
  clear hF lf hM hfin hown hcm hbg
  go_enter Tryd.func21, Tryd.ntmps21
  go_wp2
  go_loopw [2, 14] (fun s2 s14 wr => ∃ (k i : Nat) (f' : Nat → Nat) (cur' : Array Value), Hid (k < W64) ∧ i ≤ n ∧ s2 = .int .u64 (k : Int) ∧ s14 = .int .i64 i ∧ Hid (TpRel w wr g 48 cur n f F M f' cur' k i)) (fun _ s14 _ => n - (intOf s14).toNat)
  case atStart => exact ⟨M, 0, f, cur, HM, by omega, rfl, rfl, Lib.hid ⟨Wrote.refl hbk 0 n, hint, LL.out, fun _ _ _ => rfl, by simp [sm]⟩⟩
  case round =>
    obtain ⟨k, i, f', cur', hk, hin, rfl, rfl, hh⟩ := hrel
    by_cases hlt : i < n
    · have hx := (Bk.cell hh.out.1.blk (0 + i)).trans (hh.out.2.1 i hlt)
      have hxf := Bk.frozen hh.out.1.blk (0 + i)
      rw [Nat.zero_add] at hx hxf
      have bx := hh.out.2.2.1 i hlt
      obtain ⟨q1, q2⟩ := tp_words bx LF.out hk.out
      have HM : ∀ W : World, Calls Tryd.prog 44 #[.int .u64 (f' i : Nat), .int .u64 F] W fun e w' => e = .returned (.tuple #[.int .u64 ((f' i * F / W64 : Nat) : Int), .int .u64 ((f' i * F % W64 : Nat) : Int)]) ∧ W = w' := fun W =>
        (Go.Proofs.Tryd.bits_Mul64 (f' i) F bx LF.out W).mono fun e w' ⟨h1, h2⟩ => ⟨h1, h2.symm⟩
      have hA1 := fun W => run_add64_at (f' i * F % W64) k W
      obtain ⟨u, hu⟩ : ∃ u, f' i * F / W64 = u := ⟨_, rfl⟩
      obtain ⟨v, hv⟩ : ∃ v, f' i * F % W64 = v := ⟨_, rfl⟩
      simp only [hu, hv] at q1 q2 HM
      simp only [hv] at hA1
      obtain ⟨u1, hu1⟩ : ∃ u1, (v + k) / W64 = u1 := ⟨_, rfl⟩
      obtain ⟨v1, hv1⟩ : ∃ v1, (v + k) % W64 = v1 := ⟨_, rfl⟩
      simp only [hu1, hv1] at q1 q2 hA1
      have hv1l : Hid (v1 < W64) := Lib.hid (by rw [← hv1]; exact Nat.mod_lt _ (by decide))
      have HMM := Lib.hid HM
      have Q1 := Lib.hid q1
      have Q2 := Lib.hid q2
      have b1 : u + u1 ≤ 18446744073709551615 := by unfold W64 at q1; omega
      clear HM q1 q2 hu hv hu1 hv1 bx
      go_wp2_with (go_at_call 44; refine (HMM.out _).mono ?_; rintro e w' ⟨rfl, rfl⟩)
      go_roundw
      case rel => exact ⟨u + u1, i + 1, _, _, Q1, by omega, congrArg (Value.int .u64) (by omega), by go_num, Lib.hid (hh.out.step hlt _ v1 Q2.out hv1l.out)⟩
      case measure => simp [intOf]; omega
    · obtain rfl : i = n := by omega
      have ho := HF.out wr cur' f' hh.out.1 hh.out.2.1
      have hb := Lib.hid ((Below.refl base w).grown hh.out.1.grown hbase (fun k hk => by injection hk with hk; subst hk; exact hbg'.out))
      have hbs : base ≤ wr.heap.size := Nat.le_trans hbase hb.out.size
      by_cases h0 : k = 0
      · subst h0
        have HV := Lib.hid (show sm W64 f' i = sm W64 f i * F + M by have := hh.out.2.2.2.2; omega)
        have HL := Lib.hid hh.out.2.2.1
        have HO := Lib.hid ho
        clear ho
        go_wp2
        go_ret
        exact ⟨⟨_, i, f', rfl, HO.out, HL.out, HV.out, by omega⟩, hb.out⟩
      · have q : ((k : Int) != 0) = true := by simp; omega
        have HV := Lib.hid hh.out.2.2.2.2
        have HL := Lib.hid hh.out.2.2.1
        go_wp2_with (at_builtin; refine wpList_app rfl (.tmp 41) (.tmp 43) _ rfl base 48 i0 _ 8 Tryd.underlying47 hi hz0 hz1 hz2 rfl .u64 _ i f' rfl (ho.alloc _) _ 1 1 (fun _ => k) rfl (rd_one _ .u64 k _) (by unfold maxLen; omega) (by omega) (by simp; omega) ?_; intro v1 w1 hown1 hb1)
        go_ret
        refine ⟨⟨v1, i + 1, _, rfl, hown1, HL.out.jn (fun _ _ => hk.out), ?_, Nat.le_refl _⟩, (hb.out.alloc hbs _).trans hb1⟩
        rw [sm_jn]
        have e : sm W64 (fun _ => k) 1 = k := by simp [sm]
        rw [e]
        exact HV.out

set_option maxRecDepth 100000 in
set_option maxHeartbeats 1000000 in
theorem timesPlus_nil (base : Nat) (f : Nat → Nat) (F M : Nat) (w : World) (hown : w.ownsRow base 48 1 (.slice none 0 0) 0 (vl .u64 f 0)) (hbase : base ≤ w.heap.size) (hM : M < W64) (hF : F < W64) :
    Calls Tryd.prog 21 #[.slice none 0 0, .int .u64 F, .int .u64 M] w fun e w' => OwnW base w' e M 1 ∧ Below base w w' := by
  obtain ⟨i0, hi, hz0, hz1, hz2⟩ := info_parts info_u64
  have HM := Lib.hid hM
  have HO := Lib.hid hown
  have hM' : M ≤ 18446744073709551615 := by unfold W64 at hM; omega
  have hF' : F ≤ 18446744073709551615 := by unfold W64 at hF; omega
  have HB := Lib.hid (Below.refl base w)
  clear hM hF hown
  go_enter Tryd.func21, Tryd.ntmps21
  go_wp2
  go_loopw [2, 14] (fun s2 s14 wr => s2 = .int .u64 (M : Int) ∧ s14 = .int .i64 0 ∧ wr = w) (fun _ _ _ => 0)
  case atStart => exact ⟨rfl, rfl, rfl⟩
  case round =>
    obtain ⟨rfl, rfl, rfl⟩ := hrel
    by_cases h0 : M = 0
    · subst h0
      go_wp2
      go_ret
      exact ⟨⟨_, 0, f, rfl, HO.out, fun _ h => absurd h (by omega), rfl, by omega⟩, HB.out⟩
    · have q : ((M : Int) != 0) = true := by simp; omega
      go_wp2_with (at_builtin; refine wpList_app rfl (.tmp 41) (.tmp 43) _ rfl base 48 i0 _ 8 Tryd.underlying47 hi hz0 hz1 hz2 rfl .u64 _ 0 f rfl (HO.out.alloc _) _ 1 1 (fun _ => M) rfl (rd_one _ .u64 M _) (by unfold maxLen; omega) (by omega) (by simp; omega) ?_; intro v1 w1 hown1 hb1)
      go_ret
      refine ⟨⟨v1, 1, _, rfl, hown1, fun i hi => ?_, ?_, Nat.le_refl _⟩, (HB.out.alloc hbase _).trans hb1⟩
      · obtain rfl : i = 0 := by omega
        rw [jn_zero]; exact HM.out
      · rw [jn_zero]; simp [sm]

theorem timesPlus_any (base n : Nat) (v : Value) (f : Nat → Nat) (F M : Nat) (w : World) (hown : w.ownsRow base 48 1 v n (vl .u64 f n)) (hbase : base ≤ w.heap.size)
    (lf : Lt W64 f n) (hF : F < W64) (hM : M < W64) (hn : n ≤ 1000000) :
    Calls Tryd.prog 21 #[v, .int .u64 F, .int .u64 M] w fun e w' => OwnW base w' e (sm W64 f n * F + M) (n + 1) ∧ Below base w w' := by
  rcases hown.2 with ⟨rfl, hnil⟩ | ⟨g, cap, cur, rfl, _⟩
  · subst hnil
    have h := timesPlus_nil base f F M w hown hbase hM hF
    simpa [sm] using h
  · exact timesPlus_row base g n cap f F M w hown hbase lf hF hM hn
end Go.Proofs.YtnikoojgoiobjaaDoor.nn
