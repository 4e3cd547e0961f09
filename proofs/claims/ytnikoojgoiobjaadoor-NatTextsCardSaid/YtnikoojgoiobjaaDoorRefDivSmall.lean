/- The walk of the document's DivSmall: quotient and rest by one limb, or the error. -/
import Derived.Test.YtnikoojgoiobjaaDoorDivSmall
import Derived.Test.YtnikoojgoiobjaaDoorRefAdd
namespace Go.Proofs.YtnikoojgoiobjaaDoor.nn
open Go.RowKit

/-- what holds when the limbs from t on are divided, with the rest r -/
def DivRel32 (w wr : World) (g : Nat) (e : TypeId) (cur : Array Value) (off n : Nat) (f : Nat → Nat) (d : Nat) (f' : Nat → Nat) (cur' : Array Value) (r t : Nat) : Prop :=
  Wrote w wr g e cur cur' off n ∧ Ints cur' .u32 off n f' ∧ Lt (2 ^ 32) f' n ∧ r < d ∧ sm (2 ^ 32) f n + d * sm (2 ^ 32) f' t = d * sm (2 ^ 32) f' n + r * (2 ^ 32) ^ t + sm (2 ^ 32) f' t

theorem DivRel32.step {w wr : World} {g : Nat} {e : TypeId} {cur : Array Value} {off n : Nat} {f : Nat → Nat} {d : Nat} {f' : Nat → Nat} {cur' : Array Value} {r s q r' : Nat} (H : DivRel32 w wr g e cur off n f d f' cur' r (s + 1)) (hs : s < n)
    (hq : d * q + r' = r * (2 ^ 32) + f' s) (hqq : q < (2 ^ 32)) (hr : r' < d) :
    DivRel32 w (wr.setCell ⟨g, off + s, none⟩ (.int .u32 (q : Int))) g e cur off n f d (upd f' s q) (cur'.setIfInBounds (off + s) (.int .u32 (q : Int))) r' s := by
  obtain ⟨h1, h2, h3, _, h5⟩ := H
  refine ⟨h1.set_ s hs _, h2.set_ s _ hs, h3.upd hqq, hr, ?_⟩
  have a1 := sm_upd (2 ^ 32) f' q hs
  have a2 : sm (2 ^ 32) f' (s + 1) = sm (2 ^ 32) f' s + f' s * (2 ^ 32) ^ s := rfl
  rw [sm_upd_out (2 ^ 32) f' q (Nat.le_refl s)]
  rw [a2, Nat.pow_succ (2 ^ 32) s, Nat.mul_add d] at h5
  have b1 := congrArg (d * ·) a1
  simp only [Nat.mul_add] at b1
  have b2 := congrArg (· * (2 ^ 32) ^ s) hq
  simp only [Nat.add_mul] at b2
  have b3 : d * (q * (2 ^ 32) ^ s) = d * q * (2 ^ 32) ^ s := by rw [Nat.mul_assoc]
  have b4 : r * ((2 ^ 32) ^ s * (2 ^ 32)) = r * (2 ^ 32) * (2 ^ 32) ^ s := by rw [Nat.mul_comm ((2 ^ 32) ^ s), ← Nat.mul_assoc]
  rw [b3] at b1
  rw [b4] at h5
  omega

theorem quo32_lt {r x d : Nat} (hr : r < d) (hx : x < (2 ^ 32)) : (r * (2 ^ 32) + x) / d < (2 ^ 32) := by
  rw [Nat.div_lt_iff_lt_mul (by omega), Nat.mul_comm (2 ^ 32)]
  have h : (r + 1) * (2 ^ 32) ≤ d * (2 ^ 32) := Nat.mul_le_mul_right _ hr
  rw [Nat.add_mul] at h
  omega

/-- one limb, at the start of a block -/
theorem DivRel32.step0 {w wr : World} {g : Nat} {e : TypeId} {cur : Array Value} {n : Nat} {f : Nat → Nat} {d : Nat} {f' : Nat → Nat} {cur' : Array Value} {r s : Nat} (H : DivRel32 w wr g e cur 0 n f d f' cur' r (s + 1)) (hs : s < n) (hd : 0 < d) (hx : f' s < (2 ^ 32)) {z y : Int}
    (hz : z = (((r * 4294967296 + f' s) / d : Nat) : Int) % 4294967296) (hy : y = (((r * 4294967296 + f' s) % d : Nat) : Int)) :
    ∃ (r' : Nat) (f'' : Nat → Nat) (cur'' : Array Value), Value.int .u64 y = .int .u64 (r' : Int) ∧ Hid (DivRel32 w (wr.setCell ⟨g, s, none⟩ (.int .u32 z)) g e cur 0 n f d f'' cur'' r' s) := by
  have e1 := Nat.div_add_mod (r * 4294967296 + f' s) d
  have e2 : (r * 4294967296 + f' s) / d < 4294967296 := quo32_lt H.2.2.2.1 hx
  have e3 := Nat.mod_lt (r * 4294967296 + f' s) hd
  have h := H.step hs e1 e2 e3
  rw [Nat.zero_add] at h
  have e4 : z = (((r * 4294967296 + f' s) / d : Nat) : Int) := by
    rw [hz]
    generalize (r * 4294967296 + f' s) / d = q at *
    omega
  rw [e4]
  exact ⟨_, _, _, by rw [hy], h⟩

theorem joined {r x : Nat} (hr : r < 4294967296) (hx : x < 4294967296) : bits BinOp.or IntKind.u64 ((r : Int) * 4294967296) (x : Int) = ((r * 4294967296 + x : Nat) : Int) := by
  have e : (r : Int) * 4294967296 = ((r * 4294967296 : Nat) : Int) := by omega
  rw [e, u64_or_nat (r * 4294967296) x (by omega) (Nat.lt_trans hx (by decide)), nat_join 32 _ _ (Nat.mul_mod_left _ _) hx]

set_option maxRecDepth 100000 in
set_option maxHeartbeats 1000000 in
theorem rdivSmall_all (A : Option Addr) (n c d : Nat) (f : Nat → Nat) (w : World) (hA : Rd w .u32 A n f) (lf : Lt (2 ^ 32) f n) (hnc : n ≤ c) (hcm : c ≤ maxLen) (hn4 : n * 4 ≤ 140737488351232) (hd : d < 4294967296) :
    Calls Tryd.prog 36 #[.slice A n c, .int .u32 d] w fun e w' => ResS w w' e (smQ n f d) (smR n f d) (smE n f d) := by
  have hbw1 : Below w.heap.size w (w.alloc (.cells #[.slice A n c] 22)) := (Below.refl _ _).alloc (Nat.le_refl _) _
  have hlong := rlong_any _ 1 1 _ _ _ _ _ (rds_one w A n c f 22 hA hnc hcm) (by simp [maxLen]) (fun i hi => by omega)
  have e1 : lg (fun _ => n) (fun _ => f) 1 = decide (4096 < tr f n) := by simp only [lg, Bool.false_or]
  rw [e1] at hlong
  have hle := tr_le f n
  by_cases hl : 4096 < tr f n
  · have H1 : Hid (smQ n f d = 0) := if_pos hl
    have H2 : Hid (smR n f d = 0) := if_pos hl
    have H3 : Hid (smE n f d = 2) := if_pos hl
    rw [decide_eq_true hl] at hlong
    have HL := Lib.hid hlong
    clear hl hlong e1
    go_enter Tryd.func36, Tryd.ntmps36
    go_wp2_with fail
    refine HL.out.mono ?_
    rintro e w2 ⟨rfl, hb2⟩
    go_wp2
    go_ret3
    rw [H1.out, H2.out, H3.out]
    exact ⟨none, 0, 0, _, rfl, num_nil _, hbw1.trans (hb2.mono (by rw [hsz]; omega))⟩
  · rw [decide_eq_false hl] at hlong
    have HL := Lib.hid hlong
    clear hlong e1
    rcases Nat.eq_zero_or_pos d with hz | hz
    · subst hz
      have H1 : Hid (smQ n f 0 = 0) := Lib.hid (by unfold smQ; rw [if_neg hl]; exact Nat.div_zero _)
      have H2 : Hid (smR n f 0 = 0) := Lib.hid (by unfold smR; rw [if_neg hl, if_pos rfl])
      have H3 : Hid (smE n f 0 = 1) := Lib.hid (by unfold smE; rw [if_neg hl, if_pos rfl])
      clear hl
      go_enter Tryd.func36, Tryd.ntmps36
      go_wp2_with fail
      refine HL.out.mono ?_
      rintro e w2 ⟨rfl, hb2⟩
      go_wp2
      go_ret3
      rw [H1.out, H2.out, H3.out]
      exact ⟨none, 0, 0, _, rfl, num_nil _, hbw1.trans (hb2.mono (by rw [hsz]; omega))⟩
    · have H1 : Hid (smQ n f d = sm (2 ^ 32) f n / d) := Lib.hid (by unfold smQ; rw [if_neg hl])
      have H2 : Hid (smR n f d = sm (2 ^ 32) f n % d) := Lib.hid (by unfold smR; rw [if_neg hl, if_neg (by omega)])
      have H3 : Hid (smE n f d = 0) := Lib.hid (by unfold smE; rw [if_neg hl, if_neg (by omega)])
      have lp := lf.mono (tr_le f n)
      have sp := sm_tr (2 ^ 32) f n
      have hdz : ((d : Int) == 0) = false := by rw [beq_eq_false_iff_ne]; omega
      have HT : Hid (∀ W, Below w.heap.size w W → Calls Tryd.prog 26 #[.slice A n c] W fun e w' => ∃ v, e = .returned v ∧ w'.ownsRow W.heap.size 45 1 v (tr f n) (vl .u32 f (tr f n)) ∧ Below W.heap.size W w') := Lib.hid fun W hW => rtrim_any A n c f W (hA.below hW) hnc (by omega)
      obtain ⟨p, hp⟩ : ∃ p, tr f n = p := ⟨_, rfl⟩
      rw [hp] at lp sp hl HT hle
      rw [← sp] at H1 H2
      have LP := Lib.hid lp
      clear hp sp lf lp
      go_enter Tryd.func36, Tryd.ntmps36
      go_wp2_with fail
      refine HL.out.mono ?_
      rintro e w2 ⟨rfl, hb2⟩
      have hbw2 : Below w.heap.size w w2 := hbw1.trans (hb2.mono (by rw [hsz]; omega))
      clear hb2
      go_wp2_with fail
      refine (HT.out _ hbw2).mono ?_
      rintro e w3 ⟨v3, rfl, hown3, hb3⟩
      have hbw3 : Below w.heap.size w w3 := hbw2.trans (hb3.mono hbw2.size)
      have hs2 := hbw2.size
      rcases hown3.2 with ⟨rfl, hp0⟩ | ⟨g0, cap, _, rfl, hg0, _⟩
      · subst hp0
        have HTT := Lib.hid (rtrim_any none 0 0 f w3 Rd.none_ (Nat.le_refl _) (by omega))
        have HB3 := Lib.hid hbw3
        have e0 : Hid (sm (2 ^ 32) f 0 / d = 0 ∧ sm (2 ^ 32) f 0 % d = 0) := Lib.hid (by simp [sm])
        clear hown3 hb3 hbw2 hbw3
        go_wp2
        go_loopw [8, 9] (fun s8 s9 wr => s8 = .int .u64 0 ∧ s9 = .int .i64 (-1) ∧ wr = w3) (fun _ _ _ => 0)
        case atStart => exact ⟨rfl, rfl, rfl⟩
        case round =>
          obtain ⟨rfl, rfl, rfl⟩ := hrel
          go_wp2_with fail
          refine HTT.out.mono ?_
          rintro e w5 ⟨v5, rfl, hown5, hb5⟩
          have hbw5 := HB3.out.trans (hb5.mono HB3.out.size)
          obtain ⟨A5, c5, rfl, hN5⟩ := own_num hown5 (fun _ h => absurd h (by simp [tr])) (tr_trm f 0)
          have N5 := Lib.hid hN5
          clear hown5 hb5 hN5
          go_wp2
          go_ret3
          rw [H1.out, H2.out, H3.out, e0.out.1, e0.out.2]
          refine ⟨A5, tr f 0, c5, f, rfl, ?_, hbw5⟩
          have h1 := N5.out
          rw [sm_tr] at h1
          exact h1
      · obtain ⟨cur, hbk, hint, hbg, hcap, hcm3, _, hfin⟩ := own_wrote hown3
        have hgw : w.heap.size ≤ g0 := Nat.le_trans hs2 hg0
        have HB3 := Lib.hid hbw3
        have HF := Lib.hid hfin
        unfold maxLen at hcm3
        clear hown3 hb3 hbw2 hbw3 hs2 hfin hg0 hbg
        go_wp2
        go_loopw [8, 9] (fun s8 s9 wr => ∃ (r t : Nat) (f' : Nat → Nat) (cur' : Array Value), t ≤ p ∧ s8 = .int .u64 (r : Int) ∧ s9 = .int .i64 ((t : Int) - 1) ∧ Hid (DivRel32 w3 wr g0 45 cur 0 p f d f' cur' r t)) (fun _ s9 _ => (intOf s9 + 1).toNat)
        case atStart => exact ⟨0, p, f, cur, Nat.le_refl _, rfl, rfl, Lib.hid ⟨Wrote.refl hbk 0 p, hint, LP.out, hz, by omega⟩⟩
        case round =>
          obtain ⟨r, t, f', cur', ht, rfl, rfl, hh⟩ := hrel
          by_cases h1 : 0 < t
          · obtain ⟨s, rfl⟩ : ∃ s, t = s + 1 := ⟨t - 1, by omega⟩
            have hx := (Bk.cell hh.out.1.blk (0 + s)).trans (hh.out.2.1 s (by omega))
            have hxf := Bk.frozen hh.out.1.blk (0 + s)
            rw [Nat.zero_add] at hx hxf
            have bx : f' s < 4294967296 := hh.out.2.2.1 s (by omega)
            have br : r < d := hh.out.2.2.2.1
            have hj := joined (r := r) (x := f' s) (by omega) bx
            have hs0 : (((s + 1 : Nat) : Int) - 1) = (s : Int) := by omega
            rw [hs0]
            clear hs0
            have hdpos : 0 < d := hz
            go_wp2
            obtain ⟨r', f'', cur'', er, HR⟩ := hh.out.step0 (z := ((r : Int) * 4294967296 + (f' s : Int)) / (d : Int) % 4294967296) (y := ((r : Int) * 4294967296 + (f' s : Int)) % (d : Int)) (by omega) hdpos bx (by simp) (by simp)
            go_roundw
            case rel => exact ⟨r', s, f'', cur'', by omega, er, rfl, HR⟩
            case measure => simp [intOf]
          · obtain rfl : t = 0 := by omega
            have ho := HF.out _ cur' f' hh.out.1 hh.out.2.1
            have hbw4 : Below w.heap.size w wr := HB3.out.grown hh.out.1.grown HB3.out.size (fun k hk => by injection hk with hk; omega)
            have hv := hh.out.2.2.2.2
            have hrd := hh.out.2.2.2.1
            have l4 := hh.out.2.2.1
            have hq : Hid (sm (2 ^ 32) f' p = sm (2 ^ 32) f p / d ∧ r = sm (2 ^ 32) f p % d) := Lib.hid (by
              have e : sm (2 ^ 32) f p = sm (2 ^ 32) f' p * d + r := by simp [sm] at hv; rw [Nat.mul_comm]; omega
              rw [e, Nat.mul_add_mod_of_lt' hrd hz, Nat.mul_add_div' hrd hz]
              exact ⟨rfl, rfl⟩)
            obtain ⟨A2, c2, e2, hc2, hm2, hr2⟩ := Rd.of_own ho
            injection e2 with e2 _ e6
            subst e2
            subst e6
            have HTT := Lib.hid (rtrim_any (some ⟨g0, 0, none⟩) p cap f' wr hr2 hc2 (by omega))
            have L4 := Lib.hid l4
            have br : r ≤ 4294967295 := by omega
            clear ho hv hrd l4 hr2 hh hm2
            go_wp2_with fail
            refine HTT.out.mono ?_
            rintro e w5 ⟨v5, rfl, hown5, hb5⟩
            have hbw5 : Below w.heap.size w w5 := hbw4.trans (hb5.mono hbw4.size)
            obtain ⟨A5, c5, rfl, hN5⟩ := own_num hown5 (L4.out.mono (tr_le f' p)) (tr_trm f' p)
            have N5 := Lib.hid hN5
            clear hown5 hb5 hN5
            go_wp2
            go_ret3
            rw [H1.out, H2.out, H3.out]
            refine ⟨A5, tr f' p, c5, f', ?_, ?_, hbw5⟩
            · rw [← hq.out.2]; rfl
            · have h1 := N5.out
              rw [sm_tr, hq.out.1] at h1
              exact h1
theorem rdivSmall_any (A : Option Addr) (n c d : Nat) (f : Nat → Nat) (w : World) (hA : Rd w .u32 A n f) (lf : Lt (2 ^ 32) f n) (hnc : n ≤ c) (hc : c * 4 ≤ 140737488351232) (hd : d < 4294967296) :
    Calls Tryd.prog 36 #[.slice A n c, .int .u32 d] w fun e w' => ResS w w' e (smQ n f d) (smR n f d) (smE n f d) :=
  rdivSmall_all A n c d f w hA lf hnc (by unfold maxLen; omega) (by omega) hd
end Go.Proofs.YtnikoojgoiobjaaDoor.nn
