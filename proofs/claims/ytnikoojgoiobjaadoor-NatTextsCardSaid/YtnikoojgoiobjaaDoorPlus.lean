/- The walk of plus: a row of the call's own grows by another number. -/
import Derived.Test.YtnikoojgoiobjaaDoorAddInto
import Derived.Test.YtnikoojgoiobjaaDoorClone
namespace Go.Proofs.YtnikoojgoiobjaaDoor.nn
open Go.RowKit

/-- f's first n limbs, 0 behind them -/
def pad (f : Nat → Nat) (n : Nat) : Nat → Nat := fun i => if i < n then f i else 0
theorem pad_sm (B : Nat) (f : Nat → Nat) {n m : Nat} (h : n ≤ m) : sm B (pad f n) m = sm B f n := by
  induction m with
  | zero =>
    obtain rfl : n = 0 := by omega
    rfl
  | succ m ih =>
    by_cases e : n = m + 1
    · subst e; exact sm_congr B fun i hi => by simp [pad, hi]
    · rw [sm, ih (by omega), pad, if_neg (by omega)]; simp
theorem pad_lt {B : Nat} (hB : 0 < B) {f : Nat → Nat} {n : Nat} (h : Lt B f n) (m : Nat) : Lt B (pad f n) m := fun i _ => by
  by_cases e : i < n
  · simp only [pad, if_pos e]; exact h i e
  · simp only [pad, if_neg e]; exact hB
theorem vl_pad_next (K : IntKind) (f : Nat → Nat) {n m : Nat} (h : n ≤ m) : vl K (jn (pad f n) m (fun _ => 0)) (m + 1) = vl K (pad f n) (m + 1) := vl_congr K fun i hi => by
  rw [jn_one _ _ _ i hi]
  by_cases e : i = m
  · subst e; rw [upd_at, pad, if_neg (by omega)]
  · rw [upd_ne _ e]

theorem Rd.old {w w' : World} {K : IntKind} {A : Option Addr} {n : Nat} {f : Nat → Nat} {base : Nat} (h : Rd w K A n f) (hb : Below base w w') (hlt : ∀ b o, A = some ⟨b, o, none⟩ → 0 < n → b < base) : Rd w' K A n f := fun hn => by
  obtain ⟨b, off, e, hs, hc⟩ := h hn
  exact ⟨b, off, e, Nat.lt_of_lt_of_le hs hb.size, fun i hi => (hb.cell (p := ⟨b, off + i, none⟩) (hlt b off e hn)).trans (hc i hi)⟩

set_option maxHeartbeats 400000 in
theorem addInto_nil (A B : Option Addr) (c d : Nat) (w : World) :
    Calls Tryd.prog 56 #[.slice A 0 c, .slice B 0 d] w fun e' w' => e' = .returned (.int .u32 0) ∧ w = w' := by
  go_enter Tryd.func56, Tryd.ntmps56
  go_wp2
  refine wp_loop_rounds 1 ?_
  rw [rounds_succ]
  go_wp2
  refine wp_loop_rounds 1 ?_
  rw [rounds_succ]
  go_wp2
  go_ret
  exact ⟨rfl, rfl⟩

/-- what plus leaves -/
def PlusEnd (base : Nat) (w w' : World) (v : Value) (N M : Nat) : Prop :=
  ∃ (n' : Nat) (f' : Nat → Nat), w'.ownsRow base 45 1 v n' (vl .u32 f' n') ∧ Below base w w' ∧ Lt (2 ^ 32) f' n' ∧ sm (2 ^ 32) f' n' = N ∧ n' ≤ M

set_option maxHeartbeats 1000000 in
theorem plus_any (base : Nat) (v : Value) (n : Nat) (f : Nat → Nat) (B : Option Addr) (m d : Nat) (h : Nat → Nat) (w : World) (hown : w.ownsRow base 45 1 v n (vl .u32 f n)) (hbase : base ≤ w.heap.size)
    (hB : Rd w .u32 B m h) (hlt : ∀ b o, B = some ⟨b, o, none⟩ → 0 < m → b < base) (lf : Lt (2 ^ 32) f n) (lh : Lt (2 ^ 32) h m) (hreach : (n + m + 1) * 4 ≤ 140737488355328) :
    Calls Tryd.prog 38 #[v, .slice B m d] w fun e w' => ∃ v', e = .returned v' ∧ PlusEnd base w w' v' (sm (2 ^ 32) f n + sm (2 ^ 32) h m) (max n m + 1) := by
  obtain ⟨i0, hi, hz0, hz1, hz2⟩ := info_parts info_u32
  have hown' : w.ownsRow base 45 1 v n (vl .u32 (pad f n) n) := by rw [vl_congr .u32 (g := f) (fun i hi => by simp [pad, hi])]; exact hown
  clear hown
  go_enter Tryd.func38, Tryd.ntmps38
  go_wp2
  go_loopw [0] (fun s wr => ∃ n' : Nat, n ≤ n' ∧ n' ≤ max n m ∧ wr.ownsRow base 45 1 s n' (vl .u32 (pad f n) n') ∧ Below base w wr) (fun s _ => m - (match s with | .slice _ l _ => l | _ => 0))
  case atStart => exact ⟨n, Nat.le_refl _, by omega, hown', Below.refl _ _⟩
  case round =>
    rename_i s0 wr
    obtain ⟨n', h1, h2, ho, hb⟩ := hrel
    obtain ⟨A, c, rfl, hnc, hcm, hr⟩ := Rd.of_own ho
    have hbs := hb.size
    unfold maxLen at hcm
    by_cases hl : n' < m
    · go_wp2_with (at_builtin; refine wpList_app rfl (.tmp 11) (.tmp 12) _ rfl base 45 i0 _ 4 Tryd.underlying22 hi hz0 hz1 hz2 rfl .u32 _ n' (pad f n) rfl (ho.alloc _) _ 1 1 (fun _ => 0) rfl (rd_one _ .u32 0 _) ?c1 ?c2 ?c3 ?c4; rotate_left 3; intro v1 w1 hown1 hb1)
      case c1 => unfold maxLen; omega
      case c2 => omega
      case c3 => simp; omega
      rw [vl_pad_next .u32 f h1] at hown1
      obtain ⟨A1, c1, rfl, _, _, _⟩ := Rd.of_own hown1
      go_roundw
      case rel => exact ⟨n' + 1, by omega, by omega, hown1, (hb.alloc (by omega) _).trans hb1⟩
      case measure => simp; omega
    · have hB1 := hB.old hb hlt
      rcases A with _ | ad
      · have hn0 : n' = 0 := by
          rcases Nat.eq_zero_or_pos n' with h0 | h0
          · exact h0
          · obtain ⟨b, off, e, _⟩ := hr h0
            cases e
        subst hn0
        obtain rfl : m = 0 := by omega
        obtain rfl : n = 0 := by omega
        go_wp2_with (go_at_call 56; refine (addInto_nil _ _ _ _ _).mono ?_; rintro e w' ⟨rfl, rfl⟩)
        go_ret
        exact ⟨_, rfl, 0, pad f 0, ho, hb, fun i hi => absurd hi (by omega), rfl, by omega⟩
      · obtain ⟨g, rfl⟩ : ∃ g, ad = ⟨g, 0, none⟩ := by
          rcases ho.2 with ⟨e, _⟩ | ⟨g, _, _, e, _⟩
          · cases e
          · injection e with e; injection e with e; exact ⟨g, e⟩
        obtain ⟨cur, hbk, hint, hbg, _, _, _, hfin⟩ := own_wrote ho
        have hne : ∀ b o, B = some ⟨b, o, none⟩ → 0 < m → b ≠ g := fun b o e h0 => by have := hlt b o e h0; omega
        have HF := Lib.hid hfin
        have HE := Lib.hid hne
        have hps := Lib.hid (pad_sm (2 ^ 32) f h1)
        clear hfin hne
        go_wp2_with fail
        refine (addInto_any g 0 n' c _ cur (pad f n) B m d h wr hbk hint hB1 HE.out (by omega) (pad_lt (by decide) lf n') lh (by unfold maxLen; omega)).mono ?_
        rintro e1 w1 ⟨k, rfl, hk, f', cur', hw, hi', lf', hv⟩
        have ho1 := HF.out w1 cur' f' hw hi'
        have hb1 : Below base w w1 := hb.grown hw.grown (by omega) (fun j hj => by injection hj with hj; omega)
        have hV := Lib.hid hv
        have hsz := hw.hsize
        have hzz : base ≤ w1.heap.size := by omega
        have HW := Lib.hid hw
        clear hw hv hsz HF HE
        rcases (by omega : k = 0 ∨ k = 1) with rfl | rfl
        · go_wp2
          go_ret
          refine ⟨_, rfl, n', f', ho1, hb1, lf', ?_, by omega⟩
          have := hV.out
          rw [hps.out] at this
          omega
        · go_wp2_with (at_builtin; refine wpList_app rfl (.tmp 19) (.tmp 21) _ rfl base 45 i0 _ 4 Tryd.underlying22 hi hz0 hz1 hz2 rfl .u32 _ n' f' rfl (ho1.alloc _) _ 1 1 (fun _ => 1) rfl (rd_one _ .u32 1 _) ?d1 ?d2 ?d3 ?d4; rotate_left 3; intro v2 w2 hown2 hb2)
          case d1 => unfold maxLen; omega
          case d2 => omega
          case d3 => simp; omega
          go_ret
          refine ⟨_, rfl, n' + 1, _, hown2, (hb1.alloc hzz _).trans hb2, lf'.jn (fun _ _ => by decide), ?_, by omega⟩
          have := hV.out
          rw [hps.out] at this
          rw [sm_jn]
          simp only [sm] at this ⊢
          omega
end Go.Proofs.YtnikoojgoiobjaaDoor.nn
