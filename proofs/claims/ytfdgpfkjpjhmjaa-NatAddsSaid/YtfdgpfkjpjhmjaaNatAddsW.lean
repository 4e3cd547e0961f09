/- The walk of the law NatAdds: it returns true. -/
import Derived.Test.YtfdgpfkjpjhmjaaAppendS
namespace Go.Proofs.Ytfdgpfkjpjhmjaa.nn
open Go.RowKit

theorem lg_cons (n : Nat) (f : Nat → Nat) (L : Nat → Nat) (F : Nat → Nat → Nat) (m : Nat) : lg (cons1 n L) (cons1 f F) (m + 1) = (decide (4096 < tr f n) || lg L F m) := by
  induction m with
  | zero => simp only [lg, Bool.false_or, Bool.or_false]; rfl
  | succ m ih => rw [lg, ih, lg, Bool.or_assoc]; rfl
theorem tot_cons (n : Nat) (f : Nat → Nat) (L : Nat → Nat) (F : Nat → Nat → Nat) (m : Nat) : tot (cons1 n L) (cons1 f F) (m + 1) = sm (2 ^ 32) f n + tot L F m := by
  induction m with
  | zero => simp [tot, cons1]
  | succ m ih => rw [tot, ih, tot, Nat.add_assoc]; rfl
theorem rad_add (n : Nat) (f : Nat → Nat) (L : Nat → Nat) (F : Nat → Nat → Nat) (m : Nat) : radR (1 + m) (cons1 n L) (cons1 f F) = addR n f m L F ∧ radE (1 + m) (cons1 n L) (cons1 f F) = addE n f m L F := by
  rw [Nat.add_comm 1 m, radR, radE, addR, addE, lg_cons, tot_cons]
  by_cases h1 : 4096 < tr f n <;> simp [h1]

theorem Rd.lt {w : World} {K : IntKind} {A : Option Addr} {n b o : Nat} {f : Nat → Nat} (h : Rd w K A n f) (e : A = some ⟨b, o, none⟩) (h0 : 0 < n) : b < w.heap.size := by
  obtain ⟨b', o', e', hb, _⟩ := h h0
  rw [e] at e'
  injection e' with e'
  injection e' with e'
  omega

/-- below old memory all is as it was -/
def Keep (w w' : World) : Prop := Below w.heap.size w w'

set_option maxHeartbeats 1000000 in
theorem adds_any (A : Option Addr) (n c : Nat) (f : Nat → Nat) (B : Option Addr) (m d : Nat) (AA : Nat → Option Addr) (L C : Nat → Nat) (F : Nat → Nat → Nat) (w : World)
    (hA : Rd w .u32 A n f) (hn : n ≤ c) (hc : c * 4 ≤ 140737488351232) (lf : Lt (2 ^ 32) f n) (hB : Rds w B m AA L C F) (hm : m ≤ d) (hd : d * 24 ≤ 140737488351232) (lF : ∀ i, i < m → Lt (2 ^ 32) (F i) (L i)) (hC : ∀ i, i < m → C i * 4 ≤ 140737488351232) :
    Calls Try.prog 3 #[.slice A n c, .slice B m d] w fun e w' => e = .returned (.bool true) ∧ Below w.heap.size w w' := by
  obtain ⟨i0, hi, hz0, hz1, hz2⟩ := info_parts info_u32
  have HF := Lib.hid lF
  have HC := Lib.hid hC
  clear hC lF
  go_enter Try.func3, Try.ntmps3
  go_wp2_with (first
    | (at_builtin; refine wpList_app rfl (.tmp 11) (.tmp 12) _ rfl w.heap.size 35 i0 _ 4 Try.underlying22 hi hz0 hz1 hz2 rfl .u32 _ 0 f rfl (World.ownsRow_lit w #[] 0 (Nat.le_refl _) (by simp [maxLen]) rfl) A n c f rfl (hA.alloc _) (by unfold maxLen; omega) (by omega) (by simp) ?_; intro v1 w1 hown1 hb1))
  rw [jn_zero, Nat.zero_add] at hown1
  obtain ⟨A1, c1, rfl, hc1, hm1, hr1⟩ := Rd.of_own hown1
  have hbw1 : Below w.heap.size w w1 := ((Below.refl _ _).alloc (Nat.le_refl _) _).trans hb1
  have hB1 := hB.below hbw1
  refine (add_any A1 n c1 f B m d AA L C F _ hr1 hc1 hm1 lf hB1 hm (by unfold maxLen; omega) HF.out (by omega)).mono ?_
  rintro e w2 ⟨A2, n2, c2, f2, rfl, hnum2, hb2⟩
  have hbw2 : Below w.heap.size w w2 := hbw1.trans (hb2.mono hbw1.size)
  have hz2 := hbw2.size
  clear hown1 hb1 hb2 hr1 hB1
  have hA2 := hA.below hbw2
  have hB2 := hB.below hbw2
  have hAb : Hid (∀ b o, A = some ⟨b, o, none⟩ → 0 < n → b < w2.heap.size) := Lib.hid fun b o e h0 => hA2.lt e h0
  have hBb : Hid (∀ i, i < m → ∀ b o, AA i = some ⟨b, o, none⟩ → 0 < L i → b < w2.heap.size) := Lib.hid fun i hi b o e h0 => by
    obtain ⟨_, _, _, _, hcell⟩ := hB2 (by omega)
    exact (hcell i hi).2.2.2.lt e h0
  go_wp2_with (first
    | (at_builtin; refine wpList_app_sl rfl (.tmp 20) (.tmp 21) rfl A n c f w2.heap.size rfl (World.ownsRow_lit w2 #[.slice A n c] 1 (Nat.le_refl _) (by simp [maxLen]) rfl) (hA2.alloc _) hn (by unfold maxLen; omega) B m d AA L C F rfl (hB2.below ((Below.refl _ _).alloc (Nat.le_refl _) _)) (by omega) (by rw [hsz]; omega) hAb.out hBb.out ?_; intro B3 d3 w3 hd3 hm3 hB3 hb3))
  have hbw3 : Below w.heap.size w w3 := hbw2.trans (((Below.refl _ _).alloc hz2 _).trans (hb3.mono hz2))
  have hlast : ∀ i, i < 1 + m → Lt (2 ^ 32) (cons1 f F i) (cons1 n L i) ∧ cons1 n L i * 4 ≤ 140737488351232 := fun i hi => by
    rcases i with _ | j
    · exact ⟨lf, by show n * 4 ≤ _; omega⟩
    · obtain ⟨_, _, _, _, hcell⟩ := hB2 (by omega)
      have h1 := (hcell j (by omega)).2.1
      have h2 := HC.out j (by omega)
      exact ⟨HF.out j (by omega), by show L j * 4 ≤ _; omega⟩
  refine (radd_any B3 (1 + m) d3 _ _ _ _ _ hB3 (by omega) (fun i hi => (hlast i hi).2) (fun i hi => (hlast i hi).1)).mono ?_
  rintro e w4 ⟨A4, n4, c4, f4, rfl, hnum4, hb4⟩
  have hbw4 : Below w.heap.size w w4 := hbw3.trans (hb4.mono hbw3.size)
  have hnum2' : Num w4 A2 n2 c2 f2 (addR n f m L F) := by
    have h1 : Below w2.heap.size w2 w4 := (((Below.refl _ _).alloc (Nat.le_refl _) _).trans hb3).trans (hb4.mono (by have := hb3.size; rw [hsz] at this; omega))
    exact ⟨hnum2.le, hnum2.cap, hnum2.rd.below h1, hnum2.lt, hnum2.trm, hnum2.val⟩
  rw [(rad_add n f L F m).1] at hnum4
  rw [(rad_add n f L F m).2]
  have HL := Lib.hid (limbs_any A2 A4 n2 n4 c2 c4 f2 f4 _ w4 hnum2' hnum4)
  clear hlast hB3 hb3 hb4 hbw3 hnum2 hnum2' hnum4 hAb hBb hA2 hB2 hbw2 hz2
  have hA4 := hA.below hbw4
  have hB4 := hB.below hbw4
  clear hA hB
  go_wp2_with (go_at_call 13; refine HL.out.mono ?_; rintro e w5 ⟨rfl, j5, rfl⟩)
  go_loopw [9] (fun s wr => ∃ i : Nat, i ≤ m ∧ s = .int .i64 i ∧ Keep w4 wr) (fun s _ => m - (intOf s).toNat)
  case atStart => exact ⟨0, Nat.zero_le _, rfl, drew_below (Below.refl _ _) _⟩
  case round =>
    obtain ⟨i, hi', rfl, hk⟩ := hrel
    by_cases hlt : i < m
    · obtain ⟨b, off, rfl, hbl, hcell⟩ := hB4 (by omega)
      obtain ⟨hx, hlc, hcm, hr⟩ := hcell i hlt
      have hli := HF.out i hlt
      have hci := HC.out i hlt
      have HX : Hid (∀ W, Keep w4 W → W.cell? ⟨b, off + i, none⟩ = some (.slice (AA i) (L i) (C i)) ∧ Rd W .u32 A n f ∧ Rd W .u32 (AA i) (L i) (F i)) :=
        Lib.hid fun W hW => ⟨(hW.cell (p := ⟨b, off + i, none⟩) hbl).trans hx, hA4.below hW, hr.below hW⟩
      have C1 : Hid (∀ W, Keep w4 W → Calls Try.prog 14 #[.slice A n c, .slice (AA i) (L i) (C i)] W fun e w' => e = .returned (.int .i64 (cm (sm (2 ^ 32) f n) (sm (2 ^ 32) (F i) (L i)))) ∧ Keep w4 w') := Lib.hid fun W hW =>
        (Cmp_any A (AA i) n (L i) c (C i) f (F i) W (HX.out W hW).2.1 (HX.out W hW).2.2 lf hli hn hlc (by unfold maxLen; omega) hcm).mono fun e w' ⟨h1, j, h2⟩ => ⟨h1, by rw [h2]; exact drew_below hW j⟩
      have C2 : Hid (∀ W, Keep w4 W → Calls Try.prog 15 #[.slice A n c, .slice (AA i) (L i) (C i)] W fun e w' => e = .returned (.int .i64 (cm (sm (2 ^ 32) f n) (sm (2 ^ 32) (F i) (L i)))) ∧ Keep w4 w') := Lib.hid fun W hW =>
        (rcmp_any A (AA i) n (L i) c (C i) f (F i) W (HX.out W hW).2.1 (HX.out W hW).2.2 lf hli hn hlc (by omega) (by omega)).mono fun e w' ⟨h1, h2⟩ => ⟨h1, hW.trans (h2.mono hW.size)⟩
      have hk0 : Keep w4 wr.drew := Below.drew hk
      have hx1 := (HX.out _ hk).1
      clear hcell hx hr hB4 hA4
      go_wp2
      go_region_held3 (fun w' => w'.cell? ⟨b, off + i, none⟩ = some (.slice (AA i) (L i) (C i)) ∧ Keep w4 w') (first | exact ⟨(HX.out _ ‹_›).1, ‹_›⟩ | exact ⟨(HX.out _ (And.right ‹_›)).1, (And.right ‹_›)⟩)
        (first
          | (go_at_call 14; refine (C1.out _ ?_).mono ?_; (first | assumption | exact And.right ‹_›); rintro e w' ⟨rfl, hk5⟩)
          | (go_at_call 15; refine (C2.out _ ?_).mono ?_; (first | assumption | exact And.right ‹_›); rintro e w' ⟨rfl, hk5⟩))
      all_goals
        go_wp2
        go_roundw
        case rel => exact ⟨i + 1, by omega, by go_num, ‹Keep w4 _›⟩
        case measure => simp [intOf]; omega
    · obtain rfl : i = m := by omega
      go_wp2_with (go_at_call 16; refine (awake_any _).mono ?_; rintro e w6 ⟨rfl, hb6⟩)
      go_ret
      exact ⟨rfl, hbw4.trans ((hk.trans (hb6.mono hk.size)).mono hbw4.size)⟩
end Go.Proofs.Ytfdgpfkjpjhmjaa.nn
