/- Joined texts, what is wanted of them: NumBackN, NumTextsW, NuT, NumOwn2. -/
import Derived.Test.YtljbnnpmnoejeaaGreatDoorJh
import Derived.Test.YtljbnnpmnoejeaaGreatDoorJb
import Derived.Test.YtljbnnpmnoejeaaGreatDoorJg
import Derived.Test.YtljbnnpmnoejeaaGreatDoorJc
import Derived.Test.YtljbnnpmnoejeaaGreatDoorJf
import Derived.Test.YtljbnnpmnoejeaaGreatDoorJi
import Derived.Test.YtljbnnpmnoejeaaGreatDoorJe
import Derived.Test.YtljbnnpmnoejeaaGreatDoorJa
import Derived.Test.YtljbnnpmnoejeaaGreatDoorJo
import Derived.Test.YtljbnnpmnoejeaaGreatDoorJd
import Derived.Test.YtljbnnpmnoejeaaGreatDoorJp
import Derived.Test.YtljbnnpmnoejeaaGreatDoorJk
import Derived.Test.YtljbnnpmnoejeaaGreatDoorJl
import Derived.Test.YtljbnnpmnoejeaaGreatDoorJm
import Derived.Test.YtljbnnpmnoejeaaGreatDoorJn
import Derived.Test.YtljbnnpmnoejeaaGreatDoorJs
namespace Go.Proofs.YtljbnnpmnoejeaaGreatDoor.nn
open Go.RowKit

theorem be_div {f : Nat → Nat} (hf : ∀ i, f i < 256) (k : Nat) : ∀ i, be f (i + k) / 256 ^ k = be f i := by
  induction k with
  | zero => intro i; rw [Nat.pow_zero, Nat.div_one, Nat.add_zero]
  | succ k ih =>
    intro i
    have h := hf (i + k)
    rw [← Nat.add_assoc, be, Nat.pow_succ, Nat.mul_comm (256 ^ k) 256, ← Nat.div_div_eq_div_mul, show (be f (i + k) * 256 + f (i + k)) / 256 = be f (i + k) by omega, ih i]
theorem be_at {f : Nat → Nat} (hf : ∀ i, f i < 256) {m i : Nat} (hi : i < m) : be f m / 256 ^ (m - 1 - i) % 256 = f i := by
  have h := be_div hf (m - 1 - i) (i + 1)
  rw [show i + 1 + (m - 1 - i) = m by omega] at h
  rw [h, be]
  have := hf i
  omega
/-- bytes that begin with no 0 are those of their number -/
theorem be_back {s : ByteArray} (h0 : 0 < s.size) (hz : bt s 0 ≠ 0) : nb (be (bt s) s.size) = s.size ∧ beT (be (bt s) s.size) = s := by
  have h1 := be_ge (b := bt s) h0 hz
  have h2 := be_lt (b := bt s) (n := s.size) (fun i _ => bt_lt s i)
  have hn : nb (be (bt s) s.size) = s.size := by
    have := nb_of (N := be (bt s) s.size) (j := s.size - 1) h1 (by rwa [show s.size - 1 + 1 = s.size by omega])
    omega
  refine ⟨hn, ?_⟩
  refine fba_ext (by rw [beT_size, hn]) fun i hi => ?_
  rw [beT_size, hn] at hi
  unfold beT
  have h := bt_pc (f := fun i => be (bt s) s.size / 256 ^ (nb (be (bt s) s.size) - 1 - i) % 256) (n := nb (be (bt s) s.size)) (i := i) (by rw [hn]; exact hi) (Nat.mod_lt _ (by decide))
  rw [h, hn]
  exact be_at (bt_lt s) hi
theorem vt_leaf {t : VT} (h : t.l.length = 0) : t = .mk t.k t.g t.n t.s [] := by
  obtain ⟨k, g, n, s, l⟩ := t
  have : l = [] := List.eq_nil_of_length_eq_zero h
  subst this
  rfl
theorem tv_back {t : VT} (h : txE t = 0) (hn : t.n < 18446744073709551616) :
    NmIs (txT t) (txT t).size 0 ∧ (txT t).size ≤ 300000 ∧ (VaIs (txT t) t 0 ∨ (VaIs (txT t) zt 8 ∧ 1200 < (txT t).size)) := by
  have hl : t.l.length = 0 := by
    rcases Nat.eq_zero_or_pos t.l.length with g | g
    · exact g
    · have := (tx_no (t := t) (.inl (by omega))).2; omega
  have ht := vt_leaf hl
  cases hw : sayW t with
  | true =>
    obtain ⟨e1, _⟩ := tx_whole hl hw
    rw [e1]
    have hcase : (t.k = 4 ∧ t.s.size = 0) ∨ (t.k = 5 ∧ t.n = 0 ∧ 8 < t.s.size ∧ t.s.size ≤ 512 ∧ bt t.s 0 ≠ 0) := by
      unfold sayW at hw
      rw [Bool.or_eq_true] at hw
      rcases hw with hw | hw
      · simp only [Bool.and_eq_true, decide_eq_true_eq] at hw
        exact .inl hw
      · simp only [Bool.and_eq_true, decide_eq_true_eq] at hw
        exact .inr ⟨hw.1.1, hw.1.2, of_decide_eq_true hw.2⟩
    have hX : amt t + 1 < big ∧ numT t.g (amt t) = t := by
      rcases hcase with ⟨h4, h0⟩ | ⟨h5, h0, s1, s2, s3⟩
      · have ha : amt t = t.n := if_pos h4
        rw [ha]
        have h8 := nb_small hn
        refine ⟨big_bytes (m := 8) (by omega) (Nat.lt_of_lt_of_le hn (by decide +kernel)), ?_⟩
        have hs : t.s = ⟨#[]⟩ := nil_of h0
        rw [ht]
        show numT t.g t.n = .mk t.k t.g t.n t.s []
        rw [h4, hs]
        unfold numT
        rw [if_neg (by omega)]
        rfl
      · have ha : amt t = be (bt t.s) t.s.size := if_neg (by omega)
        obtain ⟨b1, b2⟩ := be_back (s := t.s) (by omega) s3
        rw [ha]
        refine ⟨big_bytes s2 (be_lt fun i _ => bt_lt t.s i), ?_⟩
        rw [ht]
        show numT t.g (be (bt t.s) t.s.size) = .mk t.k t.g t.n t.s []
        rw [h5, h0]
        unfold numT
        rw [b1, b2, if_pos s1]
    obtain ⟨hb, hT⟩ := hX
    obtain ⟨X, hXX⟩ : ∃ X, amt t = X := ⟨_, rfl⟩
    obtain ⟨g, hg⟩ : ∃ g, t.g = g := ⟨_, rfl⟩
    rw [hXX, hg] at hT ⊢
    rw [hXX] at hb
    obtain ⟨n, hnn⟩ : ∃ n, (if g = true then X + 1 else X) = n := ⟨_, rfl⟩
    have hd : decT g X = sgT g ++ nT n := by unfold decT; rw [hnn]
    rw [hd]
    obtain ⟨f1, f2, f3, f4, f5, f6⟩ := dec_form g n
    have hsz := nT_size n
    have hnb : n < big := by rw [← hnn]; split <;> omega
    have hbg := nT_big hnb
    have hz : (sgT g ++ nT n).size = sgN g + (nT n).size := by rw [ByteArray.size_append, sgT_size]
    have hg1 : sgN g ≤ 1 := by unfold sgN; split <;> omega
    refine ⟨f1, by omega, ?_⟩
    by_cases hlen : (Lib.decDigits n).length ≤ 1200
    · left
      have hv := dec_value g n hlen
      have hne : ¬ (g = true ∧ n = 0) := by
        rintro ⟨rfl, h0⟩
        rw [if_pos rfl] at hnn
        omega
      have hless : lessT g n = X := by
        rw [← hnn]
        cases g with
        | true => show X + 1 - 1 = X; omega
        | false => rfl
      rw [if_neg hne, hless, hT] at hv
      exact hv
    · right
      exact ⟨.long f1 f2 (by omega), by omega⟩
  | false =>
    have hf : (sayF t && xaO t.n) = true := by
      cases hh : (sayF t && xaO t.n) with
      | true => rfl
      | false => have := (tx_no (t := t) (.inr ⟨hw, hh⟩)).2; omega
    have e1 : txT t = ftT t.n := by
      unfold txT
      rw [if_neg (by omega), hw, if_neg (by decide), if_pos hf]
    rw [Bool.and_eq_true] at hf
    obtain ⟨f1, f2, f3, f4⟩ := ft_form hn hf.2
    rw [e1]
    refine ⟨f1, by omega, .inl ?_⟩
    have hv := VaIs.flt f1 f2 f3
    have hF := hf.1
    unfold sayF at hF
    simp only [Bool.and_eq_true, decide_eq_true_eq, Bool.not_eq_true'] at hF
    have hs : t.s = ⟨#[]⟩ := nil_of hF.1.2
    rw [ht, hF.1.1, hF.2, hs]
    exact hv
end Go.Proofs.YtljbnnpmnoejeaaGreatDoor.nn
namespace Go.Proofs.YtljbnnpmnoejeaaGreatDoor.nn
open Go.RowKit

theorem tx_err {t : VT} (h : txE t ≠ 0) : txE t = 10 ∧ txT t = ⟨#[]⟩ := by
  unfold txE at h ⊢
  unfold txT
  by_cases g1 : t.l.length ≠ 0
  · rw [if_pos g1, if_pos g1]; exact ⟨rfl, rfl⟩
  · rw [if_neg g1] at h
    rw [if_neg g1, if_neg g1]
    by_cases g2 : sayW t = true
    · rw [if_pos g2] at h; exact absurd rfl h
    · rw [if_neg g2] at h
      rw [if_neg g2, if_neg g2]
      by_cases g3 : (sayF t && xaO t.n) = true
      · rw [if_pos g3] at h; exact absurd rfl h
      · rw [if_neg g3, if_neg g3]; exact ⟨rfl, rfl⟩
set_option maxRecDepth 100000 in
set_option maxHeartbeats 2000000 in
theorem ntexts_any (t : VT) (A : Option Addr) (c : Nat) (w : World) (hn : t.n < 18446744073709551616) (hsz : t.s.size ≤ 140737488351232)
    (HP : Hid (∀ W, Below w.heap.size w W → Calls Tryz.prog 11 #[vv t (.slice A t.l.length c)] W (TvAns t W))) :
    Calls Tryz.prog 4 #[vv t (.slice A t.l.length c)] w fun e w' => e = .returned (.bool true) ∧ Below w.heap.size w w' := by
  have HB0 := Lib.hid (Box.new w t (.slice A t.l.length c) 25)
  have H2 := Lib.hid (fun W => ntext_any t A c W hn hsz)
  have HA := Lib.hid (fun W => awake7 W)
  obtain ⟨T, hT⟩ : ∃ T, txT t = T := ⟨_, rfl⟩
  obtain ⟨E, hE⟩ : ∃ E, txE t = E := ⟨_, rfl⟩
  unfold TvAns at HP H2
  rw [hT, hE] at HP H2
  obtain ⟨m, hm⟩ : ∃ m, t.l.length = m := ⟨_, rfl⟩
  rw [hm] at HP H2 HB0 ⊢
  unfold vv at HP H2 ⊢
  clear hn hsz hT hE hm
  go_enter Tryz.func4, Tryz.ntmps4
  go_wp2_with fail
  refine (HP.out _ HB0.out.b).mono ?_
  rintro e w1 ⟨rfl, hb1⟩
  have B1 := Lib.hid (HB0.out.on hb1)
  have r := B1.out.r
  have a0 := r.k
  have a1 := r.g
  have a2 := r.n
  have a3 := r.s
  have a4 := r.l
  clear hb1 r
  go_wp2_with fail
  refine (H2.out _).mono ?_
  rintro e w2 ⟨rfl, hb2⟩
  have B2 := Lib.hid (B1.out.on hb2)
  clear hb2 a0 a1 a2 a3 a4
  go_wp2_with fail
  refine (HA.out _).mono ?_
  rintro e w3 ⟨rfl, hb3⟩
  have B3 := Lib.hid (B2.out.on hb3)
  clear hb3
  go_wp2_with fail
  go_ret
  exact ⟨rfl, B3.out.b⟩
set_option maxRecDepth 100000 in
set_option maxHeartbeats 4000000 in
theorem nback_no (t : VT) (A : Option Addr) (c : Nat) (w : World) (hE : txE t ≠ 0)
    (HP : Hid (∀ W, Below w.heap.size w W → Calls Tryz.prog 11 #[vv t (.slice A t.l.length c)] W (TvAns t W))) :
    Calls Tryz.prog 5 #[vv t (.slice A t.l.length c)] w fun e w' => e = .returned (.bool true) ∧ Below w.heap.size w w' := by
  have HB0 := Lib.hid (Box.new w t (.slice A t.l.length c) 25)
  have HA := Lib.hid (fun W => awake7 W)
  obtain ⟨e1, e2⟩ := tx_err hE
  unfold TvAns at HP
  rw [e1, e2] at HP
  obtain ⟨m, hm⟩ : ∃ m, t.l.length = m := ⟨_, rfl⟩
  rw [hm] at HP HB0 ⊢
  unfold vv at HP ⊢
  clear hE hm e1 e2
  go_enter Tryz.func5, Tryz.ntmps5
  go_wp2_with fail
  refine (HP.out _ HB0.out.b).mono ?_
  rintro e w1 ⟨rfl, hb1⟩
  have B1 := Lib.hid (HB0.out.on hb1)
  clear hb1
  go_wp2_with fail
  refine (HA.out _).mono ?_
  rintro e w3 ⟨rfl, hb3⟩
  have B3 := Lib.hid (B1.out.on hb3)
  clear hb3
  go_wp2_with fail
  go_ret
  exact ⟨rfl, B3.out.b⟩
set_option maxRecDepth 100000 in
set_option maxHeartbeats 4000000 in
theorem nback_yes (t : VT) (A : Option Addr) (c : Nat) (w : World) (hE : txE t = 0) (hn : t.n < 18446744073709551616)
    (HP : Hid (∀ W, Below w.heap.size w W → Calls Tryz.prog 11 #[vv t (.slice A t.l.length c)] W (TvAns t W)))
    (HV : Hid (∀ s W, s.size ≤ 300000 → Below w.heap.size w W → Calls Tryz.prog 7 #[.string s] W (VaAns s W))) :
    Calls Tryz.prog 5 #[vv t (.slice A t.l.length c)] w fun e w' => e = .returned (.bool true) ∧ Below w.heap.size w w' := by
  have HB0 := Lib.hid (Box.new w t (.slice A t.l.length c) 25)
  have HA := Lib.hid (fun W => awake7 W)
  obtain ⟨h1, h2, h3⟩ := tv_back hE hn
  have hl : t.l.length = 0 := by
    rcases Nat.eq_zero_or_pos t.l.length with g | g
    · exact g
    · have := (tx_no (t := t) (.inl (by omega))).2; omega
  unfold TvAns at HP
  obtain ⟨T, hT⟩ : ∃ T, txT t = T := ⟨_, rfl⟩
  rw [hT] at h1 h2 h3
  rw [hT, hE] at HP
  have HS := Lib.hid (fun W => pscan_is h1 (by omega) W)
  have HV1 := Lib.hid (fun W hW => HV.out T W h2 hW)
  have H3 := Lib.hid h3
  have HSM := Lib.hid (fun W => nsame_yes t A none c 0 W)
  rw [hl] at HP HB0 ⊢
  unfold vv at HP HSM ⊢
  clear h1 h3 hT hE hn hl HV
  go_enter Tryz.func5, Tryz.ntmps5
  go_wp2_with fail
  refine (HP.out _ HB0.out.b).mono ?_
  rintro e w1 ⟨rfl, hb1⟩
  have B1 := Lib.hid (HB0.out.on hb1)
  clear hb1 HP HB0
  go_wp2_with fail
  refine (HS.out _).mono ?_
  rintro e w2 ⟨rfl, hb2⟩
  have B2 := Lib.hid (B1.out.on hb2)
  clear hb2 HS B1
  go_wp2_with fail
  refine (HV1.out _ B2.out.b).mono ?_
  rintro e w3 ⟨u, E, rfl, h4, hb3⟩
  have B3 := Lib.hid (B2.out.on hb3)
  have G4 := Lib.hid h4
  clear hb3 HV1 B2 h4
  rcases H3.out with h5 | ⟨h5, h6⟩
  · obtain ⟨rfl, rfl⟩ := G4.out.uniq h5
    have X4 := Lib.hid (Box.new w3 u (.slice none 0 0) 25)
    have B4 := Lib.hid (B3.out.on X4.out.b)
    have r1 := B4.out.r
    have r2 := X4.out.r
    have a0 := r1.k
    have a1 := r1.g
    have a2 := r1.n
    have a3 := r1.s
    have a4 := r1.l
    have b0 := r2.k
    have b1 := r2.g
    have b2 := r2.n
    have b3 := r2.s
    have b4 := r2.l
    clear r1 r2 h5 H3 G4 X4 B3
    unfold vv nilS
    go_wp2_with fail
    refine (HSM.out _).mono ?_
    rintro e w5 ⟨rfl, hb5⟩
    have B5 := Lib.hid (B4.out.on hb5)
    clear hb5 a0 a1 a2 a3 a4 b0 b1 b2 b3 b4
    go_wp2_with fail
    refine (HA.out _).mono ?_
    rintro e w6 ⟨rfl, hb6⟩
    have B6 := Lib.hid (B5.out.on hb6)
    clear hb6
    go_wp2_with fail
    go_ret
    exact ⟨rfl, B6.out.b⟩
  · obtain ⟨rfl, rfl⟩ := G4.out.uniq h5
    have X4 := Lib.hid (Box.new w3 zt (.slice none 0 0) 25)
    have B4 := Lib.hid (B3.out.on X4.out.b)
    clear h5 H3 G4 X4 B3
    unfold vv nilS
    go_wp2_with fail
    refine (HA.out _).mono ?_
    rintro e w6 ⟨rfl, hb6⟩
    have B6 := Lib.hid (B4.out.on hb6)
    clear hb6
    go_wp2_with fail
    go_ret
    exact ⟨rfl, B6.out.b⟩
end Go.Proofs.YtljbnnpmnoejeaaGreatDoor.nn
namespace Go.Proofs.YtljbnnpmnoejeaaGreatDoor.nn
open Go.RowKit

/-- may a value be said -/
def rgB (t : VT) : Bool := decide (t.l.length = 0) && (sayW t || sayF t)
def RgAns (t : VT) (w : World) (e : Ending) (w' : World) : Prop := e = .returned (.bool (rgB t)) ∧ Below w.heap.size w w'
theorem rg_list {t : VT} (h : t.l.length ≠ 0) : rgB t = false := by unfold rgB; rw [decide_eq_false h]; rfl
theorem rg_four {t : VT} (h : t.l.length = 0) (hk : t.k = 4) : rgB t = decide (t.s.size = 0) := by
  unfold rgB sayW sayF
  rw [decide_eq_true h, decide_eq_true hk, decide_eq_false (show ¬ t.k = 5 by omega), decide_eq_false (show ¬ t.k = 8 by omega)]
  simp
theorem rg_five {t : VT} (h : t.l.length = 0) (hk : t.k = 5) : rgB t = (decide (t.n = 0) && bgOk t.s) := by
  unfold rgB sayW sayF
  rw [decide_eq_true h, decide_eq_false (show ¬ t.k = 4 by omega), decide_eq_true hk, decide_eq_false (show ¬ t.k = 8 by omega)]
  simp
theorem rg_eight {t : VT} (h : t.l.length = 0) (hk : t.k = 8) : rgB t = (!t.g && decide (t.s.size = 0)) := by
  unfold rgB sayW sayF
  rw [decide_eq_true h, decide_eq_false (show ¬ t.k = 4 by omega), decide_eq_false (show ¬ t.k = 5 by omega), decide_eq_true hk]
  cases t.g <;> simp
theorem rg_else {t : VT} (h4 : t.k ≠ 4) (h5 : t.k ≠ 5) (h8 : t.k ≠ 8) : rgB t = false := by
  unfold rgB sayW sayF
  rw [decide_eq_false h4, decide_eq_false h5, decide_eq_false h8]
  simp
set_option maxRecDepth 100000 in
set_option maxHeartbeats 4000000 in
theorem isRight_any (t : VT) (A : Option Addr) (m c : Nat) (w : World) (hm : t.l.length = m) (hsz : t.s.size ≤ 140737488351232) :
    Calls Tryz.prog 22 #[vv t (.slice A m c)] w (RgAns t w) := by
  have HB0 := Lib.hid (Box.new w t (.slice A m c) 25)
  unfold RgAns
  by_cases h0 : m = 0
  · subst h0
    by_cases h4 : t.k = 4
    · rw [rg_four hm h4]
      by_cases hs : t.s.size = 0
      · rw [decide_eq_true hs]
        have hS : t.s = ⟨#[]⟩ := nil_of hs
        unfold vv
        rw [h4, hS] at HB0 ⊢
        clear hs hS h4 hsz hm
        go_enter Tryz.func22, Tryz.ntmps22
        go_wp2_with fail
        go_ret
        exact ⟨rfl, HB0.out.b⟩
      · rw [decide_eq_false hs]
        have hne := not_nil_text (s := t.s) (by omega)
        unfold vv
        rw [h4] at HB0 ⊢
        clear hs h4 hsz hm
        go_enter Tryz.func22, Tryz.ntmps22
        go_wp2_with fail
        go_ret
        exact ⟨rfl, HB0.out.b⟩
    by_cases h5 : t.k = 5
    · rw [rg_five hm h5]
      obtain ⟨S, hS⟩ : ∃ S, t.s = S := ⟨_, rfl⟩
      obtain ⟨N, hN⟩ : ∃ S, t.n = S := ⟨_, rfl⟩
      unfold vv
      rw [h5, hS, hN] at HB0 ⊢
      rw [hS] at hsz
      clear hS hN h4 h5 hm
      by_cases hn : N = 0
      · subst hn
        by_cases s8 : 8 < S.size
        · by_cases s5 : S.size ≤ 512
          · obtain ⟨y, hyy, hy, hy256⟩ := byte_of (s := S) (a := 0) (by omega)
            by_cases hy0 : y = 0
            · have e1 : bgOk S = false := decide_eq_false (fun g => g.2.2 (hy.trans hy0))
              rw [e1]
              subst hy0
              clear e1 hy
              go_enter Tryz.func22, Tryz.ntmps22
              go_wp2_with fail
              go_ret
              exact ⟨rfl, HB0.out.b⟩
            · have e1 : bgOk S = true := decide_eq_true ⟨s8, s5, by rw [hy]; exact hy0⟩
              rw [e1]
              have hy1 : ((y : Int) == 0) = false := ne_i (by omega)
              have hy2 : ((y : Int) != 0) = true := by simp; omega
              clear e1 hy hy0
              go_enter Tryz.func22, Tryz.ntmps22
              go_wp2_with fail
              go_ret
              exact ⟨rfl, HB0.out.b⟩
          · have e1 : bgOk S = false := decide_eq_false (fun g => s5 g.2.1)
            rw [e1]
            clear e1
            go_enter Tryz.func22, Tryz.ntmps22
            go_wp2_with fail
            go_ret
            exact ⟨rfl, HB0.out.b⟩
        · have e1 : bgOk S = false := decide_eq_false (fun g => s8 g.1)
          rw [e1]
          clear e1
          go_enter Tryz.func22, Tryz.ntmps22
          go_wp2_with fail
          go_ret
          exact ⟨rfl, HB0.out.b⟩
      · rw [decide_eq_false hn]
        have hn1 : ((N : Int) == 0) = false := ne_i (by omega)
        clear hn
        go_enter Tryz.func22, Tryz.ntmps22
        go_wp2_with fail
        go_ret
        exact ⟨rfl, HB0.out.b⟩
    by_cases h8 : t.k = 8
    · rw [rg_eight hm h8]
      obtain ⟨G, hG⟩ : ∃ g, t.g = g := ⟨_, rfl⟩
      unfold vv
      rw [h8, hG] at HB0 ⊢
      clear hG h4 h5 h8 hm
      cases G with
      | true =>
        go_enter Tryz.func22, Tryz.ntmps22
        go_wp2_with fail
        go_ret
        exact ⟨rfl, HB0.out.b⟩
      | false =>
        by_cases hs : t.s.size = 0
        · rw [decide_eq_true hs]
          have hS : t.s = ⟨#[]⟩ := nil_of hs
          rw [hS] at HB0 ⊢
          clear hs hS hsz
          go_enter Tryz.func22, Tryz.ntmps22
          go_wp2_with fail
          go_ret
          exact ⟨rfl, HB0.out.b⟩
        · rw [decide_eq_false hs]
          have hne := not_nil_text (s := t.s) (by omega)
          clear hs hsz
          go_enter Tryz.func22, Tryz.ntmps22
          go_wp2_with fail
          go_ret
          exact ⟨rfl, HB0.out.b⟩
    · rw [rg_else h4 h5 h8]
      have n4 := ne_i h4
      have n5 := ne_i h5
      have n8 := ne_i h8
      unfold vv
      clear h4 h5 h8 hm
      go_enter Tryz.func22, Tryz.ntmps22
      go_wp2_with fail
      go_ret
      exact ⟨rfl, HB0.out.b⟩
  · rw [rg_list (by omega)]
    unfold vv
    clear hm
    go_enter Tryz.func22, Tryz.ntmps22
    go_wp2_with fail
    go_ret
    exact ⟨rfl, HB0.out.b⟩

def WfAns (x : Nat) (w : World) (e : Ending) (w' : World) : Prop := e = .returned (if xaO x = true then .tuple #[.string (ftT x), .int .i64 0] else .tuple #[.string ⟨#[]⟩, .int .i64 10]) ∧ Below w.heap.size w w'
set_option maxRecDepth 100000 in
set_option maxHeartbeats 2000000 in
theorem writeFloat_any (t : VT) (C : Value) (w : World) (hn : t.n < 18446744073709551616) (hP : Pow10 w) :
    Calls Tryz.prog 23 #[vv t C] w (WfAns t.n w) := by
  have HB0 := Lib.hid (Box.new w t C 25)
  have hPat := hP.at_
  have HT := Lib.hid (fun W (hW : Below w.heap.size w W) => ft_any t.n W hn (hP.below hW hPat))
  unfold WfAns
  obtain ⟨N, hN⟩ : ∃ n, t.n = n := ⟨_, rfl⟩
  have hr : ftR N = if xaO N = true then 0 else 1 := rfl
  unfold vv
  unfold TxAns at HT
  rw [hN] at HT HB0 ⊢
  cases hO : xaO N with
  | true =>
    rw [hO, if_pos rfl] at hr
    rw [hr] at HT
    rw [if_pos rfl]
    clear hP hPat hN hr hO hn
    go_enter Tryz.func23, Tryz.ntmps23
    go_wp2_with fail
    refine (HT.out _ HB0.out.b).mono ?_
    rintro e w1 ⟨rfl, hb⟩
    have B1 := Lib.hid (HB0.out.on hb)
    clear hb
    go_wp2_with fail
    go_ret2
    exact ⟨rfl, B1.out.b⟩
  | false =>
    rw [hO, if_neg (by decide)] at hr
    rw [hr] at HT
    rw [if_neg (by decide)]
    clear hP hPat hN hr hO hn
    go_enter Tryz.func23, Tryz.ntmps23
    go_wp2_with fail
    refine (HT.out _ HB0.out.b).mono ?_
    rintro e w1 ⟨rfl, hb⟩
    have B1 := Lib.hid (HB0.out.on hb)
    clear hb
    go_wp2_with fail
    go_ret2
    exact ⟨rfl, B1.out.b⟩

/-- a slice of limbs that hold an amount, not too many -/
structure Nu (w : World) (A : Option Addr) (n c : Nat) (f : Nat → Nat) (X : Nat) : Prop where
  le : n ≤ c
  cap : c ≤ maxLen
  rd : Rd w .u32 A n f
  lt : Lt (2 ^ 32) f n
  val : sm (2 ^ 32) f n = X
  sm : tr f n ≤ 4096
theorem Nu.of {w : World} {A : Option Addr} {n c : Nat} {f : Nat → Nat} {X : Nat} (h : Num w A n c f X) (hb : X < big) : Nu w A n c f X :=
  ⟨h.le, h.cap, h.rd, h.lt, h.val, Nat.le_trans (tr_le f n) (num_few h hb)⟩
theorem Nu.two {w : World} {g N : Nat} (h : Rd w .u32 (some ⟨g, 0, none⟩) 2 (lim2 N)) (hN : N < 18446744073709551616) : Nu w (some ⟨g, 0, none⟩) 2 2 (lim2 N) N := by
  refine ⟨Nat.le_refl _, by unfold maxLen; omega, h, fun i hi => ?_, ?_, Nat.le_trans (tr_le _ _) (by omega)⟩
  · have : i = 0 ∨ i = 1 := by omega
    rcases this with rfl | rfl
    · show N % 4294967296 < 2 ^ 32; omega
    · show N / 4294967296 < 2 ^ 32; omega
  · simp [nn.sm, lim2]
    omega
theorem Nu.keep {w w' : World} {A : Option Addr} {n c : Nat} {f : Nat → Nat} {X B : Nat} (h : Nu w A n c f X) (hb : Below B w w') (hB : w.heap.size ≤ B) : Nu w' A n c f X :=
  ⟨h.le, h.cap, h.rd.keep hb.size (fun b o hbo => hb.cell (p := ⟨b, o, none⟩) (Nat.lt_of_lt_of_le hbo hB)), h.lt, h.val, h.sm⟩
theorem pdigits_nu (A : Option Addr) (n c : Nat) (f : Nat → Nat) (X : Nat) (w : World) (h : Nu w A n c f X) (hP : Pow10 w) :
    Calls Tryz.prog 49 #[.slice A n c] w fun e w' => e = .returned (.tuple #[.string (nT X), .int .i64 0]) ∧ Below w.heap.size w w' := by
  have hle := h.sm
  have h1 := digits_any A n c f w h.rd h.lt h.le h.cap hP
  have e1 : (⟨(dgT n f).toArray⟩ : ByteArray) = nT X := by
    unfold dgT nT
    rw [if_neg (by omega), h.val]
  have e2 : dgE n f = 0 := by unfold dgE; rw [if_neg (by omega)]
  rw [e1, e2] at h1
  exact h1
theorem padd_one (A : Option Addr) (n c : Nat) (f : Nat → Nat) (X g : Nat) (e : TypeId) (w : World) (h : Nu w A n c f X) (hb : X + 1 < big) (hg : Limb w g 1) :
    Calls Tryz.prog 48 #[.slice A n c, .slice (some ⟨w.heap.size, 0, none⟩) 1 1] (w.alloc (.cells #[.slice (some ⟨g, 0, none⟩) 1 1] e)) fun e w' => ∃ A' n' c' f', e = .returned (.tuple #[.slice A' n' c', .int .i64 0]) ∧ Nu w' A' n' c' f' (X + 1) ∧ Below w.heap.size w w' := by
  have hr := rds_one w (some ⟨g, 0, none⟩) 1 1 (fun _ => 1) e hg (Nat.le_refl _) (by unfold maxLen; omega)
  have hle := h.sm
  have hA := (h.keep ((Below.refl w.heap.size w).alloc (Nat.le_refl _) (.cells #[.slice (some ⟨g, 0, none⟩) 1 1] e)) (Nat.le_refl _)).rd
  have ht : tot (fun _ => 1) (fun _ _ => 1) 1 = 1 := by simp [tot, nn.sm]
  have hl : lg (fun _ => 1) (fun _ _ => 1) 1 = false := by
    have h2 := tr_le (fun _ => 1) 1
    show (false || decide (4096 < tr (fun _ => 1) 1)) = false
    rw [decide_eq_false (by omega)]
    rfl
  have h1 := add_any A n c f (some ⟨w.heap.size, 0, none⟩) 1 1 _ _ _ _ _ hA h.le h.cap h.lt hr (Nat.le_refl _) (by unfold maxLen; omega) (fun _ _ _ _ => by show 1 < 2 ^ 32; decide) (by omega)
  have hno : ¬ (4096 < tr f n ∨ lg (fun _ => 1) (fun _ _ => 1) 1 = true) := by rw [hl]; simp; omega
  have hR : addR n f 1 (fun _ => 1) (fun _ _ => 1) = X + 1 := by unfold addR; rw [if_neg hno, ht, h.val, fitR_lt hb]
  have hE : addE n f 1 (fun _ => 1) (fun _ _ => 1) = 0 := by unfold addE; rw [if_neg hno, ht, h.val, fitE_lt hb]
  rw [hR, hE] at h1
  refine h1.mono ?_
  rintro e' w' ⟨A', n', c', f', rfl, h2, h3⟩
  exact ⟨A', n', c', f', rfl, Nu.of h2 hb, ((Below.refl _ _).alloc (Nat.le_refl _) _).trans (h3.mono (by rw [hsz]; omega))⟩
theorem pfromBytes_am (A : Option Addr) (m c X : Nat) (w : World) (h : Am w A m c X) :
    Calls Tryz.prog 47 #[.slice A m c] w fun e w' => ∃ A' n' c' f', e = .returned (.tuple #[.slice A' n' c', .int .i64 0]) ∧ Nu w' A' n' c' f' X ∧ Below w.heap.size w w' := by
  obtain ⟨⟨b, hr, lb, hX⟩, hf, hm, hc, hs⟩ := h
  obtain ⟨k, hk⟩ := lead_ex7 b m
  have h := fromBytes_any A m c b w hr lb hm hc k hk
  have e1 : fbR b m k = X := by unfold fbR; rw [if_neg (by omega), hX]
  have e2 : fbE m k = 0 := by unfold fbE; rw [if_neg (by omega)]
  rw [e1, e2] at h
  refine h.mono ?_
  rintro e w' ⟨A', n', c', f', rfl, h2, h3⟩
  have hb : X + 1 < big := big_bytes hs (by rw [← hX]; exact be_lt lb)
  exact ⟨A', n', c', f', rfl, Nu.of h2 (by omega), h3⟩
theorem amt_big {t : VT} (hw : sayW t = true) (hn : t.n < 18446744073709551616) : amt t + 1 < big := by
  unfold amt
  by_cases hk : t.k = 4
  · rw [if_pos hk]
    have : (18446744073709551616 : Nat) = 256 ^ 8 := by decide
    exact big_bytes (m := 8) (by omega) (by omega)
  · rw [if_neg hk]
    unfold sayW at hw
    rw [decide_eq_false hk, Bool.false_and, Bool.false_or] at hw
    simp only [Bool.and_eq_true] at hw
    have hb := of_decide_eq_true hw.2
    exact big_bytes hb.2.1 (be_lt fun i _ => bt_lt t.s i)
set_option maxRecDepth 100000 in
set_option maxHeartbeats 8000000 in
theorem writeWhole_any (t : VT) (C : Value) (w : World) (hw : sayW t = true) (hn : t.n < 18446744073709551616) (hP : Pow10 w) :
    Calls Tryz.prog 24 #[vv t C] w fun e w' => e = .returned (.string (decT t.g (amt t))) ∧ Below w.heap.size w w' := by
  have HB0 := Lib.hid (Box.new w t C 25)
  have hPat := hP.at_
  have hbig := amt_big hw hn
  have HL := Lib.hid (fun W => plong_any t.n W hn)
  have hk45 : t.k = 4 ∨ (t.k = 5 ∧ t.s.size ≤ 512) := by
    unfold sayW at hw
    simp only [Bool.or_eq_true, Bool.and_eq_true, decide_eq_true_eq] at hw
    rcases hw with h | h
    · exact .inl h.1
    · exact .inr ⟨h.1.1, (of_decide_eq_true h.2).2.1⟩
  have HK4 : Hid (t.k = 4 → ∀ W g, Rd W .u32 (some ⟨g, 0, none⟩) 2 (lim2 t.n) → Nu W (some ⟨g, 0, none⟩) 2 2 (lim2 t.n) (amt t)) := Lib.hid fun hk W g h => by
    have : amt t = t.n := by unfold amt; rw [if_pos hk]
    rw [this]
    exact Nu.two h hn
  have HK5 : Hid (t.k = 5 → be (bt t.s) t.s.size = amt t) := Lib.hid fun hk => by unfold amt; rw [if_neg (by omega)]
  have HPW := Lib.hid (fun W (hW : Below w.heap.size w W) => hP.below hW hPat)
  have HR : Hid (∀ W, Box w t C W → W.cell? ⟨w.heap.size, 0, none⟩ = some (.int .i64 t.k) ∧ W.cell? ⟨w.heap.size, 1, none⟩ = some (.bool t.g) ∧ W.cell? ⟨w.heap.size, 2, none⟩ = some (.int .u64 (t.n : Int)) ∧ W.cell? ⟨w.heap.size, 3, none⟩ = some (.string t.s)) := Lib.hid fun W h => ⟨h.r.k, h.r.g, h.r.n, h.r.s⟩
  have HBX : Hid (∀ W, Box w t C W → Below w.heap.size w W) := Lib.hid fun W h => h.b
  have HON : Hid (∀ W W', Box w t C W → Below W.heap.size W W' → Box w t C W') := Lib.hid fun W W' h h' => h.on h'
  obtain ⟨X, hX⟩ : ∃ X, amt t = X := ⟨_, rfl⟩
  obtain ⟨K, hK⟩ : ∃ k, t.k = k := ⟨_, rfl⟩
  obtain ⟨G, hG⟩ : ∃ g, t.g = g := ⟨_, rfl⟩
  obtain ⟨S, hS⟩ : ∃ s, t.s = s := ⟨_, rfl⟩
  obtain ⟨N, hN⟩ : ∃ n, t.n = n := ⟨_, rfl⟩
  unfold vv at *
  rw [hX] at HK4 HK5 hbig ⊢
  rw [hK] at HK4 HK5 HR hk45 HB0 ⊢
  rw [hG] at HR HB0 ⊢
  rw [hS] at HK5 HR hk45 HB0 ⊢
  rw [hN] at HK4 HR HL HB0 ⊢
  have HTX : Hid (decT G X = sgT G ++ nT (if G = true then X + 1 else X)) := Lib.hid rfl
  have HD := Lib.hid (fun A n c f Z W (h : Nu W A n c f Z) (hp : Pow10 W) => pdigits_nu A n c f Z W h hp)
  have HA1 := Lib.hid (fun A n c f g e W (h : Nu W A n c f X) (hg : Limb W g 1) => padd_one A n c f X g e W h hbig hg)
  have HO := Lib.hid (fun W => one_any W)
  have hz1 := nT_big hbig
  have hz0 := nT_big (show X < big by omega)
  have hb9 : ¬ 9223372036854775807 < 1 + (nT (X + 1)).size := by omega
  have hb8 : ¬ 9223372036854775807 < (nT X).size := by omega
  have hb7 : ¬ 9223372036854775807 < 0 + (nT X).size := by omega
  clear hP hPat hbig hw hn hX hK hG hS hN hz1 hz0
  go_enter Tryz.func24, Tryz.ntmps24
  go_wp2_with fail
  refine (HL.out _).mono ?_
  rintro e w1 ⟨g1, rfl, hg1, hb1⟩
  have G1 := Lib.hid hg1
  have B1 := Lib.hid (HON.out _ _ HB0.out hb1)
  obtain ⟨q0, q1, q2, q3⟩ := HR.out _ B1.out
  clear hg1 hb1 HL HB0
  go_upto_if 12 with (fail)
  go_cut [3] (fun s3 wx => ∃ A n c f, s3 = .slice A n c ∧ Hid (Nu wx A n c f X ∧ Box w t C wx))
  case first =>
    rcases hk45 with rfl | ⟨rfl, h512⟩
    · have HN := Lib.hid (HK4.out rfl _ _ G1.out)
      clear HK4 HK5 HD HA1 HO
      go_wp2_with fail
      go_meet
      exact ⟨_, _, _, _, rfl, Lib.hid ⟨HN.out, B1.out⟩⟩
    · have HX := Lib.hid (HK5.out rfl)
      have kc := Lib.run_convert_string_bytes (P := Tryz.prog) w1 9 41 5 S Tryz.underlying9 Tryz.underlying41 Tryz.underlying5
      have hO := OwnM.bytes w1 5 S (by unfold maxLen; omega)
      have HBx := Lib.hid (HON.out _ _ B1.out (below_bytes w1 5 S))
      generalize Lib.bytesWorld w1 5 S = W1 at kc hO HBx
      generalize grownCap w1 S.size 0 5 = c1 at kc hO
      have HAm : Hid (Am W1 (some ⟨w1.heap.size, 0, none⟩) S.size c1 X) := Lib.hid (by
        have hcm : S.size ≤ c1 ∧ c1 ≤ maxLen := by
          rcases hO.2 with ⟨h, _⟩ | ⟨g, cap, cur, fz, h, _, _, _, h1, h2, _⟩
          · injection h with h; cases h
          · injection h with _ _ h3; subst h3; exact ⟨h1, h2⟩
        refine ⟨⟨bt S, fun hp => ⟨w1.heap.size, 0, rfl, ?_, fun i hi => ?_⟩, fun i hi => bt_lt S i, HX.out⟩, .inr ⟨_, _, rfl⟩, hcm.1, hcm.2, h512⟩
        · exact (hO.lt _ rfl).2
        · have h := hO.cells (g := w1.heap.size) rfl i (.int .u8 (bt S i : Int)) (by
            rw [List.getElem?_map, List.getElem?_eq_getElem (show i < S.data.toList.length from hi)]
            rw [bt_at hi]
            rfl)
          rw [Nat.zero_add]
          rwa [show (⟨w1.heap.size, 0, none⟩ : Addr).add i = ⟨w1.heap.size, i, none⟩ from by unfold Addr.add; split <;> simp_all] at h)
      have HF := Lib.hid (pfromBytes_am _ _ _ _ _ HAm.out)
      clear hO HK4 HK5 HD HA1 HO HAm HX
      go_wp2_with fail
      refine HF.out.mono ?_
      rintro e w2 ⟨A2, n2, c2, f2, rfl, hn2, hb2⟩
      have HH := Lib.hid (And.intro hn2 (HON.out _ _ HBx.out hb2))
      clear hn2 hb2 kc
      go_wp2_with fail
      go_meet
      exact ⟨A2, n2, c2, f2, rfl, HH⟩
  case rest =>
    obtain ⟨A2, n2, c2, f2, rfl, hNB⟩ := hcut
    have p1 := (HR.out _ hNB.out.2).2.1
    clear q0 q1 q2 q3 B1 G1 HK4 HK5
    cases G with
    | false =>
      have HD1 := Lib.hid (HD.out A2 n2 c2 f2 X wc hNB.out.1 (HPW.out _ (HBX.out _ hNB.out.2)))
      clear HA1 HD HO
      go_wp2_with fail
      refine HD1.out.mono ?_
      rintro e w3 ⟨rfl, hb3⟩
      have B3 := Lib.hid (HON.out _ _ hNB.out.2 hb3)
      clear hb3
      go_wp2_with fail
      go_ret
      exact ⟨by rw [HTX.out]; rfl, HBX.out _ B3.out⟩
    | true =>
      go_wp2_with fail
      refine (HO.out _).mono ?_
      rintro e w3 ⟨g3, rfl, hg3, hb3⟩
      have HA2 := Lib.hid (fun e => HA1.out A2 n2 c2 f2 g3 e w3 (hNB.out.1.keep hb3 (Nat.le_refl _)) hg3)
      have B3 := Lib.hid (HON.out _ _ hNB.out.2 hb3)
      clear hg3 hb3 p1
      go_wp2_with fail
      refine (HA2.out _).mono ?_
      rintro e w4 ⟨A4, n4, c4, f4, rfl, hn4, hb4⟩
      have B4 := Lib.hid (HON.out _ _ B3.out hb4)
      have HD1 := Lib.hid (HD.out A4 n4 c4 f4 (X + 1) w4 hn4 (HPW.out _ (HBX.out _ B4.out)))
      clear hn4 hb4 HA1 HA2 HD
      go_wp2_with fail
      refine HD1.out.mono ?_
      rintro e w5 ⟨rfl, hb5⟩
      have B5 := Lib.hid (HON.out _ _ B4.out hb5)
      clear hb5
      go_wp2_with fail
      go_ret
      exact ⟨by rw [HTX.out]; rfl, HBX.out _ B5.out⟩
set_option maxRecDepth 100000 in
set_option maxHeartbeats 4000000 in
theorem ptext_any (t : VT) (A : Option Addr) (c : Nat) (w : World) (hn : t.n < 18446744073709551616) (hsz : t.s.size ≤ 140737488351232) (hP : Pow10 w) :
    Calls Tryz.prog 11 #[vv t (.slice A t.l.length c)] w (TvAns t w) := by
  have HB0 := Lib.hid (Box.new w t (.slice A t.l.length c) 25)
  have hPat := hP.at_
  have HI := Lib.hid (fun W => isRight_any t A t.l.length c W rfl hsz)
  unfold TvAns
  unfold RgAns at HI
  cases hrg : rgB t with
  | false =>
    have hno : txT t = ⟨#[]⟩ ∧ txE t = 10 := by
      unfold rgB at hrg
      by_cases hl : t.l.length = 0
      · rw [decide_eq_true hl, Bool.true_and, Bool.or_eq_false_iff] at hrg
        exact tx_no (.inr ⟨hrg.1, by rw [hrg.2]; rfl⟩)
      · exact tx_no (.inl hl)
    rw [hno.1, hno.2]
    rw [hrg] at HI
    unfold vv at HI ⊢
    clear hP hPat hrg hno hn hsz
    obtain ⟨m, hm⟩ : ∃ m, t.l.length = m := ⟨_, rfl⟩
    rw [hm] at HI HB0 ⊢
    clear hm
    go_enter Tryz.func11, Tryz.ntmps11
    go_wp2_with fail
    refine (HI.out _).mono ?_
    rintro e w1 ⟨rfl, hb1⟩
    have B1 := Lib.hid (HB0.out.on hb1)
    clear hb1
    go_wp2_with fail
    go_ret2
    exact ⟨rfl, B1.out.b⟩
  | true =>
    have hrg' := hrg
    unfold rgB at hrg
    rw [Bool.and_eq_true, Bool.or_eq_true] at hrg
    have hl : t.l.length = 0 := of_decide_eq_true hrg.1
    rw [hrg'] at HI
    by_cases h8 : t.k = 8
    · have hF : sayF t = true := by
        rcases hrg.2 with h | h
        · rw [sayW_ne (by omega) (by omega)] at h; exact absurd h (by decide)
        · exact h
      have HW := Lib.hid (fun W (hW : Below w.heap.size w W) => writeFloat_any t (.slice A t.l.length c) W hn (hP.below hW hPat))
      have hTT : (if xaO t.n = true then Value.tuple #[.string (ftT t.n), .int .i64 0] else .tuple #[.string ⟨#[]⟩, .int .i64 10]) = .tuple #[.string (txT t), .int .i64 (txE t : Int)] := by
        cases hO : xaO t.n with
        | true =>
          have e1 : txT t = ftT t.n := by unfold txT; rw [if_neg (by omega), sayW_ne (by omega) (by omega), if_neg (by decide), hF, hO, if_pos (by rfl)]
          have e2 : txE t = 0 := by unfold txE; rw [if_neg (by omega), sayW_ne (by omega) (by omega), if_neg (by decide), hF, hO, if_pos (by rfl)]
          rw [if_pos rfl, e1, e2]
          rfl
        | false =>
          obtain ⟨e1, e2⟩ := tx_no (t := t) (.inr ⟨sayW_ne (by omega) (by omega), by rw [hO, Bool.and_false]⟩)
          rw [if_neg (by decide), e1, e2]
          rfl
      unfold WfAns at HW
      rw [hTT] at HW
      obtain ⟨T, hT⟩ : ∃ T, txT t = T := ⟨_, rfl⟩
      obtain ⟨E, hE⟩ : ∃ E, txE t = E := ⟨_, rfl⟩
      rw [hT, hE] at HW ⊢
      unfold vv at HI HW ⊢
      rw [hl] at HI HW HB0 ⊢
      rw [h8] at HI HW HB0 ⊢
      have HR : Hid (∀ W, Box w t (.slice A 0 c) W → W.cell? ⟨w.heap.size, 0, none⟩ = some (.int .i64 8) ∧ W.cell? ⟨w.heap.size, 1, none⟩ = some (.bool t.g) ∧ W.cell? ⟨w.heap.size, 2, none⟩ = some (.int .u64 (t.n : Int)) ∧ W.cell? ⟨w.heap.size, 3, none⟩ = some (.string t.s) ∧ W.cell? ⟨w.heap.size, 4, none⟩ = some (.slice A 0 c)) := Lib.hid fun W h => ⟨by rw [← h8]; exact h.r.k, h.r.g, h.r.n, h.r.s, h.r.l⟩
      clear hP hPat hrg hrg' hn hsz hTT hT hE hF h8 hl
      go_enter Tryz.func11, Tryz.ntmps11
      go_wp2_with fail
      refine (HI.out _).mono ?_
      rintro e w1 ⟨rfl, hb1⟩
      have B1 := Lib.hid (HB0.out.on hb1)
      obtain ⟨a0, a1, a2, a3, a4⟩ := HR.out _ B1.out
      clear hb1
      go_wp2_with fail
      refine (HW.out _ B1.out.b).mono ?_
      rintro e w2 ⟨rfl, hb2⟩
      have B2 := Lib.hid (B1.out.on hb2)
      clear hb2
      go_wp2_with fail
      go_ret2
      exact ⟨rfl, B2.out.b⟩
    · have hW : sayW t = true := by
        rcases hrg.2 with h | h
        · exact h
        · rw [sayF_ne h8] at h; exact absurd h (by decide)
      obtain ⟨e1, e2⟩ := tx_whole hl hW
      have HW := Lib.hid (fun W (hW2 : Below w.heap.size w W) => writeWhole_any t (.slice A t.l.length c) W hW hn (hP.below hW2 hPat))
      rw [← e1] at HW
      rw [e2]
      obtain ⟨T, hT⟩ : ∃ T, txT t = T := ⟨_, rfl⟩
      rw [hT] at HW ⊢
      unfold vv at HI HW ⊢
      rw [hl] at HI HW HB0 ⊢
      have n8 := ne_i h8
      have HR : Hid (∀ W, Box w t (.slice A 0 c) W → W.cell? ⟨w.heap.size, 0, none⟩ = some (.int .i64 t.k) ∧ W.cell? ⟨w.heap.size, 1, none⟩ = some (.bool t.g) ∧ W.cell? ⟨w.heap.size, 2, none⟩ = some (.int .u64 (t.n : Int)) ∧ W.cell? ⟨w.heap.size, 3, none⟩ = some (.string t.s) ∧ W.cell? ⟨w.heap.size, 4, none⟩ = some (.slice A 0 c)) := Lib.hid fun W h => ⟨h.r.k, h.r.g, h.r.n, h.r.s, h.r.l⟩
      clear hP hPat hrg hrg' hn hsz hT e1 e2 hW h8 hl
      go_enter Tryz.func11, Tryz.ntmps11
      go_wp2_with fail
      refine (HI.out _).mono ?_
      rintro e w1 ⟨rfl, hb1⟩
      have B1 := Lib.hid (HB0.out.on hb1)
      obtain ⟨a0, a1, a2, a3, a4⟩ := HR.out _ B1.out
      clear hb1
      go_wp2_with fail
      refine (HW.out _ B1.out.b).mono ?_
      rintro e w2 ⟨rfl, hb2⟩
      have B2 := Lib.hid (B1.out.on hb2)
      clear hb2
      go_wp2_with fail
      go_ret2
      exact ⟨rfl, B2.out.b⟩
end Go.Proofs.YtljbnnpmnoejeaaGreatDoor.nn
namespace Go.Proofs.YtljbnnpmnoejeaaGreatDoor.nn
open Go.RowKit

theorem ntextsL_any (t : VT) (A : Option Addr) (c : Nat) (hn : t.n < 18446744073709551616) (hsz : t.s.size ≤ 140737488351232) (w : World) (hP : Pow10 w) :
    Calls Tryz.prog 4 #[vv t (.slice A t.l.length c)] w fun e w' => e = .returned (.bool true) ∧ Below w.heap.size w w' := ntexts_any t A c w hn hsz (Lib.hid fun W hW => ptext_any t A c W hn hsz (hP.below hW hP.at_))
theorem nbackL_any (t : VT) (A : Option Addr) (c : Nat) (hn : t.n < 18446744073709551616) (hsz : t.s.size ≤ 140737488351232) (w : World) (hP : Pow10 w) :
    Calls Tryz.prog 5 #[vv t (.slice A t.l.length c)] w fun e w' => e = .returned (.bool true) ∧ Below w.heap.size w w' := by
  by_cases hE : txE t = 0
  · exact nback_yes t A c w hE hn (Lib.hid fun W hW => ptext_any t A c W hn hsz (hP.below hW hP.at_)) (Lib.hid fun s W hs _ => pvalue_any s W (by omega))
  · exact nback_no t A c w hE (Lib.hid fun W hW => ptext_any t A c W hn hsz (hP.below hW hP.at_))
end Go.Proofs.YtljbnnpmnoejeaaGreatDoor.nn
