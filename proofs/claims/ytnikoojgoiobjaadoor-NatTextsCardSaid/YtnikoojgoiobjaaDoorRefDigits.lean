/- The walk of the document's Digits. -/
import Derived.Test.YtnikoojgoiobjaaDoorDecNum
import Derived.Test.YtnikoojgoiobjaaDoorDigits
import Derived.Test.YtnikoojgoiobjaaDoorRefDivSmall
import Derived.Test.YtnikoojgoiobjaaDoorBytes
namespace Go.Proofs.YtnikoojgoiobjaaDoor.nn
open Go.RowKit

theorem nd_cap {V K : Nat} (h : bl V ≤ K) : (Lib.decDigits V).length ≤ K + 1 := by
  rw [Lib.decDigits_length]
  exact nd_le (K + 1) V (by omega) (Nat.lt_of_lt_of_le (bl_lt V) (Nat.le_trans (Nat.pow_le_pow_right (by decide) h) (Nat.le_trans (Nat.pow_le_pow_left (by decide : 2 ≤ 10) K) (Nat.pow_le_pow_right (by decide) (Nat.le_succ K)))))
def D9 : Nat := 1000000000
/-- what is not yet written of the digits of one piece: all nine, or without zeros ahead -/
def rem9 (full : Bool) (i rc : Nat) : List UInt8 := if full = true then fw (9 - i) rc else if rc = 0 then [] else Lib.decDigits rc
theorem rem9_step {full : Bool} {i rc : Nat} (h : if full = true then i < 9 else rc ≠ 0) : rem9 full i rc = rem9 full (i + 1) (rc / 10) ++ [UInt8.ofNat (48 + rc % 10)] := by
  cases full with
  | true =>
    have h9 : i < 9 := h
    unfold rem9
    rw [if_pos rfl, if_pos rfl, show 9 - i = (9 - (i + 1)) + 1 by omega, fw]
  | false =>
    have hr : rc ≠ 0 := h
    unfold rem9
    rw [if_neg (show ¬ (false = true) by decide), if_neg (show ¬ (false = true) by decide), if_neg hr]
    by_cases h10 : rc < 10
    · rw [if_pos (by omega), Lib.decDigits_one h10, Nat.mod_eq_of_lt h10]; rfl
    · rw [if_neg (by omega), dec_big h10]
/-- the last piece or one more -/
theorem dec_piece {X : Nat} (h : X ≠ 0) : Lib.decDigits X = (if X / D9 ≠ 0 then Lib.decDigits (X / D9) else []) ++ rem9 (decide (X / D9 ≠ 0)) 0 (X % D9) := by
  by_cases h0 : X / D9 ≠ 0
  · rw [if_pos h0, decide_eq_true h0]
    unfold rem9
    have h1 := dec_join 9 (X / D9) (X % D9) h0 (Nat.mod_lt _ (by decide))
    rw [show (10 : Nat) ^ 9 = D9 from rfl, Nat.mul_comm, Nat.div_add_mod] at h1
    rw [if_pos rfl, h1]
  · have e : X / D9 = 0 := by omega
    have e2 : X % D9 = X := Nat.mod_eq_of_lt (by
      rcases Nat.lt_or_ge X D9 with h1 | h1
      · exact h1
      · have := Nat.div_pos h1 (by decide : 0 < D9); omega)
    rw [if_neg h0, decide_eq_false h0, e2]
    unfold rem9
    rw [if_neg (by decide), if_neg h, List.nil_append]
theorem Num.keep {w w' : World} {A : Option Addr} {n c R : Nat} {f : Nat → Nat} (h : Num w A n c f R) (hb : Below w.heap.size w w') : Num w' A n c f R := ⟨h.le, h.cap, h.rd.below hb, h.lt, h.trm, h.val⟩
theorem one_byte {d : Nat} : (pc (fun _ => d) 1).data.toList = [UInt8.ofNat d] := rfl
theorem app_list (a b : ByteArray) : (a ++ b).data.toList = a.data.toList ++ b.data.toList := by
  rw [ByteArray.data_append, Array.toList_append]

set_option maxRecDepth 100000 in
set_option maxHeartbeats 2000000 in
theorem rdigits_any (A : Option Addr) (n c : Nat) (f : Nat → Nat) (w : World) (hA : Rd w .u32 A n f) (lf : Lt (2 ^ 32) f n) (hn : n ≤ c) (hc : c * 4 ≤ 140737488351232) :
    Calls Tryd.prog 13 #[.slice A n c] w fun e w' => e = .returned (.tuple #[.string ⟨(dgT n f).toArray⟩, .int .i64 (dgE n f : Int)]) ∧ Below w.heap.size w w' := by
  have hcm : c ≤ maxLen := by unfold maxLen; omega
  have hbw1 : Below w.heap.size w (w.alloc (.cells #[.slice A n c] 22)) := (Below.refl _ _).alloc (Nat.le_refl _) _
  have hlong := rlong_any _ 1 1 _ _ _ _ _ (rds_one w A n c f 22 hA hn hcm) (by simp [maxLen]) (fun i hi => by omega)
  have e1 : lg (fun _ => n) (fun _ => f) 1 = decide (4096 < tr f n) := by simp only [lg, Bool.false_or]
  rw [e1] at hlong
  by_cases hl : 4096 < tr f n
  · have H1 : dgT n f = [] := if_pos hl
    have H2 : dgE n f = 2 := if_pos hl
    rw [decide_eq_true hl] at hlong
    have HL := Lib.hid hlong
    rw [H1, H2]
    clear hl hlong e1 H1 H2
    go_enter Tryd.func13, Tryd.ntmps13
    go_wp2_with fail
    refine HL.out.mono ?_
    rintro e w2 ⟨rfl, hb2⟩
    go_wp2_with fail
    go_ret2
    exact ⟨rfl, hbw1.trans (hb2.mono (by rw [hsz]; omega))⟩
  · have lt' := lf.mono (tr_le f n)
    have hVb : sm (2 ^ 32) f n < big := Nat.lt_of_not_le fun h => hl ((long_iff lf).2 h)
    have hbl : bl (sm (2 ^ 32) f n) ≤ 32 * 4096 := by
      refine Nat.le_trans (bl_le (k := 32 * tr f n) ?_) (by omega)
      rw [Nat.pow_mul 2 32 (tr f n), ← sm_tr]
      exact sm_lt lt'
    have hsm := sm_tr (2 ^ 32) f n
    obtain ⟨V, hV⟩ : ∃ V, sm (2 ^ 32) f n = V := ⟨_, rfl⟩
    have H1 : dgT n f = Lib.decDigits V := by unfold dgT; rw [if_neg hl, hV]
    have H2 : dgE n f = 0 := by unfold dgE; rw [if_neg hl]
    rw [hV] at hVb hbl hsm
    obtain ⟨p, hp⟩ : ∃ p, tr f n = p := ⟨_, rfl⟩
    have HTR : Hid (∀ W, Below w.heap.size w W → Calls Tryd.prog 26 #[.slice A n c] W fun e w' => ∃ A' c', e = .returned (.slice A' p c') ∧ Num w' A' p c' f V ∧ Below W.heap.size W w') := Lib.hid fun W hW => by
      refine (rtrim_any A n c f W (hA.below hW) hn (by omega)).mono ?_
      rintro e w' ⟨v, rfl, ho, hb⟩
      obtain ⟨A', c', rfl, k1, k2, hr⟩ := Rd.of_own ho
      rw [hp] at hr k1 lt' hsm ⊢
      exact ⟨A', c', rfl, ⟨k1, k2, hr, lt', by rw [← hp]; exact tr_trm f n, hsm⟩, hb⟩
    have hp4 : p ≤ 4096 := by omega
    obtain ⟨LV, hLV⟩ : ∃ LV, (Lib.decDigits V).length = LV := ⟨_, rfl⟩
    have hLV1 : LV ≤ 131073 := by rw [← hLV]; exact nd_cap hbl
    have HV := Lib.hid (And.intro hVb hLV)
    rw [decide_eq_false hl] at hlong
    have HL := Lib.hid hlong
    rw [H1, H2]
    clear hlong e1 H1 H2 hl lt' hVb hbl hsm hV hp lf hA hLV
    go_enter Tryd.func13, Tryd.ntmps13
    go_wp2_with fail
    refine HL.out.mono ?_
    rintro e w2 ⟨rfl, hb2⟩
    have hbw2 : Below w.heap.size w w2 := hbw1.trans (hb2.mono (by rw [hsz]; omega))
    clear hb2
    go_wp2_with fail
    refine (HTR.out _ hbw2).mono ?_
    rintro e w3 ⟨A3, c3, rfl, hn3, hb3⟩
    have HN3 := Lib.hid hn3
    have HB3 := Lib.hid (hbw2.trans (hb3.mono hbw2.size))
    clear hn3 hb3 hbw1 hbw2 hcm
    by_cases hp0 : p = 0
    · subst hp0
      have hV0 : V = 0 := by have := HN3.out.val; simp [sm] at this; exact this.symm
      subst hV0
      have hdec : (⟨(Lib.decDigits 0).toArray⟩ : ByteArray) = ⟨#[48]⟩ := by rw [Lib.decDigits_one (by decide)]; rfl
      have HD := Lib.hid hdec
      clear hdec
      go_wp2_with fail
      go_ret2
      exact ⟨by rw [HD.out]; rfl, HB3.out⟩
    · have hp1 : ((p : Int) == 0) = false := by simp; omega
      go_wp2_with fail
      clear hp1
      go_loopw [4, 5] (fun s4 s5 wr => ∃ (A' : Option Addr) (n' c' : Nat) (f' : Nat → Nat) (S : ByteArray) (X : Nat), s4 = .slice A' n' c' ∧ s5 = .string S ∧ n' ≤ 4096 ∧ Hid (S.size ≤ LV) ∧ Hid (Num wr A' n' c' f' X ∧ Below w.heap.size w wr) ∧ Hid (Lib.decDigits V = (if X ≠ 0 then Lib.decDigits X else []) ++ S.data.toList)) (fun _ s5 _ => match s5 with | .string S => LV + 1 - S.size | _ => 0)
      case atStart => exact ⟨A3, p, c3, f, ⟨#[]⟩, V, rfl, rfl, hp4, Lib.hid (Nat.zero_le _), Lib.hid ⟨HN3.out, HB3.out⟩, Lib.hid (by
        have hV0 : V ≠ 0 := by
          intro h
          have h1 := sm_pos (Nat.two_pow_pos 32) HN3.out.trm hp0
          have h2 := HN3.out.val
          omega
        rw [if_pos hV0]
        simp)⟩
      case round =>
        obtain ⟨A', n', c', f', S, X, rfl, rfl, hn4, hS, hW, hI⟩ := hrel
        by_cases hn0 : n' = 0
        · subst hn0
          have hX : X = 0 := by have := hW.out.1.val; simp [sm] at this; exact this.symm
          have HD : Hid ((⟨(Lib.decDigits V).toArray⟩ : ByteArray) = S) := Lib.hid (by
            have h := hI.out
            rw [if_neg (by omega), List.nil_append] at h
            apply ByteArray.ext
            rw [h])
          clear hX
          go_wp2_with fail
          go_ret2
          exact ⟨by rw [HD.out]; rfl, hW.out.2⟩
        · have hn1 : 0 < n' := by omega
          have hX : X ≠ 0 := by
            intro h
            have h1 := sm_pos (Nat.two_pow_pos 32) hW.out.1.trm hn0
            have h2 := hW.out.1.val
            omega
          have hle := tr_le f' n'
          have hXb : X < big := by rw [← hW.out.1.val]; exact Nat.lt_of_lt_of_le (sm_lt hW.out.1.lt) (le_big hn4)
          have HXB := Lib.hid hXb
          have q1 : smQ n' f' 1000000000 = X / D9 := by unfold smQ; rw [if_neg (by omega), hW.out.1.val]; rfl
          have q2 : smR n' f' 1000000000 = X % D9 := by unfold smR; rw [if_neg (by omega), if_neg (by decide), hW.out.1.val]; rfl
          have q3 : smE n' f' 1000000000 = 0 := by unfold smE; rw [if_neg (by omega), if_neg (by decide)]
          have hds := rdivSmall_all A' n' c' 1000000000 f' wr hW.out.1.rd hW.out.1.lt hW.out.1.le hW.out.1.cap (by omega) (by decide)
          rw [q1, q2, q3] at hds
          have HDS := Lib.hid hds
          have hpc := dec_piece hX
          have hdd : D9 = 1000000000 := rfl
          have hr : X % D9 < 1000000000 := Nat.mod_lt _ (by decide)
          obtain ⟨r, hrr⟩ : ∃ r, X % D9 = r := ⟨_, rfl⟩
          obtain ⟨X2, hX2⟩ : ∃ X2, X / D9 = X2 := ⟨_, rfl⟩
          rw [hrr, hX2] at hpc HDS
          rw [hrr] at hr
          have HXX : Hid (X2 ≤ X) := Lib.hid (by rw [← hX2]; exact Nat.div_le_self _ _)
          have hJ := hI.out
          rw [if_pos hX, hpc, List.append_assoc] at hJ
          have HJ := Lib.hid hJ
          have HRX : Hid (X2 = 0 → r ≠ 0) := Lib.hid fun h => by
            intro h2
            have := Nat.div_add_mod X D9
            rw [hX2, hrr, h, h2] at this
            omega
          clear hXb hle q1 q2 q3 hds hpc hrr hX2 hJ hI hdd hX hn0
          go_wp2_with fail
          refine HDS.out.mono ?_
          rintro e w6 ⟨A6, n6, c6, f6, rfl, hn6, hb6⟩
          have HN6 := Lib.hid hn6
          have HB6 := Lib.hid (hW.out.2.trans (hb6.mono hW.out.2.size))
          have h64 : n6 ≤ 4096 := by
            rcases Nat.lt_or_ge 4096 n6 with h | h
            · have h1 := trm_long hn6.trm h
              rw [hn6.val] at h1
              exact absurd (Nat.lt_of_le_of_lt HXX.out HXB.out) (by omega)
            · exact h
          clear hn6 hb6 HDS
          go_wp2_with fail
          by_cases hn60 : n6 = 0
          · have hX2 : X2 = 0 := by subst hn60; have := HN6.out.val; simp [sm] at this; exact this.symm
            subst hX2
            have hr0 : r ≠ 0 := HRX.out rfl
            have HR0 := Lib.hid hr0
            have HJ2 : Hid (Lib.decDigits V = rem9 false 0 r ++ S.data.toList) := Lib.hid (by have h := HJ.out; rw [if_neg (by omega), decide_eq_false (by omega), List.nil_append] at h; exact h)
            subst hn60
            clear hr0
            go_loopw [7, 9, 10] (fun s7 s9 s10 wr => ∃ (i rc : Nat) (T : ByteArray), i ≤ 9 ∧ s10 = .int .i64 (i : Int) ∧ s7 = .int .u32 (rc : Int) ∧ s9 = .string T ∧ rc < 1000000000 ∧ Hid (T.size = i) ∧ Hid (rc * 10 ^ i ≤ r) ∧ Hid (rem9 false 0 r = rem9 false i rc ++ T.data.toList) ∧ Hid (Below w6.heap.size w6 wr)) (fun _ _ s10 _ => 9 - (intOf s10).toNat)
            case atStart => exact ⟨0, r, ⟨#[]⟩, Nat.zero_le _, rfl, rfl, rfl, hr, Lib.hid rfl, Lib.hid (by simp), Lib.hid (by simp), Lib.hid (Below.refl _ _)⟩
            case round =>
              obtain ⟨i, rc, T, hi, rfl, rfl, rfl, hrc, hT, h10, hG, hB⟩ := hrel
              by_cases hgo : 0 < rc
              · have hi9 : i < 9 := by
                  rcases Nat.lt_or_ge i 9 with h | h
                  · exact h
                  · have h1 : 10 ^ 9 ≤ 10 ^ i := Nat.pow_le_pow_right (by decide) h
                    have h2 : 1 * 10 ^ i ≤ rc * 10 ^ i := Nat.mul_le_mul_right _ hgo
                    have h3 := h10.out
                    have h4 : (10 : Nat) ^ 9 = 1000000000 := rfl
                    omega
                have hst := rem9_step (full := false) (i := i) (rc := rc) (by rw [if_neg (by decide)]; omega)
                have hsz' : w6.heap.size ≤ wr.heap.size := hB.out.size
                have hm10 : rc % 10 < 10 := Nat.mod_lt _ (by decide)
                obtain ⟨d, hd⟩ : ∃ d, 48 + rc % 10 = d := ⟨_, rfl⟩
                have hd256 : d < 256 := by omega
                have u1 : (48 : Int) + (rc : Int) % 10 = (d : Int) := by omega
                rw [hd] at hst
                have kc := conv_row (some ⟨wr.heap.size, 0, none⟩) 1 1 (fun _ => d) (wr.alloc (.cells #[.int .u8 (d : Int)] 5)) (rd_one wr .u8 d 5)
                obtain ⟨P, hP⟩ : ∃ P, pc (fun _ => d) 1 = P := ⟨_, rfl⟩
                have hPs : P.size = 1 := by rw [← hP, pc_size]
                have hPl : P.data.toList = [UInt8.ofNat d] := by rw [← hP]; rfl
                rw [hP] at kc
                have HG : Hid (rem9 false 0 r = rem9 false (i + 1) (rc / 10) ++ (P ++ T).data.toList) := Lib.hid (by rw [hG.out, hst, app_list, hPl, List.append_assoc])
                have H10 : Hid (rc / 10 * 10 ^ (i + 1) ≤ r) := Lib.hid (by
                  refine Nat.le_trans ?_ h10.out
                  rw [Nat.pow_succ, Nat.mul_comm (10 ^ i) 10, ← Nat.mul_assoc]
                  exact Nat.mul_le_mul_right _ (by omega))
                have HPT : Hid ((P ++ T).size = i + 1) := Lib.hid (by rw [ByteArray.size_append, hPs, hT.out]; omega)
                have hrc2 : rc / 10 < 1000000000 := by omega
                have HBA := Lib.hid (hB.out.alloc hsz' (.cells #[.int .u8 (d : Int)] 5))
                have hb1 : ¬ 9223372036854775807 < P.size + T.size := by rw [hPs, hT.out]; omega
                clear hst hd hP hPl hPs hm10
                go_wp2_with fail
                go_roundw
                case rel => exact ⟨i + 1, rc / 10, P ++ T, by omega, by go_num, congrArg (Value.int .u32) (by omega), rfl, hrc2, HPT, H10, HG, HBA⟩
                case measure => simp [intOf]; omega
              · have hTl : rem9 false 0 r = T.data.toList := by
                  have h := hG.out
                  rw [show rc = 0 by omega] at h
                  exact h
                have hTs : 1 ≤ T.size := by
                  have h2 : T.size = T.data.toList.length := rfl
                  rw [h2, ← hTl]
                  unfold rem9
                  rw [if_neg (by decide), if_neg HR0.out, Lib.decDigits_length]
                  exact Lib.nDigits_pos r
                have hdv : Lib.decDigits V = (if (0 : Nat) ≠ 0 then Lib.decDigits (0 : Nat) else []) ++ (T ++ S).data.toList := by
                  rw [if_neg (by omega), List.nil_append, HJ2.out, hTl, app_list]
                have hTS : (T ++ S).size ≤ LV := by
                  have h2 : (T ++ S).size = (T ++ S).data.toList.length := rfl
                  rw [h2, ← HV.out.2, hdv, List.length_append]
                  omega
                have hTS2 : (T ++ S).size = T.size + S.size := ByteArray.size_append
                have HTS := Lib.hid hTS
                have HTS2 := Lib.hid (And.intro hTS2 hTs)
                have HDV := Lib.hid hdv
                have HNB := Lib.hid (And.intro (Num.keep HN6.out hB.out) (HB6.out.trans (hB.out.mono HB6.out.size)))
                have hb2 : ¬ 9223372036854775807 < T.size + S.size := by omega
                clear hTl hTs hdv hTS hTS2
                obtain rfl : rc = 0 := by omega
                by_cases hi9 : i < 9
                · go_wp2_with fail
                  go_roundw
                  case rel => exact ⟨A6, 0, c6, f6, T ++ S, 0, rfl, rfl, h64, HTS, HNB, HDV⟩
                  case measure => have h1 := HTS2.out; have h2 := HTS.out; simp; omega
                · go_wp2_with fail
                  go_roundw
                  case rel => exact ⟨A6, 0, c6, f6, T ++ S, 0, rfl, rfl, h64, HTS, HNB, HDV⟩
                  case measure => have h1 := HTS2.out; have h2 := HTS.out; simp; omega
          · have hn61 : 0 < n6 := by omega
            have hX2 : X2 ≠ 0 := by
              intro h
              have h1 := sm_pos (Nat.two_pow_pos 32) HN6.out.trm (by omega)
              have h2 := HN6.out.val
              omega
            have HJ2 : Hid (Lib.decDigits V = Lib.decDigits X2 ++ (rem9 true 0 r ++ S.data.toList)) := Lib.hid (by have h := HJ.out; rw [if_pos hX2, decide_eq_true hX2] at h; exact h)
            have HX2 := Lib.hid hX2
            clear hX2
            go_loopw [7, 9, 10] (fun s7 s9 s10 wr => ∃ (i rc : Nat) (T : ByteArray), i ≤ 9 ∧ s10 = .int .i64 (i : Int) ∧ s7 = .int .u32 (rc : Int) ∧ s9 = .string T ∧ rc < 1000000000 ∧ Hid (T.size = i) ∧ Hid (rc * 10 ^ i ≤ r) ∧ Hid (rem9 true 0 r = rem9 true i rc ++ T.data.toList) ∧ Hid (Below w6.heap.size w6 wr)) (fun _ _ s10 _ => 9 - (intOf s10).toNat)
            case atStart => exact ⟨0, r, ⟨#[]⟩, Nat.zero_le _, rfl, rfl, rfl, hr, Lib.hid rfl, Lib.hid (by simp), Lib.hid (by simp), Lib.hid (Below.refl _ _)⟩
            case round =>
              obtain ⟨i, rc, T, hi, rfl, rfl, rfl, hrc, hT, h10, hG, hB⟩ := hrel
              by_cases hgo : i < 9
              · have hi9 : i < 9 := by
                  exact hgo
                have hst := rem9_step (full := true) (i := i) (rc := rc) (by rw [if_pos rfl]; exact hgo)
                have hsz' : w6.heap.size ≤ wr.heap.size := hB.out.size
                have hm10 : rc % 10 < 10 := Nat.mod_lt _ (by decide)
                obtain ⟨d, hd⟩ : ∃ d, 48 + rc % 10 = d := ⟨_, rfl⟩
                have hd256 : d < 256 := by omega
                have u1 : (48 : Int) + (rc : Int) % 10 = (d : Int) := by omega
                rw [hd] at hst
                have kc := conv_row (some ⟨wr.heap.size, 0, none⟩) 1 1 (fun _ => d) (wr.alloc (.cells #[.int .u8 (d : Int)] 5)) (rd_one wr .u8 d 5)
                obtain ⟨P, hP⟩ : ∃ P, pc (fun _ => d) 1 = P := ⟨_, rfl⟩
                have hPs : P.size = 1 := by rw [← hP, pc_size]
                have hPl : P.data.toList = [UInt8.ofNat d] := by rw [← hP]; rfl
                rw [hP] at kc
                have HG : Hid (rem9 true 0 r = rem9 true (i + 1) (rc / 10) ++ (P ++ T).data.toList) := Lib.hid (by rw [hG.out, hst, app_list, hPl, List.append_assoc])
                have H10 : Hid (rc / 10 * 10 ^ (i + 1) ≤ r) := Lib.hid (by
                  refine Nat.le_trans ?_ h10.out
                  rw [Nat.pow_succ, Nat.mul_comm (10 ^ i) 10, ← Nat.mul_assoc]
                  exact Nat.mul_le_mul_right _ (by omega))
                have HPT : Hid ((P ++ T).size = i + 1) := Lib.hid (by rw [ByteArray.size_append, hPs, hT.out]; omega)
                have hrc2 : rc / 10 < 1000000000 := by omega
                have HBA := Lib.hid (hB.out.alloc hsz' (.cells #[.int .u8 (d : Int)] 5))
                have hb1 : ¬ 9223372036854775807 < P.size + T.size := by rw [hPs, hT.out]; omega
                clear hst hd hP hPl hPs hm10
                go_wp2_with fail
                go_roundw
                case rel => exact ⟨i + 1, rc / 10, P ++ T, by omega, by go_num, congrArg (Value.int .u32) (by omega), rfl, hrc2, HPT, H10, HG, HBA⟩
                case measure => simp [intOf]; omega
              · have hTl : rem9 true 0 r = T.data.toList := by
                  have h := hG.out
                  rw [show i = 9 by omega] at h
                  exact h
                have hTs : 1 ≤ T.size := by
                  rw [hT.out]; omega
                have hdv : Lib.decDigits V = (if X2 ≠ 0 then Lib.decDigits X2 else []) ++ (T ++ S).data.toList := by
                  rw [if_pos HX2.out, HJ2.out, hTl, app_list]
                have hTS : (T ++ S).size ≤ LV := by
                  have h2 : (T ++ S).size = (T ++ S).data.toList.length := rfl
                  rw [h2, ← HV.out.2, hdv, List.length_append]
                  omega
                have hTS2 : (T ++ S).size = T.size + S.size := ByteArray.size_append
                have HTS := Lib.hid hTS
                have HTS2 := Lib.hid (And.intro hTS2 hTs)
                have HDV := Lib.hid hdv
                have HNB := Lib.hid (And.intro (Num.keep HN6.out hB.out) (HB6.out.trans (hB.out.mono HB6.out.size)))
                have hb2 : ¬ 9223372036854775807 < T.size + S.size := by omega
                clear hTl hTs hdv hTS hTS2
                obtain rfl : i = 9 := by omega
                go_wp2_with fail
                go_roundw
                case rel => exact ⟨A6, n6, c6, f6, T ++ S, X2, rfl, rfl, h64, HTS, HNB, HDV⟩
                case measure => have h1 := HTS2.out; have h2 := HTS.out; simp; omega
end Go.Proofs.YtnikoojgoiobjaaDoor.nn
