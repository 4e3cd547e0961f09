/- The walk of UtfScans: pieces of any number and length, of together at most 1048576 bytes. -/
import Derived.Test.YtakbahhoiggmhaaFeed
import Derived.Test.YtakbahhoiggmhaaGoes
import Derived.Test.YtakbahhoiggmhaaPoint
namespace Go.Proofs.Ytakbahhoiggmhaa.nn
open Go.RowKit

/-- a slice of slices of bytes -/
def Rds8 (w : World) (A : Option Addr) (n : Nat) (AA : Nat → Option Addr) (L C : Nat → Nat) (F : Nat → Nat → Nat) : Prop :=
  0 < n → ∃ b off, A = some ⟨b, off, none⟩ ∧ b < w.heap.size ∧ ∀ i, i < n → w.cell? ⟨b, off + i, none⟩ = some (.slice (AA i) (L i) (C i)) ∧ L i ≤ C i ∧ C i ≤ maxLen ∧ Rd w .u8 (AA i) (L i) (F i)
def tot (L : Nat → Nat) : Nat → Nat
  | 0 => 0
  | i + 1 => tot L i + L i
theorem tot_mono (L : Nat → Nat) {i m : Nat} (h : i ≤ m) : tot L i ≤ tot L m := by
  induction m with
  | zero => obtain rfl : i = 0 := by omega
            exact Nat.le_refl _
  | succ m ih =>
    by_cases e : i = m + 1
    · subst e; exact Nat.le_refl _
    · have := ih (by omega)
      rw [tot]; omega

/-- the scan has taken all of S -/
def Took (w : World) (g : Nat) (S : ByteArray) (wr : World) : Prop := al (bt S) t0 S.size = true ∧ Scn wr g 1 S.size (tk (bt S) t0 S.size) ∧ Below g w wr

theorem piece {S P : ByteArray} {f : Nat → Nat} {n : Nat} (ha : al (bt S) t0 S.size = true) (hn : P.size = n) (hP : ∀ j, j < n → bt P j = f j) :
    al (bt (S ++ P)) t0 (S ++ P).size = al f (tk (bt S) t0 S.size) n ∧ tk (bt (S ++ P)) t0 (S ++ P).size = tk f (tk (bt S) t0 S.size) n ∧ sp (bt (S ++ P)) t0 (S ++ P).size = S.size + sp f (tk (bt S) t0 S.size) n := by
  subst hn
  have el : ∀ i, i < S.size → bt (S ++ P) i = bt S i := fun i hi => bt_app_left hi
  have er : ∀ i, i < P.size → (fun i => bt (S ++ P) (S.size + i)) i = f i := fun i hi => (bt_app_right hi).trans (hP i hi)
  have h1 : al (bt (S ++ P)) t0 S.size = true := by rw [al_congr el]; exact ha
  rw [ByteArray.size_append, al_add h1, tk_add h1, sp_add h1, tk_congr el, al_congr er, tk_congr er, sp_congr er]
  exact ⟨rfl, rfl, rfl⟩

set_option maxRecDepth 100000 in
set_option maxHeartbeats 2000000 in
theorem scans_any (B : Option Addr) (m c : Nat) (AA : Nat → Option Addr) (L C : Nat → Nat) (F : Nat → Nat → Nat) (w : World) (hB : Rds8 w B m AA L C F) (hF : ∀ i, i < m → ∀ j, j < L i → F i j < 256)
    (hm : m ≤ c) (hc : c ≤ 140737488351232) (ht : tot L m ≤ 1048576) :
    Calls Try.prog 5 #[.slice B m c] w fun r w' => r = .returned (.bool true) ∧ Below w.heap.size w w' := by
  have HF := Lib.hid hF
  have HT := Lib.hid ht
  have HB := Lib.hid hB
  clear hF ht hB
  go_enter Try.func5, Try.ntmps5
  go_wp2_with fail
  refine (new_any _).mono ?_
  rintro r w1 ⟨rfl, b1, hs1⟩
  have HW1 : Hid (Took w w.heap.size ⟨#[]⟩ w1) := Lib.hid ⟨rfl, hs1, b1⟩
  clear b1 hs1
  go_wp2_with fail
  go_loopw [4, 5] (fun s4 s5 wr => ∃ (i : Nat) (S : ByteArray), i ≤ m ∧ s4 = .string S ∧ s5 = .int .i64 (i : Int) ∧ Hid (S.size = tot L i) ∧ Hid (Took w w.heap.size S wr)) (fun _ s5 _ => m - (intOf s5).toNat)
  case atStart => exact ⟨0, _, Nat.zero_le _, rfl, rfl, Lib.hid rfl, HW1⟩
  case round =>
    obtain ⟨i, S, hi, rfl, rfl, hS, hW⟩ := hrel
    have hS0 : S.size ≤ 1048576 := by rw [hS.out]; exact Nat.le_trans (tot_mono L hi) HT.out
    by_cases hlt : i < m
    · obtain ⟨bb, off, rfl, hbl, hcell⟩ := HB.out (by omega)
      obtain ⟨hx0, hLC, hCm, hr0⟩ := hcell i hlt
      have hx : wr.cell? ⟨bb, off + i, none⟩ = some (.slice (AA i) (L i) (C i)) := (hW.out.2.2.cell (p := ⟨bb, off + i, none⟩) hbl).trans hx0
      have hrd : Rd wr .u8 (AA i) (L i) (F i) := hr0.below hW.out.2.2
      have hAg : ∀ b o, AA i = some ⟨b, o, none⟩ → 0 < L i → b < w.heap.size := fun b o e h => hr0.lt e h
      have htl : tot L (i + 1) ≤ 1048576 := Nat.le_trans (tot_mono L hlt) HT.out
      have hL1 : S.size + L i ≤ 1048576 := by rw [hS.out]; exact htl
      have kc := conv_row (AA i) (L i) (C i) (F i) wr hrd
      obtain ⟨P, hP⟩ : ∃ P, pc (F i) (L i) = P := ⟨_, rfl⟩
      have hPs : P.size = L i := by rw [← hP, pc_size]
      have hPb : ∀ j, j < L i → bt P j = F i j := fun j hj => by rw [← hP]; exact bt_pc hj (HF.out i hlt j hj)
      rw [hP] at kc
      obtain ⟨p1, p2, p3⟩ := piece (f := F i) hW.out.1 hPs hPb
      have hFd := feed_open (AA i) (L i) (C i) (F i) (tk (bt S) t0 S.size) w.heap.size S.size wr hW.out.2.1 (gd_go gd_zero _) hrd hAg (HF.out i hlt) hLC hCm (by unfold maxLen; omega)
      rw [← p1, ← p2, ← p3] at hFd
      have hsz2 : (S ++ P).size = S.size + L i := by rw [ByteArray.size_append, hPs]
      have hCk := fun wz => rcheck_any (S ++ P) wz (by rw [hsz2]; unfold maxLen; omega)
      have HSz : Hid ((S ++ P).size = tot L (i + 1)) := Lib.hid (by rw [hsz2, hS.out]; rfl)
      have hPle : P.size ≤ 1048576 := by omega
      clear hcell hx0 hr0 hrd hAg hP hPb p1 p2 p3 htl
      by_cases ha : al (bt (S ++ P)) t0 (S ++ P).size = true
      · rw [if_pos ha, if_pos ha] at hFd
        have hspa : sp (bt (S ++ P)) t0 (S ++ P).size = (S ++ P).size := sp_all ha
        have hA : ckA (bt (S ++ P)) (S ++ P).size = (S ++ P).size := hspa
        obtain ⟨e, he⟩ : ∃ e, ckE (bt (S ++ P)) (S ++ P).size = e := ⟨_, rfl⟩
        have he4 : e ≠ 4 := by rw [← he]; unfold ckE; rw [if_pos ha]; split <;> decide
        rw [hA, he] at hCk
        rw [hspa] at hFd
        have q1 : ((e : Int) == 4) = false := by simp; omega
        have HFd := Lib.hid hFd
        have HCk := Lib.hid hCk
        have HA := Lib.hid ha
        have HZ := Lib.hid hsz2
        clear hFd hCk ha hspa hA he he4 hsz2 hPs
        go_wp2_with fail
        refine HFd.out.mono ?_
        rintro r w2 ⟨rfl, b2, s2⟩
        have B2 := Lib.hid (hW.out.2.2.trans b2)
        have S2 := Lib.hid s2
        clear b2 s2
        go_wp2_with fail
        refine (HCk.out _).mono ?_
        rintro r w3 ⟨rfl, b3⟩
        have hl2 := Sc.lt S2.out
        have S3 := Lib.hid (Sc.below S2.out b3 hl2)
        have B3 := Lib.hid (B2.out.trans (b3.mono (Nat.le_of_lt hl2)))
        clear b3
        go_wp2_with fail
        refine (at_any _ _ _ _ _ S3.out).mono ?_
        rintro r w4 ⟨rfl, rfl⟩
        go_wp2_with fail
        go_roundw
        case rel => exact ⟨i + 1, S ++ P, by omega, rfl, by go_num, HSz, Lib.hid ⟨HA.out, S3.out, B3.out⟩⟩
        case measure => simp [intOf]; omega
      · rw [if_neg ha, if_neg ha] at hFd
        obtain ⟨a, haa⟩ : ∃ a, sp (bt (S ++ P)) t0 (S ++ P).size = a := ⟨_, rfl⟩
        have hA : ckA (bt (S ++ P)) (S ++ P).size = a := haa
        have hE : ckE (bt (S ++ P)) (S ++ P).size = 4 := by unfold ckE; rw [if_neg ha]
        rw [hA, hE] at hCk
        rw [haa] at hFd
        have HFd := Lib.hid hFd
        have HCk := Lib.hid hCk
        clear hFd hCk ha haa hA hE hsz2 hPs
        go_wp2_with fail
        refine HFd.out.mono ?_
        rintro r w2 ⟨rfl, b2, s2⟩
        have B2 := Lib.hid (hW.out.2.2.trans b2)
        have S2 := Lib.hid s2
        clear b2 s2
        go_wp2_with fail
        refine (HCk.out _).mono ?_
        rintro r w3 ⟨rfl, b3⟩
        have hl2 := Sc.lt S2.out
        have S3 := Lib.hid (Sc.below S2.out b3 hl2)
        have B3 := Lib.hid (B2.out.trans (b3.mono (Nat.le_of_lt hl2)))
        clear b3
        go_wp2_with fail
        refine (at_any _ _ _ _ _ S3.out).mono ?_
        rintro r w4 ⟨rfl, rfl⟩
        go_wp2_with fail
        refine (feed_no _ _ _ _ _ _ S3.out (by omega) (by omega)).mono ?_
        rintro r w4 ⟨rfl, rfl⟩
        go_wp2_with fail
        refine (close_no _ _ _ _ _ S3.out (by omega) (by omega)).mono ?_
        rintro r w4 ⟨rfl, rfl⟩
        go_wp2_with fail
        go_ret
        exact ⟨rfl, B3.out⟩
    · obtain rfl : i = m := by omega
      have ha := hW.out.1
      have hA : ckA (bt S) S.size = S.size := sp_all ha
      have hE : ckE (bt S) S.size = if (tk (bt S) t0 S.size).c = 0 then 0 else 3 := by unfold ckE; rw [if_pos ha]
      have hc4 := gd_lt (gd_go gd_zero S.size (f := bt S))
      have hCk := fun wz => rcheck_any S wz (by unfold maxLen; omega)
      rw [hA, hE] at hCk
      have hCl := fun wz h => close_open w.heap.size S.size (tk (bt S) t0 S.size) wz h hc4
      obtain ⟨e, he⟩ : ∃ e : Nat, (if (tk (bt S) t0 S.size).c = 0 then 0 else 3) = e := ⟨_, rfl⟩
      rw [he] at hCk hCl
      have HCk := Lib.hid hCk
      have HCl := Lib.hid hCl
      clear ha hA hE hCk hCl he hc4
      go_wp2_with fail
      refine (HCk.out _).mono ?_
      rintro r w2 ⟨rfl, b2⟩
      have hl1 := Sc.lt hW.out.2.1
      have S2 := Lib.hid (Sc.below hW.out.2.1 b2 hl1)
      have B2 := Lib.hid (hW.out.2.2.trans (b2.mono (Nat.le_of_lt hl1)))
      clear b2
      go_wp2_with fail
      refine (HCl.out _ S2.out).mono ?_
      rintro r w3 ⟨rfl, b3, s3⟩
      have S3 := Lib.hid s3
      have B3 := Lib.hid (B2.out.trans b3)
      clear b3 s3
      go_wp2_with fail
      refine (at_any _ _ _ _ _ S3.out).mono ?_
      rintro r w4 ⟨rfl, rfl⟩
      go_wp2_with fail
      refine (feed_no _ _ _ _ _ _ S3.out (by omega) (by omega)).mono ?_
      rintro r w4 ⟨rfl, rfl⟩
      go_wp2_with fail
      refine (awake_any _).mono ?_
      rintro r w5 ⟨rfl, b5⟩
      go_wp2_with fail
      go_ret
      exact ⟨rfl, B3.out.trans (b5.mono B3.out.size)⟩
end Go.Proofs.Ytakbahhoiggmhaa.nn
