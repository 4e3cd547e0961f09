/- Joined texts, what is wanted of them: CbO. -/
import Derived.Test.YtpcladdipgchbaaGreatDoorProg
import Derived.WalkKit
import Derived.Lib.Hide
import Derived.WalkSpells
import Derived.Deep.QuietTactic
import Derived.BigQuiet
import Derived.Deep.RegionHeld3
import Derived.Laws.BitsAllLaws
import Derived.Test.YtpcladdipgchbaaGreatDoorShelf
import Derived.Deep.RegionWith
import Derived.IntWalk
import Derived.Deep.CutBlock
import Derived.StillTailTactics
import Derived.Test.YtpcladdipgchbaaGreatDoorSp
import Derived.Test.YtpcladdipgchbaaGreatDoorSd
import Derived.Test.YtpcladdipgchbaaGreatDoorSt
import Derived.Test.YtpcladdipgchbaaGreatDoorSg
import Derived.Test.YtpcladdipgchbaaGreatDoorSo
import Derived.Test.YtpcladdipgchbaaGreatDoorSr
import Derived.Test.YtpcladdipgchbaaGreatDoorSa
import Derived.Test.YtpcladdipgchbaaGreatDoorSq
import Derived.Test.YtpcladdipgchbaaGreatDoorSc
import Derived.Test.YtpcladdipgchbaaGreatDoorSs
namespace Go.Proofs.YtpcladdipgchbaaGreatDoor.nn
open Go.RowKit

theorem rgtL_in {l : List VT} (h : rgtL l = true) : ∀ t, t ∈ l → rgt t = true := by
  induction l with
  | nil => intro t ht; cases ht
  | cons u r ih =>
    simp only [rgtL, Bool.and_eq_true] at h
    intro t ht
    rcases List.mem_cons.1 ht with rfl | ht
    · exact h.1
    · exact ih h.2 t ht
theorem wfL_in {l : List VT} (h : wfL l) : ∀ t, t ∈ l → wfT t := by
  induction l with
  | nil => intro t ht; cases ht
  | cons u r ih =>
    intro t ht
    rcases List.mem_cons.1 ht with rfl | ht
    · exact h.1
    · exact ih h.2 t ht
theorem cnt_in {l : List VT} : ∀ t, t ∈ l → cnt t ≤ cntL l := by
  induction l with
  | nil => intro t ht; cases ht
  | cons u r ih =>
    intro t ht
    rcases List.mem_cons.1 ht with rfl | ht
    · simp only [cntL]; omega
    · have := ih t ht; simp only [cntL]; omega
/-- of which kinds right values are -/
theorem oneB_kind {t : VT} (h : oneB t = true) : 0 ≤ t.k ∧ t.k ≤ 14 := by
  unfold oneB at h
  by_cases h1 : t.k = 0 ∨ t.k = 2 ∨ t.k = 11
  · omega
  rw [if_neg h1] at h
  by_cases h2 : t.k = 1
  · omega
  rw [if_neg h2] at h
  by_cases h3 : t.k = 3
  · omega
  rw [if_neg h3] at h
  by_cases h4 : t.k = 4
  · omega
  rw [if_neg h4] at h
  by_cases h5 : t.k = 5
  · omega
  rw [if_neg h5] at h
  by_cases h6 : t.k = 6
  · omega
  rw [if_neg h6] at h
  by_cases h7 : t.k = 7
  · omega
  rw [if_neg h7] at h
  by_cases h8 : t.k = 8
  · omega
  rw [if_neg h8] at h
  by_cases h9 : t.k = 9
  · omega
  rw [if_neg h9] at h
  by_cases h10 : t.k = 10
  · omega
  rw [if_neg h10] at h
  by_cases h12 : t.k = 12
  · omega
  rw [if_neg h12] at h
  by_cases h13 : t.k = 13
  · omega
  rw [if_neg h13] at h
  by_cases h14 : t.k = 14
  · omega
  rw [if_neg h14] at h
  cases h
theorem tag_one {t : VT} (h : oneB t = true) (hk : t.k = 13) : ∃ u, t.l = [u] := by
  unfold oneB at h
  rw [if_neg (by omega), if_neg (by omega), if_neg (by omega), if_neg (by omega), if_neg (by omega), if_neg (by omega), if_neg (by omega), if_neg (by omega), if_neg (by omega), if_neg (by omega), if_neg (by omega), if_pos hk] at h
  simp only [Bool.and_eq_true, decide_eq_true_eq] at h
  exact List.length_eq_one_iff.1 h.1.2
theorem lf_iff' (k : Int) : lf k = true ↔ (k ≠ 11 ∧ k ≠ 12 ∧ k ≠ 13) := by unfold lf; exact decide_eq_true_iff
theorem its_any (w0 : World) (b : Nat) (o : Bool) (N : Nat) : ∀ t, cnt t ≤ N → cnt t ≤ 1099511627776 → rgt t = true → wfT t → Its w0 b o t := by
  induction N with
  | zero => intro t h; have := cnt_mk t; omega
  | succ N ih =>
    intro t hN hc hr hwf C l W hC hW h hle
    have hcm := cnt_mk t
    rw [rgt_mk] at hr
    simp only [Bool.and_eq_true] at hr
    obtain ⟨⟨h1, h2⟩, h3⟩ := hr
    obtain ⟨_, _, hn, hwl⟩ := (wfT_mk t).1 hwf
    have hkid : ∀ u, u ∈ t.l → Its w0 b o u := fun u hu => ih u (by have := cnt_in u hu; omega) (by have := cnt_in u hu; omega) (rgtL_in h3 u hu) (wfL_in hwl u hu)
    have hB := hW.size
    have hk := oneB_kind h1
    have hil := itB_mk o t
    have hxm := ext_mk t
    have hlen := len_cntL t.l
    by_cases hlf : lf t.k = true
    · rw [hlf] at h2
      have hl0 : t.l = [] := List.eq_nil_of_length_eq_zero (by simpa using h2)
      have hkk := (lf_iff' _).1 hlf
      have hx : ∀ x, decide (t.k = 14) = x → ext t = x := fun x hx => by rw [hxm, hx, hl0]; show (x || false) = x; cases x <;> rfl
      by_cases k14 : t.k = 14
      · rw [hx true (decide_eq_true k14)]
        exact item_ext w0.heap.size b l _ o t C W h k14 hB
      · rw [hx false (decide_eq_false k14)]
        by_cases ka : t.k = 0 ∨ t.k = 2 ∨ t.k = 1 ∨ t.k = 3
        · exact item_seven w0.heap.size b l o t C W h h1 ka (by omega) hB
        by_cases kb : t.k = 4
        · exact item_int w0.heap.size b l o t C W h kb hn (by omega) hB
        by_cases k6 : t.k = 6
        · exact item_f16 w0.heap.size b l o t C W h k6 hn (by omega) hB
        by_cases k7 : t.k = 7
        · exact item_f32 w0.heap.size b l o t C W h k7 hn (by omega) hB
        by_cases k8 : t.k = 8
        · exact item_f64 w0.heap.size b l o t C W h k8 hn (by omega) hB
        by_cases k5 : t.k = 5
        · have h5 : itB o t = hdP 6 (2 + ng t.g) ++ txP o 2 t.s := by rw [itB_mk, k5]; rfl
          have h6 := txP_ge o 2 t.s
          have h7 := hdP_len 6 (2 + ng t.g)
          rw [h5, List.length_append] at hle
          exact item_big w0.heap.size b l o t C W h k5 (by omega) hB
        · have h5 : itB o t = txP o 2 t.s ∨ itB o t = txP o 3 t.s := by
            have : t.k = 9 ∨ t.k = 10 := by omega
            rcases this with k | k
            · exact .inl (by rw [itB_mk, k]; rfl)
            · exact .inr (by rw [itB_mk, k]; rfl)
          have h6 := txP_ge o 2 t.s
          have h7 := txP_ge o 3 t.s
          exact item_str w0.heap.size b l o t C W h (by omega) (by rcases h5 with e | e <;> rw [e] at hle <;> omega) hB
    · have hkk : t.k = 11 ∨ t.k = 12 ∨ t.k = 13 := by
        rcases Int.lt_or_le t.k 11 with h | h
        · exact absurd ((lf_iff' _).2 ⟨by omega, by omega, by omega⟩) hlf
        · rcases Int.lt_or_le 13 t.k with h | h
          · exact absurd ((lf_iff' _).2 ⟨by omega, by omega, by omega⟩) hlf
          · omega
      have hx : ext t = extL t.l := by rw [hxm, decide_eq_false (by omega), Bool.false_or]
      by_cases k13 : t.k = 13
      · obtain ⟨u, hu⟩ := tag_one h1 k13
        have hxu : ext t = ext u := by rw [hx, hu]; show (ext u || false) = _; rw [Bool.or_false]
        rw [hxu]
        exact item_tag w0 b l o t u C W hu hC hW h k13 hn hle (hkid u (by rw [hu]; exact List.mem_singleton.2 rfl))
      · rw [hx]
        obtain ⟨A, c, hCe, _⟩ := hC.out
        rcases (show t.k = 11 ∨ t.k = 12 by omega) with k | k
        · have h5 : itB o t = hdO o 4 t.l.length ++ (itL o t.l ++ enO o) := by rw [itB_mk, k]; rfl
          refine item_many w0 b l o t C W 11 4 (.inl ⟨rfl, rfl⟩) h k hB ⟨A, c, hCe⟩ (by omega) fun W' hW' hw' => ?_
          rw [if_pos rfl, h5]
          rw [h5, List.length_append, List.length_append] at hle
          exact wmany_any w0 b o 4 t.l.length t.l C l W' hC (hW.trans hW') hw' (by decide) (by omega) (by omega) (by omega) hkid
        · have h5 : itB o t = hdO o 5 (t.l.length / 2) ++ (itL o t.l ++ enO o) := by rw [itB_mk, k]; rfl
          refine item_many w0 b l o t C W 12 5 (.inr ⟨rfl, rfl⟩) h k hB ⟨A, c, hCe⟩ (by omega) fun W' hW' hw' => ?_
          rw [if_neg (by decide), h5]
          rw [h5, List.length_append, List.length_append] at hle
          exact wmany_any w0 b o 5 (t.l.length / 2) t.l C l W' hC (hW.trans hW') hw' (by decide) (by omega) (by omega) (by omega) hkid
end Go.Proofs.YtpcladdipgchbaaGreatDoor.nn
