/- Joined texts, what is wanted of them: CbRs, CbRu. -/
import Derived.Test.YtlmabhpfmbebjaaDoorProg
import Derived.WalkKit
import Derived.Lib.Hide
import Derived.WalkSpells
import Derived.Deep.QuietTactic
import Derived.BigQuiet
import Derived.Deep.RegionHeld3
import Derived.Laws.BitsAllLaws
import Derived.Test.YtlmabhpfmbebjaaDoorShelf
import Derived.Deep.RegionWith
import Derived.IntWalk
import Derived.Test.YtlmabhpfmbebjaaDoorQc
import Derived.Test.YtlmabhpfmbebjaaDoorQa
import Derived.Test.YtlmabhpfmbebjaaDoorQl
import Derived.Test.YtlmabhpfmbebjaaDoorQe
import Derived.Test.YtlmabhpfmbebjaaDoorQx
import Derived.Test.YtlmabhpfmbebjaaDoorQq
import Derived.Test.YtlmabhpfmbebjaaDoorQm
import Derived.Test.YtlmabhpfmbebjaaDoorRa
import Derived.Test.YtlmabhpfmbebjaaDoorQk
import Derived.Test.YtlmabhpfmbebjaaDoorRc
import Derived.Test.YtlmabhpfmbebjaaDoorQp
import Derived.Test.YtlmabhpfmbebjaaDoorQw
import Derived.Test.YtlmabhpfmbebjaaDoorRb
import Derived.Test.YtlmabhpfmbebjaaDoorQn
import Derived.Test.YtlmabhpfmbebjaaDoorQr
import Derived.Test.YtlmabhpfmbebjaaDoorQo
import Derived.Test.YtlmabhpfmbebjaaDoorQb
import Derived.Test.YtlmabhpfmbebjaaDoorQs
import Derived.Test.YtlmabhpfmbebjaaDoorQh
import Derived.Test.YtlmabhpfmbebjaaDoorQf
import Derived.Test.YtlmabhpfmbebjaaDoorQt
namespace Go.Proofs.YtlmabhpfmbebjaaDoor.nn
open Go.RowKit

theorem itL_in {o : Bool} {l : List VT} : ∀ u, u ∈ l → (itB o u).length ≤ (itL o l).length := by
  induction l with
  | nil => intro t ht; cases ht
  | cons u r ih =>
    intro t ht
    rw [show itL o (u :: r) = itB o u ++ itL o r from rfl, List.length_append]
    rcases List.mem_cons.1 ht with rfl | ht
    · omega
    · have := ih t ht; omega
theorem extL_in {l : List VT} (h : extL l = false) : ∀ t, t ∈ l → ext t = false := by
  induction l with
  | nil => intro t ht; cases ht
  | cons u r ih =>
    simp only [extL, Bool.or_eq_false_iff] at h
    intro t ht
    rcases List.mem_cons.1 ht with rfl | ht
    · exact h.1
    · exact ih h.2 t ht
/-- the document writes any right tree with no KExt -/
theorem rts_any (w0 : World) (o : Bool) (x : Int) (y : Bool) (N : Nat) : ∀ t, cnt t ≤ N → cnt t ≤ 1099511627776 → rgt t = true → wfT t → ext t = false → (itB o t).length ≤ 100000000000 → Rts w0 o x y t := by
  induction N with
  | zero => intro t h; have := cnt_mk t; omega
  | succ N ih =>
    intro t hN hc hr hwf hx hsz C W hC hW hle
    have hcm := cnt_mk t
    rw [rgt_mk] at hr
    simp only [Bool.and_eq_true] at hr
    obtain ⟨⟨h1, h2⟩, h3⟩ := hr
    obtain ⟨_, _, hn, hwl⟩ := (wfT_mk t).1 hwf
    have hxm := ext_mk t
    rw [hx] at hxm
    have hxm2 := hxm.symm
    simp only [Bool.or_eq_false_iff, decide_eq_false_iff_not] at hxm2
    obtain ⟨k14, hxl⟩ := hxm2
    have hxu : ∀ u, u ∈ t.l → ext u = false := extL_in hxl
    have hkid : (itL o t.l).length ≤ (itB o t).length → ∀ u, u ∈ t.l → Rts w0 o x y u := fun hs u hu => ih u (by have := cnt_in u hu; omega) (by have := cnt_in u hu; omega) (rgtL_in h3 u hu) (wfL_in hwl u hu) (hxu u hu) (by have := itL_in (o := o) u hu; omega)
    have hk := oneB_kind h1
    have hlen := len_cntL t.l
    by_cases ka : t.k = 0 ∨ t.k = 2 ∨ t.k = 1
    · exact ritem_one t C o x y W h1 ka
    by_cases k3 : t.k = 3
    · exact ritem_simple t C o x y W k3 hn
    by_cases k4 : t.k = 4
    · exact ritem_int t C o x y W k4 hn
    by_cases k5 : t.k = 5
    · have h5 : itB o t = hdP 6 (2 + ng t.g) ++ txP o 2 t.s := by rw [itB_mk, k5]; rfl
      have h6 := txP_ge o 2 t.s
      have h7 := congrArg List.length h5
      rw [List.length_append] at h7
      exact ritem_big t C o x y W k5 (by omega) hle
    by_cases k6 : t.k = 6 ∨ t.k = 7 ∨ t.k = 8
    · exact ritem_fl t C o x y W k6 hn
    by_cases k9 : t.k = 9 ∨ t.k = 10
    · have h5 : itB o t = txP o 2 t.s ∨ itB o t = txP o 3 t.s := by
        rcases k9 with k | k
        · exact .inl (by rw [itB_mk, k]; rfl)
        · exact .inr (by rw [itB_mk, k]; rfl)
      have h6 := txP_ge o 2 t.s
      have h7 := txP_ge o 3 t.s
      exact ritem_str t C o x y W k9 (by rcases h5 with e | e <;> rw [e] at hsz <;> omega)
    by_cases k11 : t.k = 11
    · have h5 : itB o t = hdO o 4 t.l.length ++ (itL o t.l ++ enO o) := by rw [itB_mk, k11]; rfl
      have h7 := congrArg List.length h5
      simp only [List.length_append] at h7
      exact ritem_list w0 t C o x y W k11 hC hW (by omega) (hkid (by omega)) hle
    by_cases k12 : t.k = 12
    · have h5 : itB o t = hdO o 5 (t.l.length / 2) ++ (itL o t.l ++ enO o) := by rw [itB_mk, k12]; rfl
      have h7 := congrArg List.length h5
      simp only [List.length_append] at h7
      exact ritem_map w0 t C o x y W k12 hC hW (by omega) (hkid (by omega)) hle
    have k13 : t.k = 13 := by omega
    obtain ⟨u, hu⟩ := tag_one h1 k13
    have h5 : itB o t = hdP 6 t.n ++ itL o t.l := by rw [itB_mk, k13]; rfl
    have h7 := congrArg List.length h5
    simp only [List.length_append] at h7
    exact ritem_tag w0 t u C o x y W hu k13 hn hC hW (hkid (by omega) u (by rw [hu]; exact List.mem_singleton.2 rfl)) hle
end Go.Proofs.YtlmabhpfmbebjaaDoor.nn
namespace Go.Proofs.YtlmabhpfmbebjaaDoor.nn
open Go.RowKit

set_option maxRecDepth 100000 in
set_option maxHeartbeats 4000000 in
theorem rencode_any (o : Bool) (x : Int) (y : Bool) (t : VT) (C : Value) (w : World) (hN : cnt t ≤ 1099511627776) (hS : smx t ≤ maxLen) (hC : Lst w C t.l) (hwf : wfT t) (hsz : (itB o t).length ≤ 100000000000) :
    Calls Tryd.prog 7 #[vv t C, .agg #[.bool o, .int .i64 x, .bool y]] w (EnAns o t w) := by
  have hx := Bo2.new w t C o x y
  obtain ⟨W2, hW2⟩ : ∃ W2, (w.alloc (.cells #[.int .i64 t.k, .bool t.g, .int .u64 (t.n : Int), .string t.s, C] 25)).alloc (.cells #[.bool o, .int .i64 x, .bool y] 27) = W2 := ⟨_, rfl⟩
  rw [hW2] at hx
  have HCK : Hid (Calls Tryd.prog 13 #[vv t C] W2 fun e w' => e = .returned (.int .i64 (chk t : Int)) ∧ Bo2 w t C o x y w') := Lib.hid ((rchk_any t C W2 (by omega) hS (hC.keep hx.b.b (Nat.le_refl _))).mono fun e w' h => ⟨h.1, hx.on h.2⟩)
  have HHS : Hid (∀ W, Bo2 w t C o x y W → Calls Tryd.prog 14 #[vv t C, .int .i64 14] W fun e w' => e = .returned (.bool (ext t)) ∧ Bo2 w t C o x y w') := Lib.hid fun W hW => (rhas_any w (cnt t) t C W (Nat.le_refl _) hN hC hW.b.b).mono fun e w' h => ⟨h.1, hW.on h.2⟩
  have HIT : Hid (chk t = 0 → ext t = false → ∀ W, Bo2 w t C o x y W → Calls Tryd.prog 15 #[vv t C, .agg #[.bool o, .int .i64 x, .bool y]] W (RwAns (itB o t) w)) := Lib.hid fun hc he W hW =>
    ((rts_any w o x y (cnt t) t (Nat.le_refl _) hN (chk_parts hc).2.2 hwf he hsz) C W hC hW.b.b (by omega)).mono fun e w' h => RwAns.behind hW.b.b h
  have HBC : Hid (∀ W, Bo2 w t C o x y W → (W.cell? ⟨w.heap.size, 0, none⟩ = some (.int .i64 t.k) ∧ W.cell? ⟨w.heap.size, 1, none⟩ = some (.bool t.g) ∧ W.cell? ⟨w.heap.size, 2, none⟩ = some (.int .u64 (t.n : Int)) ∧ W.cell? ⟨w.heap.size, 3, none⟩ = some (.string t.s) ∧ W.cell? ⟨w.heap.size, 4, none⟩ = some C) ∧ (W.cell? ⟨w.heap.size + 1, 0, none⟩ = some (.bool o) ∧ W.cell? ⟨w.heap.size + 1, 1, none⟩ = some (.int .i64 x) ∧ W.cell? ⟨w.heap.size + 1, 2, none⟩ = some (.bool y)) ∧ Below w.heap.size w W) := Lib.hid fun W hW => ⟨⟨hW.b.r.k, hW.b.r.g, hW.b.r.n, hW.b.r.s, hW.b.r.l⟩, hW.c, hW.b.b⟩
  have HEN : Hid (ecL o t = (if chk t = 0 ∧ ext t = false then itB o t else []) ∧ enE t = (if chk t = 0 then (if ext t = true then 10 else 0) else chk t)) := Lib.hid ⟨rfl, rfl⟩
  obtain ⟨⟨c0, c1, c2, c3, c4⟩, ⟨p0, p1, p2⟩, _⟩ := HBC.out _ hx
  unfold EnAns
  obtain ⟨L, hL⟩ : ∃ L, ecL o t = L := ⟨_, rfl⟩
  obtain ⟨E, hE⟩ : ∃ E, enE t = E := ⟨_, rfl⟩
  obtain ⟨X, hX⟩ : ∃ X, ext t = X := ⟨_, rfl⟩
  obtain ⟨I, hI⟩ : ∃ I, itB o t = I := ⟨_, rfl⟩
  obtain ⟨ck, hck⟩ : ∃ ck, chk t = ck := ⟨_, rfl⟩
  rw [hL, hE, hX, hI, hck] at HEN
  rw [hX] at HHS
  rw [hX, hI, hck] at HIT
  rw [hck] at HCK
  rw [hL, hE]
  have HW2 := Lib.hid hW2
  unfold vv at HCK HHS HIT ⊢
  clear hL hE hX hI hck hN hS hC hwf hsz hx hW2
  go_enter Tryd.func7, Tryd.ntmps7
  go_upto_region 1 with fail
  rw [HW2.out]
  go_wp2_with fail
  refine HCK.out.mono ?_
  rintro e w3 ⟨rfl, hx3⟩
  have HX3 := Lib.hid hx3
  obtain ⟨⟨d0, d1, d2, d3, d4⟩, _, hb3⟩ := HBC.out _ hx3
  clear c0 c1 c2 c3 c4 p0 p1 p2 hx3 HCK HW2
  by_cases hc : ck = 0
  · subst hc
    have HIT2 := Lib.hid (HIT.out rfl)
    have HH := Lib.hid (HHS.out _ HX3.out)
    clear HIT HHS hb3
    go_wp2_with fail
    refine HH.out.mono ?_
    rintro e w4 ⟨rfl, hx4⟩
    have HX4 := Lib.hid hx4
    obtain ⟨⟨e0, e1, e2, e3, e4⟩, ⟨q0, q1, q2⟩, hb4⟩ := HBC.out _ hx4
    have HB4 := Lib.hid hb4
    clear d0 d1 d2 d3 d4 hx4 HH HX3 hb4
    cases X with
    | true =>
      have HL : Hid (L = [] ∧ E = 10) := Lib.hid (by have h7 := HEN.out; simp at h7; exact h7)
      clear e0 e1 e2 e3 e4 q0 q1 q2 HEN HIT2
      go_wp2_with fail
      refine bodyPost_ret (v := .tuple #[.slice none 0 0, .int .i64 10]) (by simp [results, Tryd.results7, go_sem]) rfl ⟨none, 0, ?_, ?_, ?_, ?_, HB4.out⟩
      · rw [HL.out.1, HL.out.2]; rfl
      · rw [HL.out.1]; exact Nat.le_refl _
      · unfold maxLen; omega
      · rw [HL.out.1]; exact Rd.none_
    | false =>
      have HL : Hid (L = I ∧ E = 0) := Lib.hid (by have h7 := HEN.out; simp at h7; exact h7)
      have HI := Lib.hid (HIT2.out rfl _ HX4.out)
      clear HIT2 HEN
      go_wp2_with fail
      refine HI.out.mono ?_
      rintro e w5 ⟨v, rfl, ho, hb5⟩
      obtain ⟨A, c, rfl, h8, h9, h10⟩ := rd_list rfl ho
      have HG := Lib.hid (And.intro h8 (And.intro h9 (And.intro h10 hb5)))
      clear h8 h9 h10 hb5 ho e0 e1 e2 e3 e4 q0 q1 q2 HI HX4
      go_wp2_with fail
      refine bodyPost_ret (v := .tuple #[.slice A I.length c, .int .i64 0]) (by simp [results, Tryd.results7, go_sem]) rfl ⟨A, c, ?_, ?_, HG.out.2.1, ?_, HG.out.2.2.2⟩
      · rw [HL.out.1, HL.out.2]; rfl
      · rw [HL.out.1]; exact HG.out.1
      · rw [HL.out.1]; exact HG.out.2.2.1
  · have hne : ((ck : Int) != 0) = true := by simp; omega
    have HQ := Lib.hid hb3
    have HL : Hid (L = [] ∧ E = ck) := Lib.hid ⟨by rw [HEN.out.1, if_neg (by omega)], by rw [HEN.out.2, if_neg hc]⟩
    clear HIT HHS d0 d1 d2 d3 d4 hb3 hc HX3 HEN
    go_wp2_with fail
    refine bodyPost_ret (v := .tuple #[.slice none 0 0, .int .i64 (ck : Int)]) (by simp [results, Tryd.results7, go_sem]) rfl ⟨none, 0, ?_, ?_, ?_, ?_, HQ.out⟩
    · rw [HL.out.1, HL.out.2]; rfl
    · rw [HL.out.1]; exact Nat.le_refl _
    · unfold maxLen; omega
    · rw [HL.out.1]; exact Rd.none_
end Go.Proofs.YtlmabhpfmbebjaaDoor.nn
