/- Joined texts, what is wanted of them: RbBg, RbMay, RbAdd. -/
import Derived.Lib.MinMax
import Derived.Deep.RegionLaw
import Derived.Test.YtpcladdipgchbaaGreatDoorProg
import Derived.WalkKit
import Derived.Lib.Hide
import Derived.WalkSpells
import Derived.Deep.QuietTactic
import Derived.BigQuiet
import Derived.Deep.RegionHeld3
import Derived.Laws.BitsAllLaws
import Derived.Test.YtpcladdipgchbaaGreatDoorShelf
import Derived.Deep.RegionWith
import Derived.IntWalk
import Derived.Deep.CutBlock
import Derived.StillTailTactics
import Derived.Test.YtpcladdipgchbaaGreatDoorSi
import Derived.Test.YtpcladdipgchbaaGreatDoorSf
import Derived.Test.YtpcladdipgchbaaGreatDoorSe
import Derived.Test.YtpcladdipgchbaaGreatDoorSb
import Derived.Test.YtpcladdipgchbaaGreatDoorSd
import Derived.Test.YtpcladdipgchbaaGreatDoorSa
import Derived.Test.YtpcladdipgchbaaGreatDoorSc
import Derived.Test.YtpcladdipgchbaaGreatDoorTl
import Derived.Test.YtpcladdipgchbaaGreatDoorSl
import Derived.Test.YtpcladdipgchbaaGreatDoorTk
namespace Go.Proofs.YtpcladdipgchbaaGreatDoor.nn
open Go.RowKit

/-- which function tells what may come next within a kind -/
def tkK (k : Int) : Nat := if k = 12 then 223 else if k = 13 then 224 else 225
/-- what begun answers -/
def BgAns (e : Ev) (w : World) (x : Ending) (w' : World) : Prop := ∃ q, x = .returned (.agg #[.pointer (some ⟨q, 0, none⟩), .func (.func (tkK e.k)) #[.pointer (some ⟨q, 0, none⟩)] #[]]) ∧ w.heap.size ≤ q ∧ Bk w' q 104 #[.int .i64 e.k, .bool false, .int .u64 (e.n : Int), .string ⟨#[]⟩, .slice none 0 0] ∧ Below w.heap.size w w'
set_option maxRecDepth 100000 in
set_option maxHeartbeats 2000000 in
theorem begun_any (e : Ev) (w : World) : Calls Tryz.prog 185 #[evv e] w (BgAns e w) := by
  have hmf : ∀ (fn : Fn) (first cap : Array Value) (w : World), (Instr.makeFunc fn first cap).run Tryz.prog w = .ok (.func fn first cap) w := fun _ _ _ _ => rfl
  obtain ⟨k, gg, n, s⟩ := e
  obtain ⟨W1, hW1⟩ : ∃ W1, w.alloc (.cells #[.int .i64 k, .bool gg, .int .u64 (n : Int), .string s] 159) = W1 := ⟨_, rfl⟩
  obtain ⟨W2, hW2⟩ : ∃ W2, W1.alloc (.cells #[.pointer none, .nilFunc] 108) = W2 := ⟨_, rfl⟩
  obtain ⟨W3, hW3⟩ : ∃ W3, W2.alloc (.cells #[.int .i64 k, .bool false, .int .u64 (n : Int), .string ⟨#[]⟩, .slice none 0 0] 104) = W3 := ⟨_, rfl⟩
  have Z : Hid (W1.heap.size = w.heap.size + 1 ∧ W2.heap.size = W1.heap.size + 1 ∧ W3.heap.size = W2.heap.size + 1) := Lib.hid ⟨by rw [← hW1]; simp, by rw [← hW2]; simp, by rw [← hW3]; simp⟩
  have b1 : Below w.heap.size w W1 := by rw [← hW1]; exact (Below.refl _ _).alloc (Nat.le_refl _) _
  have b2 : Below W1.heap.size W1 W2 := by rw [← hW2]; exact (Below.refl _ _).alloc (Nat.le_refl _) _
  have b3 : Below W2.heap.size W2 W3 := by rw [← hW3]; exact (Below.refl _ _).alloc (Nat.le_refl _) _
  have k1 : Bk W1 w.heap.size 159 #[.int .i64 k, .bool gg, .int .u64 (n : Int), .string s] := by rw [← hW1]; exact heap_alloc_last _ _
  have k2 : Bk W2 W1.heap.size 108 #[.pointer none, .nilFunc] := by rw [← hW2]; exact heap_alloc_last _ _
  have k3 : Bk W3 W2.heap.size 104 #[.int .i64 k, .bool false, .int .u64 (n : Int), .string ⟨#[]⟩, .slice none 0 0] := by rw [← hW3]; exact heap_alloc_last _ _
  have k12 := k1.below b2 k1.lt
  have k13 := k12.below b3 k12.lt
  have k23 := k2.below b3 k2.lt
  obtain ⟨c0, c1, c2, c3⟩ := k12.c4
  obtain ⟨d0, d1, d2, d3⟩ := k13.c4
  obtain ⟨f0, f1⟩ := k23.c2
  have ff0 := k23.frozen 0
  have ff1 := k23.frozen 1
  have HB : Hid (Below w.heap.size w W3) := Lib.hid (b1.trans ((b2.trans (b3.mono b2.size)).mono b1.size))
  have HK : Hid (∀ a b, Bk ((W3.setCell ⟨W1.heap.size, 0, none⟩ a).setCell ⟨W1.heap.size, 0 + 1, none⟩ b) W2.heap.size 104 #[.int .i64 k, .bool false, .int .u64 (n : Int), .string ⟨#[]⟩, .slice none 0 0]) := Lib.hid fun a b => by
    unfold Bk
    rw [off_g (by have := Z.out; omega), off_g (by have := Z.out; omega)]
    exact k3
  have HZ : Hid (w.heap.size ≤ W1.heap.size ∧ w.heap.size ≤ W2.heap.size) := Lib.hid (by have := Z.out; omega)
  have HT : Hid (∀ f, f = tkK k → BgAns ⟨k, gg, n, s⟩ w (.returned (.agg #[.pointer (some ⟨W2.heap.size, 0, none⟩), .func (.func f) #[.pointer (some ⟨W2.heap.size, 0, none⟩)] #[]])) ((W3.setCell ⟨W1.heap.size, 0, none⟩ (.pointer (some ⟨W2.heap.size, 0, none⟩))).setCell ⟨W1.heap.size, 0 + 1, none⟩ (.func (.func f) #[.pointer (some ⟨W2.heap.size, 0, none⟩)] #[]))) := Lib.hid fun f hf => by
    subst hf
    exact ⟨W2.heap.size, rfl, HZ.out.2, HK.out _ _, below_set2 HB.out HZ.out.1 _ _⟩
  clear b1 b2 b3 k1 k2 k3 k12 k13 k23 HK
  unfold evv
  by_cases h12 : k = 12
  · subst h12
    go_enter Tryz.func185, Tryz.ntmps185
    go_wp2_with fail
    exact bodyPost_ret (v := .agg #[.pointer (some ⟨W2.heap.size, 0, none⟩), .func (.func 223) #[.pointer (some ⟨W2.heap.size, 0, none⟩)] #[]]) (by simp [results, Tryz.results185, go_sem, f0, f1]) rfl (HT.out _ rfl)
  · by_cases h13 : k = 13
    · subst h13
      go_enter Tryz.func185, Tryz.ntmps185
      go_wp2_with fail
      exact bodyPost_ret (v := .agg #[.pointer (some ⟨W2.heap.size, 0, none⟩), .func (.func 224) #[.pointer (some ⟨W2.heap.size, 0, none⟩)] #[]]) (by simp [results, Tryz.results185, go_sem, f0, f1]) rfl (HT.out _ rfl)
    · have e12 : (k == 12) = false := by simpa using h12
      have e13 : (k == 13) = false := by simpa using h13
      have HF : Hid (225 = tkK k) := Lib.hid (by unfold tkK; rw [if_neg h12, if_neg h13])
      go_enter Tryz.func185, Tryz.ntmps185
      go_wp2_with fail
      exact bodyPost_ret (v := .agg #[.pointer (some ⟨W2.heap.size, 0, none⟩), .func (.func 225) #[.pointer (some ⟨W2.heap.size, 0, none⟩)] #[]]) (by simp [results, Tryz.results185, go_sem, f0, f1]) rfl (HT.out _ HF.out)
/-- what bottom answers -/
def BtAns (w : World) (x : Ending) (w' : World) : Prop := ∃ q, x = .returned (.agg #[.pointer (some ⟨q, 0, none⟩), .func (.func 144) #[.pointer (some ⟨q, 0, none⟩)] #[]]) ∧ w.heap.size ≤ q ∧ Bk w' q 104 #[.int .i64 11, .bool false, .int .u64 0, .string ⟨#[]⟩, .slice none 0 0] ∧ Below w.heap.size w w'
set_option maxRecDepth 100000 in
set_option maxHeartbeats 2000000 in
theorem bottom_any (w : World) : Calls Tryz.prog 108 #[] w (BtAns w) := by
  have hmf : ∀ (fn : Fn) (first cap : Array Value) (w : World), (Instr.makeFunc fn first cap).run Tryz.prog w = .ok (.func fn first cap) w := fun _ _ _ _ => rfl
  obtain ⟨W1, hW1⟩ : ∃ W1, w.alloc (.cells #[.pointer none, .nilFunc] 108) = W1 := ⟨_, rfl⟩
  obtain ⟨W2, hW2⟩ : ∃ W2, W1.alloc (.cells #[.int .i64 11, .bool false, .int .u64 0, .string ⟨#[]⟩, .slice none 0 0] 104) = W2 := ⟨_, rfl⟩
  have Z : Hid (W1.heap.size = w.heap.size + 1) := Lib.hid (by rw [← hW1]; simp)
  have b1 : Below w.heap.size w W1 := by rw [← hW1]; exact (Below.refl _ _).alloc (Nat.le_refl _) _
  have b2 : Below W1.heap.size W1 W2 := by rw [← hW2]; exact (Below.refl _ _).alloc (Nat.le_refl _) _
  have k1 : Bk W1 w.heap.size 108 #[.pointer none, .nilFunc] := by rw [← hW1]; exact heap_alloc_last _ _
  have k2 : Bk W2 W1.heap.size 104 #[.int .i64 11, .bool false, .int .u64 0, .string ⟨#[]⟩, .slice none 0 0] := by rw [← hW2]; exact heap_alloc_last _ _
  have k12 := k1.below b2 k1.lt
  obtain ⟨f0, f1⟩ := k12.c2
  have ff0 := k12.frozen 0
  have ff1 := k12.frozen 1
  have HB : Hid (Below w.heap.size w W2) := Lib.hid (b1.trans (b2.mono b1.size))
  have HK : Hid (∀ a b, Bk ((W2.setCell ⟨w.heap.size, 0, none⟩ a).setCell ⟨w.heap.size, 0 + 1, none⟩ b) W1.heap.size 104 #[.int .i64 11, .bool false, .int .u64 0, .string ⟨#[]⟩, .slice none 0 0]) := Lib.hid fun a b => by
    unfold Bk
    rw [off_g (by have := Z.out; omega), off_g (by have := Z.out; omega)]
    exact k2
  have HZ : Hid (w.heap.size ≤ W1.heap.size) := Lib.hid (by have := Z.out; omega)
  have HT : Hid (BtAns w (.returned (.agg #[.pointer (some ⟨W1.heap.size, 0, none⟩), .func (.func 144) #[.pointer (some ⟨W1.heap.size, 0, none⟩)] #[]])) ((W2.setCell ⟨w.heap.size, 0, none⟩ (.pointer (some ⟨W1.heap.size, 0, none⟩))).setCell ⟨w.heap.size, 0 + 1, none⟩ (.func (.func 144) #[.pointer (some ⟨W1.heap.size, 0, none⟩)] #[]))) := Lib.hid
    ⟨W1.heap.size, rfl, HZ.out, HK.out _ _, below_set2 HB.out (Nat.le_refl _) _ _⟩
  clear b1 b2 k1 k2 k12 HK
  go_enter Tryz.func108, Tryz.ntmps108
  go_wp2_with fail
  exact bodyPost_ret (v := .agg #[.pointer (some ⟨W1.heap.size, 0, none⟩), .func (.func 144) #[.pointer (some ⟨W1.heap.size, 0, none⟩)] #[]]) (by simp [results, Tryz.results108, go_sem, f0, f1]) rfl HT.out
end Go.Proofs.YtpcladdipgchbaaGreatDoor.nn
namespace Go.Proofs.YtpcladdipgchbaaGreatDoor.nn

theorem rgt_emp : rgt emp = true := by decide +kernel
theorem asked_dep (e : Ev) : dep (asked e) ≤ 1 ∧ cnt (asked e) ≤ 2 := by
  have h1 := dep_mk (asked e)
  unfold asked at h1 ⊢
  by_cases hk : e.k = 13
  · rw [if_pos hk] at h1 ⊢
    have hk2 : (VT.mk e.k e.g e.n e.s [emp]).k = 13 := hk
    rw [hk2] at h1
    have hd : dep (VT.mk e.k e.g e.n e.s [emp]) = 0 + 1 := h1
    exact ⟨by omega, Nat.le_refl _⟩
  · rw [if_neg hk] at h1 ⊢
    have hd : depL (VT.mk e.k e.g e.n e.s []).l = 0 := rfl
    rw [hd] at h1
    refine ⟨?_, by show 0 + 1 ≤ 2; omega⟩
    rw [h1]
    split
    · exact Nat.le_refl _
    · split
      · exact Nat.zero_le _
      · exact Nat.le_refl _
theorem asked_ok (e : Ev) : chk (asked e) = 0 ↔ oneB (asked e) = true := by
  have h1 := asked_dep e
  unfold chk
  rw [if_neg (by omega)]
  have h2 : rgt (asked e) = oneB (asked e) := by
    rw [rgt_mk]
    unfold asked
    by_cases hk : e.k = 13
    · rw [if_pos hk]
      have e1 : (!(lf (VT.mk e.k e.g e.n e.s [emp]).k) || decide ((VT.mk e.k e.g e.n e.s [emp]).l.length = 0)) = true := by
        show (!(lf e.k) || _) = true
        rw [hk]
        rfl
      have e2 : rgtL (VT.mk e.k e.g e.n e.s [emp]).l = true := by
        show (rgt emp && true) = true
        rw [rgt_emp]
        rfl
      rw [e1, e2, Bool.and_true, Bool.and_true]
    · rw [if_neg hk]
      have e1 : (!(lf (VT.mk e.k e.g e.n e.s []).k) || decide ((VT.mk e.k e.g e.n e.s []).l.length = 0)) = true := by
        show (_ || true) = true
        rw [Bool.or_true]
      have e2 : rgtL (VT.mk e.k e.g e.n e.s []).l = true := rfl
      rw [e1, e2, Bool.and_true, Bool.and_true]
  rw [h2]
  cases oneB (asked e) <;> simp
theorem tagged_ok (n : Nat) (e : Ev) (h : oneB (asked e) = true) : chk (tagged n e) = 0 ↔ ¬ ((n = 2 ∨ n = 3) ∧ e.k = 9 ∧ big e.s = true) := by
  have h1 := asked_dep e
  have h0 := (asked_ok e).2 h
  have hr : rgt (asked e) = true := (chk_cnt h0).2.2
  have hd := dep_mk (tagged n e)
  have hd2 : dep (tagged n e) = max (dep (asked e)) 0 + 1 := hd
  have hc : cnt (tagged n e) = cnt (asked e) + 0 + 1 := rfl
  unfold chk
  rw [if_neg (by omega)]
  have h2 : rgt (tagged n e) = !(guise n [asked e]) := by
    rw [rgt_mk]
    have e1 : (!(lf (tagged n e).k) || decide ((tagged n e).l.length = 0)) = true := rfl
    have e2 : rgtL (tagged n e).l = true := by
      show (rgt (asked e) && true) = true
      rw [hr]
      rfl
    rw [e1, e2, Bool.and_true, Bool.and_true]
    show (sE (tagged n e) && !false && decide ((tagged n e).l.length = 1) && !guise n [asked e]) = _
    have e3 : sE (tagged n e) = true := by
      show (ByteArray.toList ⟨#[]⟩).isEmpty = true
      decide +kernel
    rw [e3]
    rfl
  rw [h2, guise_one]
  have e4 : (asked e).k = e.k := rfl
  have e5 : (asked e).s = e.s := rfl
  rw [e4, e5]
  by_cases ha : n = 2 ∨ n = 3 <;> by_cases hb : e.k = 9 <;> cases hbg : big e.s <;> simp [ha, hb]
/-- what the innermost says of an event -/
def tkB (S : Bst) (e : Ev) : Bool := match S.op with
  | [] => decide (e.k ≠ 15) && decide (S.v.toList.length = 0)
  | p :: _ => if p.k = 12 then decide (e.k ≠ 15) || decide (p.l.length % 2 = 0) else if p.k = 13 then decide (e.k ≠ 15) && decide (chk (tagged p.n e) = 0) else true
/-- what the real build answers -/
def refB (S : Bst) (e : Ev) : Nat :=
  if (ievB e && tkB S e) = false then 4
  else if e.k = 15 then 0
  else if (e.k = 11 ∨ e.k = 12 ∨ e.k = 13 ∨ e.k = 5) ∧ S.op.length = S.most then 8
  else if S.n = 65536 then 8 else 0
/-- a state that events have come to -/
def Good (S : Bst) : Prop := ∃ L, Inv S L
theorem OpOk.len {most : Nat} {op : List VT} (h : OpOk most op) : op.length ≤ most := by
  cases op with
  | nil => exact Nat.zero_le _
  | cons p r => have := h.2.2.2.1; rw [List.length_cons]; omega
theorem ref_may (S : Bst) (e : Ev) (h : Good S) : refB S e = mayB S e := by
  obtain ⟨L, ⟨h1, h2, h3⟩, h4⟩ := h
  obtain ⟨op, v, n, most⟩ := S
  simp only at h1 h2 h3 h4
  have hdb := dep_bare e
  cases v with
  | some x =>
    have hop := (h2 x rfl).1
    subst hop
    rw [may_some (show (⟨[], some x, n, most⟩ : Bst).v = some x from rfl)]
    unfold refB
    have : tkB ⟨[], some x, n, most⟩ e = false := by unfold tkB; simp
    rw [this, Bool.and_false, if_pos rfl]
  | none =>
    obtain ⟨hO, _⟩ := h3 rfl
    have hlen := hO.len
    have hm : mayB ⟨op, none, n, most⟩ e = (if e.k = 15 then (if (e.g = false ∧ e.n = 0 ∧ e.s.size = 0) ∧ endOk op = true then 0 else 4)
      else if oneB (asked e) = false ∨ (tag23 op = true ∧ e.k = 9 ∧ big e.s = true) then 4 else if most < op.length + dep (bare e) ∨ 65536 ≤ n then 8 else 0) := by
      unfold mayB
      rw [if_neg (by simp)]
    by_cases k15 : e.k = 15
    · rw [if_pos k15] at hm
      have hR : refB ⟨op, none, n, most⟩ e = if (ievB e && tkB ⟨op, none, n, most⟩ e) = false then 4 else 0 := by unfold refB; rw [if_pos k15]
      have hi : ievB e = (!e.g && decide (e.n = 0) && decide (e.s.size = 0)) := by unfold ievB; rw [if_pos k15]
      have ht : tkB ⟨op, none, n, most⟩ e = endOk op := by
        unfold tkB endOk
        cases op with
        | nil => simp [k15]
        | cons p r =>
          obtain ⟨hk, _⟩ := hO
          simp only [k15]
          rcases hk with hk | hk | ⟨hk, _⟩
          · simp [hk]
          · simp [hk]
          · simp [hk]
      rw [hm, hR, hi, ht]
      cases e.g <;> by_cases hn : e.n = 0 <;> by_cases hs : e.s.size = 0 <;> cases endOk op <;> simp [hn, hs]
    · rw [if_neg k15] at hm
      have hR : refB ⟨op, none, n, most⟩ e = if (ievB e && tkB ⟨op, none, n, most⟩ e) = false then 4 else if (e.k = 11 ∨ e.k = 12 ∨ e.k = 13 ∨ e.k = 5) ∧ op.length = most then 8 else if n = 65536 then 8 else 0 := by unfold refB; rw [if_neg k15]
      have hi : ievB e = oneB (asked e) := by
        unfold ievB
        rw [if_neg k15]
        have := asked_ok e
        cases ho : oneB (asked e)
        · rw [ho] at this; simpa using this
        · rw [ho] at this; simpa using this
      have hlim : (most < op.length + dep (bare e) ∨ 65536 ≤ n) ↔ (((e.k = 11 ∨ e.k = 12 ∨ e.k = 13 ∨ e.k = 5) ∧ op.length = most) ∨ n = 65536) := by
        by_cases k5 : e.k = 5
        · rw [if_pos k5] at hdb; omega
        · rw [if_neg k5] at hdb
          have := lf_iff e.k
          cases hl : lf e.k
          · rw [hl] at hdb this
            have hd : dep (bare e) = 1 := hdb
            have : ¬ (e.k ≠ 11 ∧ e.k ≠ 12 ∧ e.k ≠ 13) := fun h => by simp at this; exact absurd (this h.1 h.2.1) (by simpa using h.2.2)
            omega
          · rw [hl] at hdb this
            have hd : dep (bare e) = 0 := hdb
            have := this.1 rfl
            omega
      by_cases ho : oneB (asked e) = true
      · have ht : tkB ⟨op, none, n, most⟩ e = !(tag23 op && (decide (e.k = 9) && big e.s)) := by
          unfold tkB tag23
          cases op with
          | nil => simp [k15]
          | cons p r =>
            obtain ⟨hk, _⟩ := hO
            simp only
            rcases hk with hk | hk | ⟨hk, _⟩
            · simp [hk]
            · simp [hk, k15]
            · have hx := tagged_ok p.n e ho
              rw [if_neg (by omega), if_pos hk]
              by_cases hc : chk (tagged p.n e) = 0
              · have := hx.1 hc
                by_cases ha : p.n = 2 ∨ p.n = 3 <;> by_cases hb : e.k = 9 <;> cases hbg : big e.s <;> simp_all
              · have h5 := Classical.byContradiction fun hh => hc (hx.2 hh)
                have ha : (decide (p.n = 2) || decide (p.n = 3)) = true := by simpa using h5.1
                rw [ha, h5.2.2, decide_eq_true hk, decide_eq_true h5.2.1, decide_eq_false hc]
                simp
        rw [hi, ho, ht] at hR
        rw [ho] at hm
        by_cases hg : tag23 op = true ∧ e.k = 9 ∧ big e.s = true
        · rw [if_pos (by simp [hg.1, hg.2.1, hg.2.2])] at hR
          rw [if_pos (.inr hg)] at hm
          rw [hR, hm]
        · have hg2 : (tag23 op && (decide (e.k = 9) && big e.s)) = false := by
            cases ha : tag23 op
            · rfl
            · by_cases hb : e.k = 9
              · cases hc : big e.s
                · simp
                · exact absurd ⟨ha, hb, hc⟩ hg
              · simp [hb]
          rw [hg2, if_neg (by simp)] at hR
          rw [if_neg (by simp only [Bool.true_eq_false, false_or]; exact hg)] at hm
          rw [hm, hR]
          by_cases hl : most < op.length + dep (bare e) ∨ 65536 ≤ n
          · rw [if_pos hl]
            rcases hlim.1 hl with h | h
            · rw [if_pos h]
            · rw [if_pos h]; split <;> rfl
          · rw [if_neg hl, if_neg (fun h => hl (hlim.2 (.inl h))), if_neg (fun h => hl (hlim.2 (.inr h)))]
      · have ho2 : oneB (asked e) = false := by simpa using ho
        rw [hi, ho2, if_pos (by simp)] at hR
        rw [if_pos (.inl ho2)] at hm
        rw [hR, hm]
end Go.Proofs.YtpcladdipgchbaaGreatDoor.nn
namespace Go.Proofs.YtpcladdipgchbaaGreatDoor.nn
open Go.RowKit

theorem Mv.of_below {E O : Nat → Prop} {w W : World} (h : Below w.heap.size w W) : Mv E O w O W := ⟨h.os, h.tape, h.output, h.size, fun _ h => h, fun _ h => .inl h, fun b hb _ _ => h.block b hb⟩
/-- what add and end leave -/
def AddAns (g : Nat) (O : Nat → Prop) (n most : Nat) (ps : List VT) (w : World) (e : Ending) (w' : World) : Prop := e = .returned (.tuple #[]) ∧ ∃ O' K' sv' D', Mv No O w O' w' ∧ Rbx w' g O' K' sv' D' n most ∧ D'.map Rec.p = ps
theorem field0 (x y : Value) (W : World) : (Instr.field 108 (.agg #[x, y]) 0).run Tryz.prog W = .ok x W := by kernel_rfl
theorem field1 (x y : Value) (W : World) : (Instr.field 108 (.agg #[x, y]) 1).run Tryz.prog W = .ok y W := by kernel_rfl
theorem vo_form {F : Nat → Prop} {w : World} {v : Value} {l : List VT} (h : Vo F 0 w v l) : ∃ A c, v = .slice A l.length c := by
  obtain ⟨A, c, e, _⟩ := h.form rfl
  exact ⟨A, c, e⟩
set_option maxRecDepth 100000 in
set_option maxHeartbeats 2000000 in
theorem end_of (g n most : Nat) (r : Rec) (D : List Rec) (hD : D.length ≤ 1048577)
    (IH : ∀ O K sv (t : VT) C w, Rbx w g O K sv D n most → Lsf (Fz O K) w C t.l → Calls Tryz.prog 186 #[.pointer (some ⟨g, 0, none⟩), vv t C] w (AddAns g O n most (addRb (D.map Rec.p) t) w))
    (O : Nat → Prop) (K : Nat → Nat) (sv : Value) (w : World) (h : Rbx w g O K sv (r :: D) n most) :
    Calls Tryz.prog 184 #[.pointer (some ⟨g, 0, none⟩)] w (AddAns g O n most (addRb (D.map Rec.p) r.p) w) := by
  obtain ⟨gs, c, rfl, hgs, ht0, ht1⟩ := h.top
  have hg := h.lo _ h.o.1
  have hq := h.lo _ h.r.1.o.1
  obtain ⟨Ar, cr, hrv⟩ := vo_form h.r.1.v
  have HT := Lib.hid (top_any g gs D.length c r.q _ _ w hg hgs (h.b.cell 2) ht0 ht1 (by omega))
  have hcap : D.length + 1 ≤ c := by
    rcases h.s.2 with ⟨h5, _⟩ | ⟨_, _, _, e, _, _, hc, _⟩
    · cases h5
    · injection e with e1 e2 e3
      subst e3
      exact hc
  have HP : Hid (∀ w1, Below w.heap.size w w1 → (w1.cell? ⟨r.q, 0, none⟩ = some (.int .i64 r.p.k) ∧ w1.cell? ⟨r.q, 1, none⟩ = some (.bool r.p.g) ∧ w1.cell? ⟨r.q, 2, none⟩ = some (.int .u64 (r.p.n : Int)) ∧ w1.cell? ⟨r.q, 3, none⟩ = some (.string r.p.s) ∧ w1.cell? ⟨r.q, 4, none⟩ = some (.slice Ar r.p.l.length cr))) := Lib.hid fun w1 hB => by
    have hb := (h.r.1.b).below hB hq
    rw [hrv] at hb
    exact hb.c5
  have HG : Hid (∀ W, Below w.heap.size w W → W.cell? ⟨g, 2, none⟩ = some (.slice (some ⟨gs, 0, none⟩) (D.length + 1) c) ∧ W.frozen? ⟨g, 2, none⟩ = false) := Lib.hid fun W hB => ⟨(h.b.below hB hg).cell 2, (h.b.below hB hg).frozen 2⟩
  have HA : Hid (∀ W X, Below w.heap.size w W → X.heap = (W.setCell ⟨g, 2, none⟩ (.slice (some ⟨gs, 0, none⟩) D.length c)).heap → X.os = W.os → X.tape = W.tape → X.output = W.output → Calls Tryz.prog 186 #[.pointer (some ⟨g, 0, none⟩), vv r.p (.slice Ar r.p.l.length cr)] X (AddAns g O n most (addRb (D.map Rec.p) r.p) w)) := Lib.hid fun W X hB hX x1 x2 x3 => by
    obtain ⟨K', h1, h2⟩ := (h.below hB).pop
    rw [hrv] at h2
    have e1 : Rbx X g O K' _ D n most := h1.keep (Nat.le_of_eq (congrArg Array.size hX).symm) fun b _ => by rw [hX]
    have e2 := h2.keep (w' := X) (Nat.le_of_eq (congrArg Array.size hX).symm) fun b _ _ => by rw [hX]
    refine (IH O K' _ r.p _ X e1 e2).mono fun e w' ⟨he, O', K2, sv', D', hm, hr, hp⟩ => ⟨he, O', K2, sv', D', ?_, hr, hp⟩
    have hm0 : Mv No O w O X := (Mv.of_below hB).trans ⟨x1, x2, x3, by rw [hX, setCell_sz]; exact Nat.le_refl _, fun _ h => h, fun _ h => .inl h, fun b _ hb _ => by rw [hX]; exact off_g fun e => hb (by rw [e]; exact h.o.1)⟩
    exact hm0.trans hm
  have hsub : IntKind.i64.wrap (((D.length + 1 : Nat) : Int) - 1) = (D.length : Int) := by rw [IntWalk.i64_in _ ⟨by omega, by omega⟩]; omega
  have hsub2 : IntKind.i64.wrap (D.length : Int) = (D.length : Int) := IntWalk.i64_in _ ⟨by omega, by omega⟩
  obtain ⟨m, hm⟩ : ∃ m, D.length = m := ⟨_, rfl⟩
  obtain ⟨Z, hZ⟩ : ∃ Z, AddAns g O n most (addRb (D.map Rec.p) r.p) w = Z := ⟨_, rfl⟩
  obtain ⟨k, hk⟩ : ∃ k, r.p.k = k := ⟨_, rfl⟩
  obtain ⟨gg, hgg⟩ : ∃ k, r.p.g = k := ⟨_, rfl⟩
  obtain ⟨nn, hnn⟩ : ∃ k, r.p.n = k := ⟨_, rfl⟩
  obtain ⟨ss, hss⟩ : ∃ k, r.p.s = k := ⟨_, rfl⟩
  obtain ⟨mr, hmr⟩ : ∃ k, r.p.l.length = k := ⟨_, rfl⟩
  unfold vv at HA
  unfold opF at HT
  rw [hk, hgg, hnn, hss, hmr] at HP HA
  rw [hZ] at HA
  rw [hm] at HT hcap HG HA hsub hsub2 hD
  rw [hZ]
  have hcm : (m : Int) ≤ (c : Int) := by omega
  have hm0 : (0 : Int) ≤ (m : Int) := by omega
  have hf := field0 (.pointer (some ⟨r.q, 0, none⟩)) (.func (.func (tkF m r.p.k)) #[.pointer (some ⟨r.q, 0, none⟩)] #[])
  clear IH h ht0 ht1 hrv hk hgg hnn hss hmr hm
  go_enter Tryz.func184, Tryz.ntmps184
  go_wp2_with fail
  refine HT.out.mono ?_
  rintro e w1 ⟨rfl, hB1⟩
  have HB1 := Lib.hid hB1
  obtain ⟨p0, p1, p2, p3, p4⟩ := HP.out w1 hB1
  have hgw : g ≠ w1.heap.size := by have := hB1.size; omega
  have hgw2 : w1.heap.size ≠ g := Ne.symm hgw
  go_upto_region 1 with fail
  obtain ⟨W2, hW2⟩ : ∃ W2, w1.alloc (.cells #[.int .i64 k, .bool gg, .int .u64 (nn : Int), .string ss, .slice Ar mr cr] 25) = W2 := ⟨_, rfl⟩
  rw [hW2]
  have HB2 : Hid (Below w.heap.size w W2) := Lib.hid (by rw [← hW2]; exact hB1.alloc hB1.size _)
  have HK2 : Hid (Bk W2 w1.heap.size 25 #[.int .i64 k, .bool gg, .int .u64 (nn : Int), .string ss, .slice Ar mr cr]) := Lib.hid (by rw [← hW2]; exact heap_alloc_last _ _)
  clear hB1 hW2
  obtain ⟨a0, a1⟩ := HG.out W2 HB2.out
  obtain ⟨b0, b1, b2, b3, b4⟩ := HK2.out.c5
  clear p0 p1 p2 p3 p4
  go_wp2_with fail
  go_region
  all_goals
    go_wp2_with fail
    refine (HA.out W2 (W2.setCell ⟨g, 2, none⟩ (.slice (some ⟨gs, 0, none⟩) m c)).drew HB2.out rfl rfl rfl rfl).mono ?_
    intro e w3 hz
    subst hZ
    obtain ⟨rfl, hz2⟩ := hz
    have HZ2 := Lib.hid hz2
    clear hz2
    go_wp2_with fail
    go_end0
    exact ⟨rfl, HZ2.out⟩
set_option maxRecDepth 100000 in
set_option maxHeartbeats 4000000 in
theorem rbadd_any (g n most : Nat) : ∀ (D : List Rec) (O : Nat → Prop) (K : Nat → Nat) (sv : Value) (t : VT) (C : Value) (w : World), D.length ≤ 1048577 → (∀ r, r ∈ D → r.p.l.length ≤ 1048577) → Btm D → Rbx w g O K sv D n most → Lsf (Fz O K) w C t.l →
    Calls Tryz.prog 186 #[.pointer (some ⟨g, 0, none⟩), vv t C] w (AddAns g O n most (addRb (D.map Rec.p) t) w) := by
  intro D
  induction D with
  | nil => intro O K sv t C w _ _ h; exact h.elim
  | cons r D ih =>
    intro O K sv t C w hD hpl hbt h hC
    rw [List.length_cons] at hD
    obtain ⟨gs, c, rfl, hgs, ht0, ht1⟩ := h.top
    have hg := h.lo _ h.o.1
    have hq := h.lo _ h.r.1.o.1
    obtain ⟨Ar, cr, hrv⟩ := vo_form h.r.1.v
    obtain ⟨Ac, mc, cc, rfl⟩ : ∃ A m c, C = .slice A m c := by obtain ⟨a, b, e, _⟩ := hC.lst.out; exact ⟨a, _, b, e⟩
    have HB0 := Lib.hid (Box.new w t (.slice Ac mc cc) 25)
    have HT : Hid (∀ W, Box w t (.slice Ac mc cc) W → Calls Tryz.prog 221 #[.pointer (some ⟨g, 0, none⟩)] W fun e w' => e = .returned (.agg #[.pointer (some ⟨r.q, 0, none⟩), opF D.length r]) ∧ Box w t (.slice Ac mc cc) w') := Lib.hid fun W hW => (top_any g gs D.length c r.q _ _ W (Nat.lt_of_lt_of_le hg hW.b.size) (Nat.lt_of_lt_of_le hgs hW.b.size) ((h.b.below hW.b hg).cell 2) ((hW.b.cell (p := ⟨gs, D.length * 2, none⟩) hgs).trans ht0) ((hW.b.cell (p := ⟨gs, D.length * 2 + 1, none⟩) hgs).trans ht1) (by omega)).mono fun e w' ⟨he, hb⟩ => ⟨he, hW.on hb⟩
    have hplr := hpl r (by simp)
    have hF0 : ∀ b, Fz O K b → (Value.slice Ar r.p.l.length cr).ownBlock ≠ some b := fun b hb e => by
      rw [← hrv] at e
      have h1 := (h.r.1.vo b e).2
      have h2 := hb.2
      omega
    -- the world behind top
    have HR : Hid (∀ W, Box w t (.slice Ac mc cc) W → Rbx W g O K (.slice (some ⟨gs, 0, none⟩) (D.length + 1) c) (r :: D) n most ∧ Lsf (Fz O K) W (.slice Ac mc cc) t.l) := Lib.hid fun W hW => ⟨h.below hW.b, hC.keep hW.b.size fun b _ hlt => hW.b.block b hlt⟩
    have HQ : Hid (∀ W, Box w t (.slice Ac mc cc) W → W.cell? ⟨r.q, 4, none⟩ = some (.slice Ar r.p.l.length cr)) := Lib.hid fun W hW => by
      have := (h.r.1.b.below hW.b hq).cell 4
      rw [hrv] at this
      exact this
    have HX : Hid (∀ (W X : World), Box w t (.slice Ac mc cc) W → X.heap = (W.alloc (.cells #[.int .i64 0, .bool false, .int .u64 0, .string ⟨#[]⟩, .slice none 0 0] 25)).heap → Vo (Fz O K) 0 X (.slice Ar r.p.l.length cr) r.p.l ∧ Bk X W.heap.size 25 (vc zt (.slice none 0 0)) ∧
        ∀ w3, X.grownBy w3 (Value.slice Ar r.p.l.length cr).ownBlock → (w3.cell? ⟨r.q, 4, none⟩ = some (.slice Ar r.p.l.length cr) ∧ w3.frozen? ⟨r.q, 4, none⟩ = false ∧ w3.cell? ⟨r.q, 0, none⟩ = some (.int .i64 r.p.k)) ∧ w3.cell? ⟨w.heap.size, 0, none⟩ = some (.int .i64 t.k) ∧ w3.cell? ⟨w.heap.size, 1, none⟩ = some (.bool t.g) ∧ w3.cell? ⟨w.heap.size, 2, none⟩ = some (.int .u64 (t.n : Int)) ∧ w3.cell? ⟨w.heap.size, 3, none⟩ = some (.string t.s) ∧ w3.cell? ⟨w.heap.size, 4, none⟩ = some (.slice Ac mc cc)) := Lib.hid fun W X hW hX => by
      have hr := (h.below hW.b).r.1
      have hlo := (h.below hW.b).lo
      have hsz : X.heap.size = W.heap.size + 1 := by rw [hX]; simp
      have hk : ∀ b, b < W.heap.size → X.heap[b]? = W.heap[b]? := fun b hb => by rw [hX]; exact Below.heap_alloc _ _ _ hb
      refine ⟨?_, by unfold Bk; rw [hX]; exact heap_alloc_last _ _, fun w3 hg3 => ?_⟩
      · rw [← hrv]
        exact hr.v.keep (by omega) (fun b hb => hk b (hlo b (hr.vo b hb).1)) fun b hb hlt => ⟨hk b hlt, hb⟩
      · have hk3 : ∀ b, b < W.heap.size → r.v.ownBlock ≠ some b → w3.heap[b]? = W.heap[b]? := fun b hb hne => by
          rw [hg3.block b (by omega) (fun e => hne (by rw [hrv]; exact e.symm))]
          exact hk b hb
        have e1 : Bk w3 r.q 104 (vc r.p (.slice Ar r.p.l.length cr)) := by
          unfold Bk
          rw [hk3 _ (hlo _ hr.o.1) fun e => by have h1 := (hr.vo _ e).2; rw [hr.o.2] at h1; omega]
          have := hr.b
          rw [hrv] at this
          exact this
        have e2 : w3.heap[w.heap.size]? = W.heap[w.heap.size]? := hk3 _ hW.z fun e => by have := h.lo _ (h.r.1.vo _ e).1; omega
        exact ⟨⟨e1.cell 4, e1.frozen 4, e1.cell 0⟩, (World.cell?_of_block (a := ⟨w.heap.size, 0, none⟩) e2).trans hW.r.k, (World.cell?_of_block (a := ⟨w.heap.size, 1, none⟩) e2).trans hW.r.g, (World.cell?_of_block (a := ⟨w.heap.size, 2, none⟩) e2).trans hW.r.n, (World.cell?_of_block (a := ⟨w.heap.size, 3, none⟩) e2).trans hW.r.s, (World.cell?_of_block (a := ⟨w.heap.size, 4, none⟩) e2).trans hW.r.l⟩
    -- what the append leaves, and what the stores make of it
    have HNE : Hid (∀ (W X w3 : World) (gr c1 : Nat), Box w t (.slice Ac mc cc) W → X.heap = (W.alloc (.cells #[.int .i64 0, .bool false, .int .u64 0, .string ⟨#[]⟩, .slice none 0 0] 25)).heap → ((Value.slice (some ⟨gr, 0, none⟩) (r.p.l.length + 1) c1).ownBlock = (Value.slice Ar r.p.l.length cr).ownBlock ∨ ∃ j, (Value.slice (some ⟨gr, 0, none⟩) (r.p.l.length + 1) c1).ownBlock = some j ∧ X.heap.size ≤ j) → gr ≠ r.q ∧ r.q ≠ gr ∧ gr ≠ w.heap.size ∧ w.heap.size ≠ gr) := Lib.hid fun W X w3 gr c1 hW hX ho => by
      have hr := (h.below hW.b).r.1
      have hlo := (h.below hW.b).lo
      have hsz : X.heap.size = W.heap.size + 1 := by rw [hX]; simp
      have hz := hW.z
      have hqw := hlo _ hr.o.1
      have : gr ≠ r.q ∧ gr ≠ w.heap.size := by
        rcases ho with ho | ⟨j, ho, hj⟩
        · rw [← hrv] at ho
          have h1 := hr.vo gr ho.symm
          refine ⟨fun e => ?_, fun e => ?_⟩
          · have h2 := h1.2
            rw [e, hr.o.2] at h2
            omega
          · have := h.lo _ h1.1; omega
        · have : gr = j := Option.some.inj ho
          omega
      exact ⟨this.1, Ne.symm this.1, this.2, Ne.symm this.2⟩
    have HE : Hid (∀ (W X w3 W4 : World) (gr c1 : Nat), Box w t (.slice Ac mc cc) W → X.heap = (W.alloc (.cells #[.int .i64 0, .bool false, .int .u64 0, .string ⟨#[]⟩, .slice none 0 0] 25)).heap → X.os = W.os → X.tape = W.tape → X.output = W.output → Vo (Fz O K) 0 w3 (.slice (some ⟨gr, 0, none⟩) (r.p.l.length + 1) c1) (r.p.l ++ [zt]) → X.grownBy w3 (Value.slice Ar r.p.l.length cr).ownBlock → ((Value.slice (some ⟨gr, 0, none⟩) (r.p.l.length + 1) c1).ownBlock = (Value.slice Ar r.p.l.length cr).ownBlock ∨ ∃ j, (Value.slice (some ⟨gr, 0, none⟩) (r.p.l.length + 1) c1).ownBlock = some j ∧ X.heap.size ≤ j) →
        W4 = (set5 w3 gr (r.p.l.length * 5) (.int .i64 t.k) (.bool t.g) (.int .u64 (t.n : Int)) (.string t.s) (.slice Ac mc cc)).setCell ⟨r.q, 4, none⟩ (.slice (some ⟨gr, 0, none⟩) (r.p.l.length + 1) c1) →
        ∃ O' K', Mv No O w O' W4 ∧ Rbx W4 g O' K' (.slice (some ⟨gs, 0, none⟩) (D.length + 1) c) (⟨r.p.snoc t, r.q, .slice (some ⟨gr, 0, none⟩) (r.p.l.length + 1) c1⟩ :: D) n most) := Lib.hid fun W X w3 W4 gr c1 hW hX x1 x2 x3 hv hg3 ho e => by
      rw [← hrv] at hg3 ho
      obtain ⟨h1, h2⟩ := HR.out W hW
      obtain ⟨h3, h4, h5⟩ := h1.added hX hv hg3 ho rfl rfl h2 e
      have hb0 : Below 0 w3 W4 := by rw [e]; exact (below_set5o (Below.refl 0 w3) (Nat.zero_le gr) _ _ _ _ _).setCell (p := ⟨r.q, 4, none⟩) (Nat.zero_le _) _
      refine ⟨_, _, ?_, h3⟩
      refine (Mv.of_below hW.b).trans ⟨?_, ?_, ?_, h5, fun _ h => .inl h, fun _ h => h, fun b hb hn _ => h4 b hb hn⟩
      · exact (hb0.os.trans hg3.os).trans x1
      · exact (hb0.tape.trans hg3.tape).trans x2
      · exact (hb0.output.trans hg3.output).trans x3
    have HEND : Hid (r.p.k = 13 → ∀ O' K' v' W4, Mv No O w O' W4 → Rbx W4 g O' K' (.slice (some ⟨gs, 0, none⟩) (D.length + 1) c) (⟨r.p.snoc t, r.q, v'⟩ :: D) n most → Calls Tryz.prog 184 #[.pointer (some ⟨g, 0, none⟩)] W4 (AddAns g O n most (addRb (D.map Rec.p) (r.p.snoc t)) w)) := Lib.hid fun hk O' K' v' W4 hm hr => by
      have hb2 : Btm D := hbt.resolve_left (by simp [hk])
      refine (end_of g n most ⟨r.p.snoc t, r.q, v'⟩ D (by omega) (fun O K sv t C w h1 h2 => ih O K sv t C w (by omega) (fun r hr => hpl r (by simp [hr])) hb2 h1 h2) O' K' _ W4 hr).mono fun e w' ⟨he, O2, K2, sv2, D2, hm2, hr2, hp2⟩ => ⟨he, O2, K2, sv2, D2, hm.trans hm2, hr2, hp2⟩
    have ha13 : r.p.k = 13 → addRb ((r :: D).map Rec.p) t = addRb (D.map Rec.p) (r.p.snoc t) := fun hk => by rw [List.map_cons, addRb, if_pos hk]
    have han : r.p.k ≠ 13 → addRb ((r :: D).map Rec.p) t = r.p.snoc t :: D.map Rec.p := fun hk => by rw [List.map_cons, addRb, if_neg hk]
    obtain ⟨PS, hPS⟩ : ∃ PS, addRb ((r :: D).map Rec.p) t = PS := ⟨_, rfl⟩
    rw [hPS] at ha13 han ⊢
    have HA13 := Lib.hid ha13
    have HAN := Lib.hid han
    clear hPS
    have hf := field0 (.pointer (some ⟨r.q, 0, none⟩)) (opF D.length r)
    obtain ⟨m, hm⟩ : ∃ m, r.p.l.length = m := ⟨_, rfl⟩
    rw [hm] at HX HNE HE HQ hplr hF0
    have HF := Lib.hid hF0
    have HM := Lib.hid hm.symm
    unfold opF at HT hf
    unfold vv
    clear ih h hF0 ht0 ht1 hrv hC hpl hbt hm ha13 han
    go_enter Tryz.func186, Tryz.ntmps186
    go_wp2_with fail
    refine (HT.out _ HB0.out).mono ?_
    rintro e w2 ⟨rfl, hk2⟩
    have HK2 := Lib.hid hk2
    have q4 := HQ.out _ hk2
    have b0 := hk2.r.k
    have b1 := hk2.r.g
    have b2 := hk2.r.n
    have b3 := hk2.r.s
    have b4 := hk2.r.l
    obtain ⟨d0, d1, d2, d3, d4⟩ : (w2.alloc (.cells #[.int .i64 0, .bool false, .int .u64 0, .string ⟨#[]⟩, .slice none 0 0] 25)).cell? ⟨w.heap.size, 0, none⟩ = some (.int .i64 t.k) ∧ (w2.alloc (.cells #[.int .i64 0, .bool false, .int .u64 0, .string ⟨#[]⟩, .slice none 0 0] 25)).cell? ⟨w.heap.size, 1, none⟩ = some (.bool t.g) ∧ (w2.alloc (.cells #[.int .i64 0, .bool false, .int .u64 0, .string ⟨#[]⟩, .slice none 0 0] 25)).cell? ⟨w.heap.size, 2, none⟩ = some (.int .u64 (t.n : Int)) ∧ (w2.alloc (.cells #[.int .i64 0, .bool false, .int .u64 0, .string ⟨#[]⟩, .slice none 0 0] 25)).cell? ⟨w.heap.size, 3, none⟩ = some (.string t.s) ∧ (w2.alloc (.cells #[.int .i64 0, .bool false, .int .u64 0, .string ⟨#[]⟩, .slice none 0 0] 25)).cell? ⟨w.heap.size, 4, none⟩ = some (.slice Ac mc cc) := by
      have h5 := hk2.on ((Below.refl _ _).alloc (Nat.le_refl _) (.cells #[.int .i64 0, .bool false, .int .u64 0, .string ⟨#[]⟩, .slice none 0 0] 25))
      exact ⟨h5.r.k, h5.r.g, h5.r.n, h5.r.s, h5.r.l⟩
    have d5 := HQ.out _ (hk2.on ((Below.refl _ _).alloc (Nat.le_refl _) (.cells #[.int .i64 0, .bool false, .int .u64 0, .string ⟨#[]⟩, .slice none 0 0] 25)))
    have hml : m + 1 ≤ 1099511627776 := by omega
    have hmm : (m : Int) < (m : Int) + 1 := by omega
    clear hk2
    go_upto_region 2 with fail
    go_cut [4] (fun s4 wx => s4 = .pointer (some ⟨r.q, 0, none⟩) ∧ Hid (∃ O' K' v', Mv No O w O' wx ∧ Rbx wx g O' K' (.slice (some ⟨gs, 0, none⟩) (D.length + 1) c) (⟨r.p.snoc t, r.q, v'⟩ :: D) n most))
    case first =>
      go_region_law (first
        | (refine step_zero rfl (.tmp 11) (.tmp 14) rfl (Fz O K) (.slice Ar m cr) r.p.l w2.heap.size rfl rfl (HX.out w2 ((w2.alloc (.cells #[.int .i64 0, .bool false, .int .u64 0, .string ⟨#[]⟩, .slice none 0 0] 25)).drew) HK2.out rfl).1 (HX.out w2 ((w2.alloc (.cells #[.int .i64 0, .bool false, .int .u64 0, .string ⟨#[]⟩, .slice none 0 0] 25)).drew) HK2.out rfl).2.1 HF.out (by have := HM.out; omega) ?_; intro v1 w3 hvo hgr hat; obtain ⟨gr, c1, D1, rfl, hgl, hcc, ⟨x0, x1, x2, x3, x4⟩, ⟨y0, y1, y2, y3, y4⟩⟩ := Vo.last HM.out hvo; obtain ⟨⟨z4, zf4, z0⟩, e0, e1, e2, e3, e4⟩ := (HX.out w2 ((w2.alloc (.cells #[.int .i64 0, .bool false, .int .u64 0, .string ⟨#[]⟩, .slice none 0 0] 25)).drew) HK2.out rfl).2.2 w3 hgr; obtain ⟨n1, n2, n3, n4⟩ := HNE.out w2 ((w2.alloc (.cells #[.int .i64 0, .bool false, .int .u64 0, .string ⟨#[]⟩, .slice none 0 0] 25)).drew) w3 gr c1 HK2.out rfl hat))
      all_goals
        go_wp2_with fail
        go_meet
        refine ⟨rfl, ?_⟩
        first
          | (obtain ⟨O', K', h1, h2⟩ := HE.out w2 ((w2.alloc (.cells #[.int .i64 0, .bool false, .int .u64 0, .string ⟨#[]⟩, .slice none 0 0] 25)).drew) w3 ((set5 w3 gr (m * 5) (.int .i64 t.k) (.bool t.g) (.int .u64 (t.n : Int)) (.string t.s) (.slice Ac mc cc)).setCell ⟨r.q, 4, none⟩ (.slice (some ⟨gr, 0, none⟩) (m + 1) c1)) gr c1 HK2.out rfl rfl rfl rfl hvo hgr hat rfl; unfold set5 at h1 h2; with_reducible exact Lib.hid ⟨O', K', _, h1, h2⟩)
          | (obtain ⟨O', K', h1, h2⟩ := HE.out w2 ((w2.alloc (.cells #[.int .i64 0, .bool false, .int .u64 0, .string ⟨#[]⟩, .slice none 0 0] 25)).drew) w3 (set5 (w3.setCell ⟨r.q, 4, none⟩ (.slice (some ⟨gr, 0, none⟩) (m + 1) c1)) gr (m * 5) (.int .i64 t.k) (.bool t.g) (.int .u64 (t.n : Int)) (.string t.s) (.slice Ac mc cc)) gr c1 HK2.out rfl rfl rfl rfl hvo hgr hat (set5_comm _ _ _ _ _ _ _ _ _ _ _ n2); unfold set5 at h1 h2; with_reducible exact Lib.hid ⟨O', K', _, h1, h2⟩)
    case rest =>
      obtain ⟨rfl, HC⟩ := hcut
      obtain ⟨O', K', v', hm, hr⟩ := HC.out
      have z0 : wc.cell? ⟨r.q, 0, none⟩ = some (.int .i64 r.p.k) := hr.r.1.b.cell 0
      have HM2 := Lib.hid hm
      have HR2 := Lib.hid hr
      clear hm hr q4 b0 b1 b2 b3 b4 d0 d1 d2 d3 d4 d5 HX HNE HE HT
      obtain ⟨k, hk⟩ : ∃ k, r.p.k = k := ⟨_, rfl⟩
      by_cases h13 : k = 13
      · have HEE := Lib.hid (HEND.out (hk.trans h13) O' K' v' wc HM2.out HR2.out)
        rw [← HA13.out (hk.trans h13)] at HEE
        rw [hk] at z0
        clear HEND HA13 HAN hk
        subst h13
        go_wp2_with fail
        refine HEE.out.mono ?_
        rintro e w3 hz
        have HZ := Lib.hid hz.2
        obtain ⟨rfl, _⟩ := hz
        go_wp2_with fail
        go_end0
        exact ⟨rfl, HZ.out⟩
      · have HPS := Lib.hid (HAN.out (by rw [hk]; exact h13))
        have hk1 : (k == 13) = false := by simpa using h13
        rw [hk] at z0
        clear HEND HA13 HAN hk h13
        go_wp2_with fail
        go_end0
        exact ⟨rfl, O', K', _, _, HM2.out, HR2.out, HPS.out.symm⟩
end Go.Proofs.YtpcladdipgchbaaGreatDoor.nn
