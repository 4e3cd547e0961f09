/- Joined texts, what is wanted of them: RbBg, RbMay, RbRef, RbPush, RbPut. -/
import Derived.Lib.MinMax
import Derived.Lib.Hide
import Derived.Deep.QuietTactic
import Derived.BigQuiet
import Derived.StillTailTactics
import Derived.IntWalk
import Derived.Deep.RegionHeld3
import Derived.Test.YteebokhpoppgeaaProg
import Derived.WalkKit
import Derived.Test.YteebokhpoppgeaaJh
import Derived.Test.YteebokhpoppgeaaJk
import Derived.Test.YteebokhpoppgeaaJb
import Derived.Test.YteebokhpoppgeaaJo
import Derived.Test.YteebokhpoppgeaaJa
import Derived.Test.YteebokhpoppgeaaJg
import Derived.Test.YteebokhpoppgeaaJe
import Derived.Test.YteebokhpoppgeaaJc
import Derived.Test.YteebokhpoppgeaaJn
import Derived.Test.YteebokhpoppgeaaJp
namespace Go.Proofs.Yteebokhpoppgeaa.nn
open Go.RowKit

/-- which function tells what may come next within a kind -/
def tkK (k : Int) : Nat := if k = 12 then 30 else if k = 13 then 31 else 32
/-- what begun answers -/
def BgAns (e : Ev) (w : World) (x : Ending) (w' : World) : Prop := ∃ q, x = .returned (.agg #[.pointer (some ⟨q, 0, none⟩), .func (.func (tkK e.k)) #[.pointer (some ⟨q, 0, none⟩)] #[]]) ∧ w.heap.size ≤ q ∧ Bk w' q 57 #[.int .i64 e.k, .bool false, .int .u64 (e.n : Int), .string ⟨#[]⟩, .slice none 0 0] ∧ Below w.heap.size w w'
set_option maxRecDepth 100000 in
set_option maxHeartbeats 2000000 in
theorem begun_any (e : Ev) (w : World) : Calls Try.prog 18 #[evv e] w (BgAns e w) := by
  have hmf : ∀ (fn : Fn) (first cap : Array Value) (w : World), (Instr.makeFunc fn first cap).run Try.prog w = .ok (.func fn first cap) w := fun _ _ _ _ => rfl
  obtain ⟨k, gg, n, s⟩ := e
  obtain ⟨W1, hW1⟩ : ∃ W1, w.alloc (.cells #[.int .i64 k, .bool gg, .int .u64 (n : Int), .string s] 31) = W1 := ⟨_, rfl⟩
  obtain ⟨W2, hW2⟩ : ∃ W2, W1.alloc (.cells #[.pointer none, .nilFunc] 47) = W2 := ⟨_, rfl⟩
  obtain ⟨W3, hW3⟩ : ∃ W3, W2.alloc (.cells #[.int .i64 k, .bool false, .int .u64 (n : Int), .string ⟨#[]⟩, .slice none 0 0] 57) = W3 := ⟨_, rfl⟩
  have Z : Hid (W1.heap.size = w.heap.size + 1 ∧ W2.heap.size = W1.heap.size + 1 ∧ W3.heap.size = W2.heap.size + 1) := Lib.hid ⟨by rw [← hW1]; simp, by rw [← hW2]; simp, by rw [← hW3]; simp⟩
  have b1 : Below w.heap.size w W1 := by rw [← hW1]; exact (Below.refl _ _).alloc (Nat.le_refl _) _
  have b2 : Below W1.heap.size W1 W2 := by rw [← hW2]; exact (Below.refl _ _).alloc (Nat.le_refl _) _
  have b3 : Below W2.heap.size W2 W3 := by rw [← hW3]; exact (Below.refl _ _).alloc (Nat.le_refl _) _
  have k1 : Bk W1 w.heap.size 31 #[.int .i64 k, .bool gg, .int .u64 (n : Int), .string s] := by rw [← hW1]; exact heap_alloc_last _ _
  have k2 : Bk W2 W1.heap.size 47 #[.pointer none, .nilFunc] := by rw [← hW2]; exact heap_alloc_last _ _
  have k3 : Bk W3 W2.heap.size 57 #[.int .i64 k, .bool false, .int .u64 (n : Int), .string ⟨#[]⟩, .slice none 0 0] := by rw [← hW3]; exact heap_alloc_last _ _
  have k12 := k1.below b2 k1.lt
  have k13 := k12.below b3 k12.lt
  have k23 := k2.below b3 k2.lt
  obtain ⟨c0, c1, c2, c3⟩ := k12.c4
  obtain ⟨d0, d1, d2, d3⟩ := k13.c4
  obtain ⟨f0, f1⟩ := k23.c2
  have ff0 := k23.frozen 0
  have ff1 := k23.frozen 1
  have HB : Hid (Below w.heap.size w W3) := Lib.hid (b1.trans ((b2.trans (b3.mono b2.size)).mono b1.size))
  have HK : Hid (∀ a b, Bk ((W3.setCell ⟨W1.heap.size, 0, none⟩ a).setCell ⟨W1.heap.size, 0 + 1, none⟩ b) W2.heap.size 57 #[.int .i64 k, .bool false, .int .u64 (n : Int), .string ⟨#[]⟩, .slice none 0 0]) := Lib.hid fun a b => by
    unfold Bk
    rw [off_g (by have := Z.out; omega), off_g (by have := Z.out; omega)]
    exact k3
  have HZ : Hid (w.heap.size ≤ W1.heap.size ∧ w.heap.size ≤ W2.heap.size) := Lib.hid (by have := Z.out; omega)
  have HT : Hid (∀ f, f = tkK k → BgAns ⟨k, gg, n, s⟩ w (.returned (.agg #[.pointer (some ⟨W2.heap.size, 0, none⟩), .func (.func f) #[.pointer (some ⟨W2.heap.size, 0, none⟩)] #[]])) ((W3.setCell ⟨W1.heap.size, 0, none⟩ (.pointer (some ⟨W2.heap.size, 0, none⟩))).setCell ⟨W1.heap.size, 0 + 1, none⟩ (.func (.func f) #[.pointer (some ⟨W2.heap.size, 0, none⟩)] #[]))) := Lib.hid fun f hf => by
    subst hf
    exact ⟨W2.heap.size, rfl, HZ.out.2, HK.out _ _, below_set2 HB.out HZ.out.1 _ _⟩
  clear b1 b2 b3 k1 k2 k3 k12 k13 k23 HK
  unfold evv
  by_cases h12 : k = 12
  · subst h12
    go_enter Try.func18, Try.ntmps18
    go_wp2_with fail
    exact bodyPost_ret (v := .agg #[.pointer (some ⟨W2.heap.size, 0, none⟩), .func (.func 30) #[.pointer (some ⟨W2.heap.size, 0, none⟩)] #[]]) (by simp [results, Try.results18, go_sem, f0, f1]) rfl (HT.out _ rfl)
  · by_cases h13 : k = 13
    · subst h13
      go_enter Try.func18, Try.ntmps18
      go_wp2_with fail
      exact bodyPost_ret (v := .agg #[.pointer (some ⟨W2.heap.size, 0, none⟩), .func (.func 31) #[.pointer (some ⟨W2.heap.size, 0, none⟩)] #[]]) (by simp [results, Try.results18, go_sem, f0, f1]) rfl (HT.out _ rfl)
    · have e12 : (k == 12) = false := by simpa using h12
      have e13 : (k == 13) = false := by simpa using h13
      have HF : Hid (32 = tkK k) := Lib.hid (by unfold tkK; rw [if_neg h12, if_neg h13])
      go_enter Try.func18, Try.ntmps18
      go_wp2_with fail
      exact bodyPost_ret (v := .agg #[.pointer (some ⟨W2.heap.size, 0, none⟩), .func (.func 32) #[.pointer (some ⟨W2.heap.size, 0, none⟩)] #[]]) (by simp [results, Try.results18, go_sem, f0, f1]) rfl (HT.out _ HF.out)
/-- what bottom answers -/
def BtAns (w : World) (x : Ending) (w' : World) : Prop := ∃ q, x = .returned (.agg #[.pointer (some ⟨q, 0, none⟩), .func (.func 27) #[.pointer (some ⟨q, 0, none⟩)] #[]]) ∧ w.heap.size ≤ q ∧ Bk w' q 57 #[.int .i64 11, .bool false, .int .u64 0, .string ⟨#[]⟩, .slice none 0 0] ∧ Below w.heap.size w w'
set_option maxRecDepth 100000 in
set_option maxHeartbeats 2000000 in
theorem bottom_any (w : World) : Calls Try.prog 14 #[] w (BtAns w) := by
  have hmf : ∀ (fn : Fn) (first cap : Array Value) (w : World), (Instr.makeFunc fn first cap).run Try.prog w = .ok (.func fn first cap) w := fun _ _ _ _ => rfl
  obtain ⟨W1, hW1⟩ : ∃ W1, w.alloc (.cells #[.pointer none, .nilFunc] 47) = W1 := ⟨_, rfl⟩
  obtain ⟨W2, hW2⟩ : ∃ W2, W1.alloc (.cells #[.int .i64 11, .bool false, .int .u64 0, .string ⟨#[]⟩, .slice none 0 0] 57) = W2 := ⟨_, rfl⟩
  have Z : Hid (W1.heap.size = w.heap.size + 1) := Lib.hid (by rw [← hW1]; simp)
  have b1 : Below w.heap.size w W1 := by rw [← hW1]; exact (Below.refl _ _).alloc (Nat.le_refl _) _
  have b2 : Below W1.heap.size W1 W2 := by rw [← hW2]; exact (Below.refl _ _).alloc (Nat.le_refl _) _
  have k1 : Bk W1 w.heap.size 47 #[.pointer none, .nilFunc] := by rw [← hW1]; exact heap_alloc_last _ _
  have k2 : Bk W2 W1.heap.size 57 #[.int .i64 11, .bool false, .int .u64 0, .string ⟨#[]⟩, .slice none 0 0] := by rw [← hW2]; exact heap_alloc_last _ _
  have k12 := k1.below b2 k1.lt
  obtain ⟨f0, f1⟩ := k12.c2
  have ff0 := k12.frozen 0
  have ff1 := k12.frozen 1
  have HB : Hid (Below w.heap.size w W2) := Lib.hid (b1.trans (b2.mono b1.size))
  have HK : Hid (∀ a b, Bk ((W2.setCell ⟨w.heap.size, 0, none⟩ a).setCell ⟨w.heap.size, 0 + 1, none⟩ b) W1.heap.size 57 #[.int .i64 11, .bool false, .int .u64 0, .string ⟨#[]⟩, .slice none 0 0]) := Lib.hid fun a b => by
    unfold Bk
    rw [off_g (by have := Z.out; omega), off_g (by have := Z.out; omega)]
    exact k2
  have HZ : Hid (w.heap.size ≤ W1.heap.size) := Lib.hid (by have := Z.out; omega)
  have HT : Hid (BtAns w (.returned (.agg #[.pointer (some ⟨W1.heap.size, 0, none⟩), .func (.func 27) #[.pointer (some ⟨W1.heap.size, 0, none⟩)] #[]])) ((W2.setCell ⟨w.heap.size, 0, none⟩ (.pointer (some ⟨W1.heap.size, 0, none⟩))).setCell ⟨w.heap.size, 0 + 1, none⟩ (.func (.func 27) #[.pointer (some ⟨W1.heap.size, 0, none⟩)] #[]))) := Lib.hid
    ⟨W1.heap.size, rfl, HZ.out, HK.out _ _, below_set2 HB.out (Nat.le_refl _) _ _⟩
  clear b1 b2 k1 k2 k12 HK
  go_enter Try.func14, Try.ntmps14
  go_wp2_with fail
  exact bodyPost_ret (v := .agg #[.pointer (some ⟨W1.heap.size, 0, none⟩), .func (.func 27) #[.pointer (some ⟨W1.heap.size, 0, none⟩)] #[]]) (by simp [results, Try.results14, go_sem, f0, f1]) rfl HT.out
end Go.Proofs.Yteebokhpoppgeaa.nn
namespace Go.Proofs.Yteebokhpoppgeaa.nn

theorem rgt_emp : rgt emp = true := by decide +kernel
theorem asked_dep (e : Ev) : dep (asked e) ≤ 1 ∧ cnt (asked e) ≤ 2 := by
  have h1 := dep_mk (asked e)
  unfold asked at h1 ⊢
  by_cases hk : e.k = 13
  · rw [if_pos hk] at h1 ⊢
    have hk2 : (VT.mk e.k e.g e.n e.s [emp]).k = 13 := hk
    rw [hk2] at h1
    have hd : dep (VT.mk e.k e.g e.n e.s [emp]) = 0 + 1 := h1
    exact ⟨by omega, Nat.le_refl _⟩
  · rw [if_neg hk] at h1 ⊢
    have hd : depL (VT.mk e.k e.g e.n e.s []).l = 0 := rfl
    rw [hd] at h1
    refine ⟨?_, by show 0 + 1 ≤ 2; omega⟩
    rw [h1]
    split
    · exact Nat.le_refl _
    · split
      · exact Nat.zero_le _
      · exact Nat.le_refl _
theorem asked_ok (e : Ev) : chk (asked e) = 0 ↔ oneB (asked e) = true := by
  have h1 := asked_dep e
  unfold chk
  rw [if_neg (by omega)]
  have h2 : rgt (asked e) = oneB (asked e) := by
    rw [rgt_mk]
    unfold asked
    by_cases hk : e.k = 13
    · rw [if_pos hk]
      have e1 : (!(lf (VT.mk e.k e.g e.n e.s [emp]).k) || decide ((VT.mk e.k e.g e.n e.s [emp]).l.length = 0)) = true := by
        show (!(lf e.k) || _) = true
        rw [hk]
        rfl
      have e2 : rgtL (VT.mk e.k e.g e.n e.s [emp]).l = true := by
        show (rgt emp && true) = true
        rw [rgt_emp]
        rfl
      rw [e1, e2, Bool.and_true, Bool.and_true]
    · rw [if_neg hk]
      have e1 : (!(lf (VT.mk e.k e.g e.n e.s []).k) || decide ((VT.mk e.k e.g e.n e.s []).l.length = 0)) = true := by
        show (_ || true) = true
        rw [Bool.or_true]
      have e2 : rgtL (VT.mk e.k e.g e.n e.s []).l = true := rfl
      rw [e1, e2, Bool.and_true, Bool.and_true]
  rw [h2]
  cases oneB (asked e) <;> simp
theorem tagged_ok (n : Nat) (e : Ev) (h : oneB (asked e) = true) : chk (tagged n e) = 0 ↔ ¬ ((n = 2 ∨ n = 3) ∧ e.k = 9 ∧ big e.s = true) := by
  have h1 := asked_dep e
  have h0 := (asked_ok e).2 h
  have hr : rgt (asked e) = true := (chk_cnt h0).2.2
  have hd := dep_mk (tagged n e)
  have hd2 : dep (tagged n e) = max (dep (asked e)) 0 + 1 := hd
  have hc : cnt (tagged n e) = cnt (asked e) + 0 + 1 := rfl
  unfold chk
  rw [if_neg (by omega)]
  have h2 : rgt (tagged n e) = !(guise n [asked e]) := by
    rw [rgt_mk]
    have e1 : (!(lf (tagged n e).k) || decide ((tagged n e).l.length = 0)) = true := rfl
    have e2 : rgtL (tagged n e).l = true := by
      show (rgt (asked e) && true) = true
      rw [hr]
      rfl
    rw [e1, e2, Bool.and_true, Bool.and_true]
    show (sE (tagged n e) && !false && decide ((tagged n e).l.length = 1) && !guise n [asked e]) = _
    have e3 : sE (tagged n e) = true := by
      show (ByteArray.toList ⟨#[]⟩).isEmpty = true
      decide +kernel
    rw [e3]
    rfl
  rw [h2, guise_one]
  have e4 : (asked e).k = e.k := rfl
  have e5 : (asked e).s = e.s := rfl
  rw [e4, e5]
  by_cases ha : n = 2 ∨ n = 3 <;> by_cases hb : e.k = 9 <;> cases hbg : big e.s <;> simp [ha, hb]
/-- what the innermost says of an event -/
def tkB (S : Bst) (e : Ev) : Bool := match S.op with
  | [] => decide (e.k ≠ 15) && decide (S.v.toList.length = 0)
  | p :: _ => if p.k = 12 then decide (e.k ≠ 15) || decide (p.l.length % 2 = 0) else if p.k = 13 then decide (e.k ≠ 15) && decide (chk (tagged p.n e) = 0) else true
/-- what the real build answers -/
def refB (S : Bst) (e : Ev) : Nat :=
  if (ievB e && tkB S e) = false then 4
  else if e.k = 15 then 0
  else if (e.k = 11 ∨ e.k = 12 ∨ e.k = 13 ∨ e.k = 5) ∧ S.op.length = S.most then 8
  else if S.n = 65536 then 8 else 0
/-- a state that events have come to -/
def Good (S : Bst) : Prop := ∃ L, Inv S L
theorem OpOk.len {most : Nat} {op : List VT} (h : OpOk most op) : op.length ≤ most := by
  cases op with
  | nil => exact Nat.zero_le _
  | cons p r => have := h.2.2.2.1; rw [List.length_cons]; omega
theorem ref_may (S : Bst) (e : Ev) (h : Good S) : refB S e = mayB S e := by
  obtain ⟨L, ⟨h1, h2, h3⟩, h4⟩ := h
  obtain ⟨op, v, n, most⟩ := S
  simp only at h1 h2 h3 h4
  have hdb := dep_bare e
  cases v with
  | some x =>
    have hop := (h2 x rfl).1
    subst hop
    rw [may_some (show (⟨[], some x, n, most⟩ : Bst).v = some x from rfl)]
    unfold refB
    have : tkB ⟨[], some x, n, most⟩ e = false := by unfold tkB; simp
    rw [this, Bool.and_false, if_pos rfl]
  | none =>
    obtain ⟨hO, _⟩ := h3 rfl
    have hlen := hO.len
    have hm : mayB ⟨op, none, n, most⟩ e = (if e.k = 15 then (if (e.g = false ∧ e.n = 0 ∧ e.s.size = 0) ∧ endOk op = true then 0 else 4)
      else if oneB (asked e) = false ∨ (tag23 op = true ∧ e.k = 9 ∧ big e.s = true) then 4 else if most < op.length + dep (bare e) ∨ 65536 ≤ n then 8 else 0) := by
      unfold mayB
      rw [if_neg (by simp)]
    by_cases k15 : e.k = 15
    · rw [if_pos k15] at hm
      have hR : refB ⟨op, none, n, most⟩ e = if (ievB e && tkB ⟨op, none, n, most⟩ e) = false then 4 else 0 := by unfold refB; rw [if_pos k15]
      have hi : ievB e = (!e.g && decide (e.n = 0) && decide (e.s.size = 0)) := by unfold ievB; rw [if_pos k15]
      have ht : tkB ⟨op, none, n, most⟩ e = endOk op := by
        unfold tkB endOk
        cases op with
        | nil => simp [k15]
        | cons p r =>
          obtain ⟨hk, _⟩ := hO
          simp only [k15]
          rcases hk with hk | hk | ⟨hk, _⟩
          · simp [hk]
          · simp [hk]
          · simp [hk]
      rw [hm, hR, hi, ht]
      cases e.g <;> by_cases hn : e.n = 0 <;> by_cases hs : e.s.size = 0 <;> cases endOk op <;> simp [hn, hs]
    · rw [if_neg k15] at hm
      have hR : refB ⟨op, none, n, most⟩ e = if (ievB e && tkB ⟨op, none, n, most⟩ e) = false then 4 else if (e.k = 11 ∨ e.k = 12 ∨ e.k = 13 ∨ e.k = 5) ∧ op.length = most then 8 else if n = 65536 then 8 else 0 := by unfold refB; rw [if_neg k15]
      have hi : ievB e = oneB (asked e) := by
        unfold ievB
        rw [if_neg k15]
        have := asked_ok e
        cases ho : oneB (asked e)
        · rw [ho] at this; simpa using this
        · rw [ho] at this; simpa using this
      have hlim : (most < op.length + dep (bare e) ∨ 65536 ≤ n) ↔ (((e.k = 11 ∨ e.k = 12 ∨ e.k = 13 ∨ e.k = 5) ∧ op.length = most) ∨ n = 65536) := by
        by_cases k5 : e.k = 5
        · rw [if_pos k5] at hdb; omega
        · rw [if_neg k5] at hdb
          have := lf_iff e.k
          cases hl : lf e.k
          · rw [hl] at hdb this
            have hd : dep (bare e) = 1 := hdb
            have : ¬ (e.k ≠ 11 ∧ e.k ≠ 12 ∧ e.k ≠ 13) := fun h => by simp at this; exact absurd (this h.1 h.2.1) (by simpa using h.2.2)
            omega
          · rw [hl] at hdb this
            have hd : dep (bare e) = 0 := hdb
            have := this.1 rfl
            omega
      by_cases ho : oneB (asked e) = true
      · have ht : tkB ⟨op, none, n, most⟩ e = !(tag23 op && (decide (e.k = 9) && big e.s)) := by
          unfold tkB tag23
          cases op with
          | nil => simp [k15]
          | cons p r =>
            obtain ⟨hk, _⟩ := hO
            simp only
            rcases hk with hk | hk | ⟨hk, _⟩
            · simp [hk]
            · simp [hk, k15]
            · have hx := tagged_ok p.n e ho
              rw [if_neg (by omega), if_pos hk]
              by_cases hc : chk (tagged p.n e) = 0
              · have := hx.1 hc
                by_cases ha : p.n = 2 ∨ p.n = 3 <;> by_cases hb : e.k = 9 <;> cases hbg : big e.s <;> simp_all
              · have h5 := Classical.byContradiction fun hh => hc (hx.2 hh)
                have ha : (decide (p.n = 2) || decide (p.n = 3)) = true := by simpa using h5.1
                rw [ha, h5.2.2, decide_eq_true hk, decide_eq_true h5.2.1, decide_eq_false hc]
                simp
        rw [hi, ho, ht] at hR
        rw [ho] at hm
        by_cases hg : tag23 op = true ∧ e.k = 9 ∧ big e.s = true
        · rw [if_pos (by simp [hg.1, hg.2.1, hg.2.2])] at hR
          rw [if_pos (.inr hg)] at hm
          rw [hR, hm]
        · have hg2 : (tag23 op && (decide (e.k = 9) && big e.s)) = false := by
            cases ha : tag23 op
            · rfl
            · by_cases hb : e.k = 9
              · cases hc : big e.s
                · simp
                · exact absurd ⟨ha, hb, hc⟩ hg
              · simp [hb]
          rw [hg2, if_neg (by simp)] at hR
          rw [if_neg (by simp only [Bool.true_eq_false, false_or]; exact hg)] at hm
          rw [hm, hR]
          by_cases hl : most < op.length + dep (bare e) ∨ 65536 ≤ n
          · rw [if_pos hl]
            rcases hlim.1 hl with h | h
            · rw [if_pos h]
            · rw [if_pos h]; split <;> rfl
          · rw [if_neg hl, if_neg (fun h => hl (hlim.2 (.inl h))), if_neg (fun h => hl (hlim.2 (.inr h)))]
      · have ho2 : oneB (asked e) = false := by simpa using ho
        rw [hi, ho2, if_pos (by simp)] at hR
        rw [if_pos (.inl ho2)] at hm
        rw [hR, hm]
end Go.Proofs.Yteebokhpoppgeaa.nn
namespace Go.Proofs.Yteebokhpoppgeaa.nn
open Go.RowKit

/-- a state that events have come to, its numbers as they are handed over -/
structure GoodW (S : Bst) : Prop where
  g : Good S
  n : ∀ p, p ∈ S.op → p.n < 18446744073709551616
  m : S.most ≤ 64
theorem GoodW.len {S : Bst} (h : GoodW S) : S.op.length ≤ 64 := by
  obtain ⟨L, ⟨h1, h2, h3⟩, h4⟩ := h.g
  cases hv : S.v with
  | some x => have : S.op = [] := (h2 x hv).1; rw [this]; exact Nat.zero_le _
  | none => have h5 : S.op.length ≤ S.most := (h3 hv).1.len; have := h.m; omega
set_option maxRecDepth 100000 in
theorem depth_any (g gs m c : Nat) (w : World) (h2 : w.cell? ⟨g, 2, none⟩ = some (.slice (some ⟨gs, 0, none⟩) (m + 1) c)) (hg : g < w.heap.size) (hm : m ≤ 1099511627776) :
    Calls Try.prog 9 #[.pointer (some ⟨g, 0, none⟩)] w fun e w' => e = .returned (.int .i64 (m : Int)) ∧ Below w.heap.size w w' := by
  have HM := Lib.hid (made_yes g m c _ w h2)
  have hsub : IntKind.i64.wrap (((m + 1 : Nat) : Int) - 1) = (m : Int) := by rw [IntWalk.i64_in _ ⟨by omega, by omega⟩]; omega
  have hsub2 : IntKind.i64.wrap (m : Int) = (m : Int) := IntWalk.i64_in _ ⟨by omega, by omega⟩
  go_enter Try.func9, Try.ntmps9
  go_wp2_with fail
  refine HM.out.mono ?_
  rintro e w1 ⟨rfl, hB⟩
  have a2 := (hB.cell (p := ⟨g, 2, none⟩) hg).trans h2
  have HB := Lib.hid hB
  clear hB
  go_wp2_with fail
  go_ret
  exact ⟨rfl, HB.out⟩
/-- what lies open, with its function -/
theorem Rb.tops {w : World} {g : Nat} {O : Nat → Prop} {S : Bst} (h : Rb w g O S) : ∃ K sv r D, Rbx w g O K sv (r :: D) S.n S.most ∧ (r :: D).map Rec.p = S.op ++ [bot S.v] ∧ D.length = S.op.length := by
  obtain ⟨K, sv, D, h1, h2⟩ := h
  cases D with
  | nil => simp at h2
  | cons r D =>
    refine ⟨K, sv, r, D, h1, h2, ?_⟩
    have := congrArg List.length h2
    simp at this
    exact this
/-- the function that tells what may come next -/
theorem tk_any {w : World} {g : Nat} {O : Nat → Prop} {S : Bst} {K : Nat → Nat} {sv : Value} {r : Rec} {D : List Rec} (h : Rbx w g O K sv (r :: D) S.n S.most) (hp : (r :: D).map Rec.p = S.op ++ [bot S.v]) (hG : GoodW S) (e : Ev) (hw : wfE e) :
    ∃ f, tkF D.length r.p.k = f ∧ (f = 27 ∨ f = 30 ∨ f = 31 ∨ f = 32) ∧
      ∀ W, Eb w e W → Calls Try.prog f #[.pointer (some ⟨r.q, 0, none⟩), evv e] W fun x w' => x = .returned (.bool (tkB S e)) ∧ Eb w e w' := by
  have hq := h.lo _ h.r.1.o.1
  obtain ⟨A, c, hv⟩ := vo_form h.r.1.v
  have h4 : ∀ W, Eb w e W → W.cell? ⟨r.q, 4, none⟩ = some (.slice A r.p.l.length c) := fun W hW => by
    have := (h.r.1.b.below hW.b hq).cell 4
    rw [hv] at this
    exact this
  have h2 : ∀ W, Eb w e W → W.cell? ⟨r.q, 2, none⟩ = some (.int .u64 (r.p.n : Int)) := fun W hW => (h.r.1.b.below hW.b hq).cell 2
  have hqW : ∀ W, Eb w e W → r.q < W.heap.size := fun W hW => Nat.lt_of_lt_of_le hq hW.b.size
  refine ⟨_, rfl, ?_, ?_⟩
  · unfold tkF
    split
    · exact .inl rfl
    · split
      · exact .inr (.inl rfl)
      · split
        · exact .inr (.inr (.inl rfl))
        · exact .inr (.inr (.inr rfl))
  · intro W hW
    cases hop : S.op with
    | nil =>
      rw [hop] at hp
      have hD : D = [] := by
        have := congrArg List.length hp
        simp at this
        exact this
      subst hD
      have hrp : r.p = bot S.v := by simpa using hp
      have hl : r.p.l = S.v.toList := by rw [hrp]; rfl
      have ht : tkB S e = (decide (e.k ≠ 15) && decide (r.p.l.length = 0)) := by unfold tkB; rw [hop, hl]
      rw [ht]
      exact (botTk_any r.q r.p.l.length c A e W (hqW W hW) (h4 W hW)).mono fun x w' ⟨hx, hb⟩ => ⟨hx, hW.on hb⟩
    | cons p op =>
      rw [hop] at hp
      have hrp : r.p = p := by simp at hp; exact hp.1
      have hD : D.length ≠ 0 := by
        have := congrArg List.length hp
        simp at this
        omega
      have hpn : p.n < 18446744073709551616 := hG.n p (by rw [hop]; simp)
      have ht : tkB S e = if p.k = 12 then decide (e.k ≠ 15) || decide (p.l.length % 2 = 0) else if p.k = 13 then decide (e.k ≠ 15) && decide (chk (tagged p.n e) = 0) else true := by unfold tkB; rw [hop]
      unfold tkF
      rw [if_neg hD, ht]
      rw [hrp] at h4 h2 ⊢
      by_cases k12 : p.k = 12
      · rw [if_pos k12, if_pos k12]
        exact (mapTk_any r.q p.l.length c A e W (hqW W hW) (h4 W hW)).mono fun x w' ⟨hx, hb⟩ => ⟨hx, hW.on hb⟩
      · rw [if_neg k12, if_neg k12]
        by_cases k13 : p.k = 13
        · rw [if_pos k13, if_pos k13]
          exact (tagTk_any r.q p.n e W (hqW W hW) (h2 W hW) hpn hw).mono fun x w' ⟨hx, hb⟩ => ⟨hx, hW.on hb⟩
        · rw [if_neg k13, if_neg k13]
          exact (listTk_any r.q e W).mono fun x w' ⟨hx, hb⟩ => ⟨hx, hW.on hb⟩
set_option maxRecDepth 100000 in
set_option maxHeartbeats 4000000 in
theorem refusal_any (S : Bst) (g : Nat) (O : Nat → Prop) (e : Ev) (w : World) (hR : Rb w g O S) (hG : GoodW S) (hw : wfE e) :
    Calls Try.prog 16 #[.pointer (some ⟨g, 0, none⟩), evv e] w fun x w' => x = .returned (.int .i64 (refB S e : Int)) ∧ Below w.heap.size w w' := by
  obtain ⟨K, sv, r, D, h, hp, hDl⟩ := hR.tops
  obtain ⟨f, hf, hfs, htk⟩ := tk_any h hp hG e hw
  obtain ⟨gs, c, rfl, hgs, ht0, ht1⟩ := h.top
  have hg := h.lo _ h.o.1
  have hlen := hG.len
  have HE := Lib.hid (Eb.new w e)
  have C1 : Hid (∀ W, Eb w e W → Calls Try.prog 28 #[evv e] W fun x w' => x = .returned (.bool (ievB e)) ∧ Eb w e w') := Lib.hid fun W hW => (isEv_any e W hw).mono fun x w' ⟨hx, hb⟩ => ⟨hx, hW.on hb⟩
  have C2 : Hid (∀ W, Eb w e W → Calls Try.prog 29 #[.pointer (some ⟨g, 0, none⟩)] W fun x w' => x = .returned (.agg #[.pointer (some ⟨r.q, 0, none⟩), .func (.func f) #[.pointer (some ⟨r.q, 0, none⟩)] #[]]) ∧ Eb w e w') := Lib.hid fun W hW => by
    rw [← hf]
    exact (top_any g gs D.length c r.q _ _ W (Nat.lt_of_lt_of_le hg hW.b.size) (Nat.lt_of_lt_of_le hgs hW.b.size) ((h.b.below hW.b hg).cell 2) ((hW.b.cell (p := ⟨gs, D.length * 2, none⟩) hgs).trans ht0) ((hW.b.cell (p := ⟨gs, D.length * 2 + 1, none⟩) hgs).trans ht1) (by omega)).mono fun e w' ⟨he, hb⟩ => ⟨he, hW.on hb⟩
  have C3 := Lib.hid htk
  have C4 : Hid (∀ W, Eb w e W → Calls Try.prog 9 #[.pointer (some ⟨g, 0, none⟩)] W fun x w' => x = .returned (.int .i64 (S.op.length : Int)) ∧ Eb w e w') := Lib.hid fun W hW => by
    rw [← hDl]
    exact (depth_any g gs D.length c W ((h.b.below hW.b hg).cell 2) (Nat.lt_of_lt_of_le hg hW.b.size) (by omega)).mono fun x w' ⟨hx, hb⟩ => ⟨hx, hW.on hb⟩
  have HG : Hid (∀ W, Eb w e W → W.cell? ⟨g, 0, none⟩ = some (.int .i64 (S.most : Int)) ∧ W.cell? ⟨g, 1, none⟩ = some (.int .i64 (S.n : Int))) := Lib.hid fun W hW => ⟨(h.b.below hW.b hg).cell 0, (h.b.below hW.b hg).cell 1⟩
  have HC : Hid (∀ W, Eb w e W → W.cell? ⟨w.heap.size, 0, none⟩ = some (.int .i64 e.k) ∧ W.cell? ⟨w.heap.size, 1, none⟩ = some (.bool e.g) ∧ W.cell? ⟨w.heap.size, 2, none⟩ = some (.int .u64 (e.n : Int)) ∧ W.cell? ⟨w.heap.size, 3, none⟩ = some (.string e.s) ∧ Eb w e W) := Lib.hid fun W hW => ⟨hW.cells.1, hW.cells.2.1, hW.cells.2.2.1, hW.cells.2.2.2, hW⟩
  have hf1 := field1 (.pointer (some ⟨r.q, 0, none⟩)) (.func (.func f) #[.pointer (some ⟨r.q, 0, none⟩)] #[])
  obtain ⟨ib, hib⟩ : ∃ b, ievB e = b := ⟨_, rfl⟩
  obtain ⟨tb, htb⟩ : ∃ b, tkB S e = b := ⟨_, rfl⟩
  obtain ⟨R, hRR⟩ : ∃ R, refB S e = R := ⟨_, rfl⟩
  have HR1 : Hid ((ib && tb) = false → R = 4) := Lib.hid fun hh => by rw [← hRR]; unfold refB; rw [hib, htb, if_pos hh]
  have HR2 : Hid ((ib && tb) = true → R = if e.k = 15 then 0 else if (e.k = 11 ∨ e.k = 12 ∨ e.k = 13 ∨ e.k = 5) ∧ S.op.length = S.most then 8 else if S.n = 65536 then 8 else 0) := Lib.hid fun hh => by rw [← hRR]; unfold refB; rw [hib, htb, if_neg (by rw [hh]; simp)]
  rw [hib] at C1
  rw [htb] at C3
  rw [hRR]
  obtain ⟨dl, hdl⟩ : ∃ d, S.op.length = d := ⟨_, rfl⟩
  obtain ⟨ms, hms⟩ : ∃ d, S.most = d := ⟨_, rfl⟩
  obtain ⟨nn, hnn⟩ : ∃ d, S.n = d := ⟨_, rfl⟩
  rw [hdl] at C4 HR2
  rw [hms, hnn] at HG HR2
  obtain ⟨k, gg, n, s⟩ := e
  unfold evv at *
  dsimp only at C1 C2 C3 C4 HG HC HR2
  clear hR hG hw h hp hDl htk hf ht0 ht1 hgs hg hlen hib htb hRR hdl hms hnn
  go_enter Try.func16, Try.ntmps16
  go_upto_region 1 with fail
  obtain ⟨B, hB⟩ : ∃ B, (!(ib && tb)) = B := ⟨_, rfl⟩
  have HB := Lib.hid hB
  clear hB
  go_cut [15] (fun s15 wx => s15 = .bool B ∧ Hid (Eb w ⟨k, gg, n, s⟩ wx))
  case first =>
    have hk0 := HE.out.drew
    have hx0 := HC.out _ hk0
    cases ib
    · obtain rfl : true = B := HB.out
      obtain ⟨c0, c1, c2, c3, _⟩ := hx0
      first
        | go_region_with (first | (go_at_call 28; (with_reducible refine (C1.out _ hk0).mono ?_); rintro x w' ⟨rfl, hk5⟩))
        | done
      all_goals
        go_wp2_with fail
        go_meet
        exact ⟨rfl, Lib.hid hk5⟩
    · cases tb
      all_goals
        first
          | obtain rfl : true = B := HB.out
          | obtain rfl : false = B := HB.out
        rcases hfs with rfl | rfl | rfl | rfl
        all_goals
          go_region_held3 (fun W => W.cell? ⟨w.heap.size, 0, none⟩ = some (.int .i64 k) ∧ W.cell? ⟨w.heap.size, 1, none⟩ = some (.bool gg) ∧ W.cell? ⟨w.heap.size, 2, none⟩ = some (.int .u64 (n : Int)) ∧ W.cell? ⟨w.heap.size, 3, none⟩ = some (.string s) ∧ Eb w ⟨k, gg, n, s⟩ W) (first | exact HC.out _ ‹_› | exact HC.out _ (And.right ‹_›))
            (first
              | (go_at_call 28; (with_reducible refine (C1.out _ ?_).mono ?_); (first | assumption | exact And.right ‹_›); rintro x w' ⟨rfl, hk5⟩)
              | (go_at_call 29; (with_reducible refine (C2.out _ ?_).mono ?_); (first | assumption | exact And.right ‹_›); rintro x w' ⟨rfl, hk5⟩)
              | (go_at_call 27; (with_reducible refine (C3.out _ ?_).mono ?_); (first | assumption | exact And.right ‹_›); rintro x w' ⟨rfl, hk5⟩)
              | (go_at_call 30; (with_reducible refine (C3.out _ ?_).mono ?_); (first | assumption | exact And.right ‹_›); rintro x w' ⟨rfl, hk5⟩)
              | (go_at_call 31; (with_reducible refine (C3.out _ ?_).mono ?_); (first | assumption | exact And.right ‹_›); rintro x w' ⟨rfl, hk5⟩)
              | (go_at_call 32; (with_reducible refine (C3.out _ ?_).mono ?_); (first | assumption | exact And.right ‹_›); rintro x w' ⟨rfl, hk5⟩))
          go_wp2_with fail
          go_meet
          exact ⟨rfl, Lib.hid hk5⟩
  case rest =>
    obtain ⟨rfl, HEC⟩ := hcut
    clear C1 C2 C3 hf1 hfs
    cases B
    · have hbb : (ib && tb) = true := by have h := HB.out; cases ib <;> cases tb <;> simp_all
      have hRv := HR2.out hbb
      have k0 := (HC.out _ HEC.out).1
      clear HR1 HR2 HB hbb
      by_cases k15 : k = 15
      · rw [if_pos k15] at hRv
        subst k15 hRv
        go_wp2_with fail
        go_ret
        exact ⟨rfl, HEC.out.b⟩
      · rw [if_neg k15] at hRv
        have e15 : (k == 15) = false := by simpa using k15
        by_cases kk : k = 11 ∨ k = 12 ∨ k = 13 ∨ k = 5
        · have HRV : Hid ((dl = ms → R = 8) ∧ (dl ≠ ms → nn = 65536 → R = 8) ∧ (dl ≠ ms → nn ≠ 65536 → R = 0)) := Lib.hid ⟨fun h => by rw [hRv, if_pos ⟨kk, h⟩], fun h h2 => by rw [hRv, if_neg (fun hh => h hh.2), if_pos h2], fun h h2 => by rw [hRv, if_neg (fun hh => h hh.2), if_neg h2]⟩
          clear hRv k15
          obtain ⟨g0, g1⟩ := HG.out _ HEC.out
          have HS : Hid (∀ W, Eb w ⟨k, gg, n, s⟩ W → W.cell? ⟨g, 0, none⟩ = some (.int .i64 (ms : Int)) ∧ W.cell? ⟨g, 1, none⟩ = some (.int .i64 (nn : Int)) ∧ Eb w ⟨k, gg, n, s⟩ W) := Lib.hid fun W h => ⟨(HG.out W h).1, (HG.out W h).2, h⟩
          by_cases hd : dl = ms
          · obtain rfl := HRV.out.1 hd
            subst hd
            clear HRV
            rcases kk with hk | hk | hk | hk
            all_goals
              first
                | have e11 : (k == 11) = true := by simp [hk]
                | have e11 : (k == 11) = false := by simp [hk]
              first
                | have e12 : (k == 12) = true := by simp [hk]
                | have e12 : (k == 12) = false := by simp [hk]
              first
                | have e13 : (k == 13) = true := by simp [hk]
                | have e13 : (k == 13) = false := by simp [hk]
              first
                | have e5 : (k == 5) = true := by simp [hk]
                | have e5 : (k == 5) = false := by simp [hk]
              clear hk
              go_wp2_with fail
              have hk0 := HEC.out.drew
              have hx0 := HS.out _ hk0
              go_region_held3 (fun W => W.cell? ⟨g, 0, none⟩ = some (.int .i64 (dl : Int)) ∧ W.cell? ⟨g, 1, none⟩ = some (.int .i64 (nn : Int)) ∧ Eb w ⟨k, gg, n, s⟩ W) (first | exact HS.out _ ‹_› | exact HS.out _ (And.right ‹_›))
                (first | (go_at_call 9; (with_reducible refine (C4.out _ ?_).mono ?_); (first | assumption | exact And.right ‹_›); rintro x w' ⟨rfl, hk5⟩))
              go_wp2_with fail
              go_ret
              exact ⟨rfl, hk5.b⟩
          · have hd1 : ((dl : Int) == (ms : Int)) = false := by simp; omega
            by_cases hn : nn = 65536
            · obtain rfl := HRV.out.2.1 hd hn
              subst hn
              clear HRV hd
              rcases kk with hk | hk | hk | hk
              all_goals
                first
                  | have e11 : (k == 11) = true := by simp [hk]
                  | have e11 : (k == 11) = false := by simp [hk]
                first
                  | have e12 : (k == 12) = true := by simp [hk]
                  | have e12 : (k == 12) = false := by simp [hk]
                first
                  | have e13 : (k == 13) = true := by simp [hk]
                  | have e13 : (k == 13) = false := by simp [hk]
                first
                  | have e5 : (k == 5) = true := by simp [hk]
                  | have e5 : (k == 5) = false := by simp [hk]
                clear hk
                go_wp2_with fail
                have hk0 := HEC.out.drew
                have hx0 := HS.out _ hk0
                go_region_held3 (fun W => W.cell? ⟨g, 0, none⟩ = some (.int .i64 (ms : Int)) ∧ W.cell? ⟨g, 1, none⟩ = some (.int .i64 ((65536 : Nat) : Int)) ∧ Eb w ⟨k, gg, n, s⟩ W) (first | exact HS.out _ ‹_› | exact HS.out _ (And.right ‹_›))
                  (first | (go_at_call 9; (with_reducible refine (C4.out _ ?_).mono ?_); (first | assumption | exact And.right ‹_›); rintro x w' ⟨rfl, hk5⟩))
                go_wp2_with fail
                go_ret
                exact ⟨rfl, hk5.b⟩
            · obtain rfl := HRV.out.2.2 hd hn
              have hn1 : ((nn : Int) == 65536) = false := by simp; omega
              clear HRV hd hn
              rcases kk with hk | hk | hk | hk
              all_goals
                first
                  | have e11 : (k == 11) = true := by simp [hk]
                  | have e11 : (k == 11) = false := by simp [hk]
                first
                  | have e12 : (k == 12) = true := by simp [hk]
                  | have e12 : (k == 12) = false := by simp [hk]
                first
                  | have e13 : (k == 13) = true := by simp [hk]
                  | have e13 : (k == 13) = false := by simp [hk]
                first
                  | have e5 : (k == 5) = true := by simp [hk]
                  | have e5 : (k == 5) = false := by simp [hk]
                clear hk
                go_wp2_with fail
                have hk0 := HEC.out.drew
                have hx0 := HS.out _ hk0
                go_region_held3 (fun W => W.cell? ⟨g, 0, none⟩ = some (.int .i64 (ms : Int)) ∧ W.cell? ⟨g, 1, none⟩ = some (.int .i64 (nn : Int)) ∧ Eb w ⟨k, gg, n, s⟩ W) (first | exact HS.out _ ‹_› | exact HS.out _ (And.right ‹_›))
                  (first | (go_at_call 9; (with_reducible refine (C4.out _ ?_).mono ?_); (first | assumption | exact And.right ‹_›); rintro x w' ⟨rfl, hk5⟩))
                go_wp2_with fail
                go_ret
                exact ⟨rfl, hk5.b⟩
        · have HRV : Hid ((nn = 65536 → R = 8) ∧ (nn ≠ 65536 → R = 0)) := Lib.hid ⟨fun h => by rw [hRv, if_neg (fun hh => kk hh.1), if_pos h], fun h => by rw [hRv, if_neg (fun hh => kk hh.1), if_neg h]⟩
          have e11 : (k == 11) = false := by simp; omega
          have e12 : (k == 12) = false := by simp; omega
          have e13 : (k == 13) = false := by simp; omega
          have e5 : (k == 5) = false := by simp; omega
          have g1 := (HG.out _ HEC.out).2
          clear hRv k15 kk
          by_cases hn : nn = 65536
          · obtain rfl := HRV.out.1 hn
            subst hn
            go_wp2_with fail
            go_ret
            exact ⟨rfl, HEC.out.b⟩
          · obtain rfl := HRV.out.2 hn
            have hn1 : ((nn : Int) == 65536) = false := by simp; omega
            go_wp2_with fail
            go_ret
            exact ⟨rfl, HEC.out.b⟩
    · have hbb : (ib && tb) = false := by have h := HB.out; cases ib <;> cases tb <;> simp_all
      obtain rfl := HR1.out hbb
      go_wp2_with fail
      go_ret
      exact ⟨rfl, HEC.out.b⟩
end Go.Proofs.Yteebokhpoppgeaa.nn
namespace Go.Proofs.Yteebokhpoppgeaa.nn
open Go.RowKit

theorem info_op3 : (Try.prog.info? 47).map (fun i => (i.zero, i.size, i.bytes)) = some (some (.agg #[.pointer none, .nilFunc]), 2, 16) := by kernel_rfl
theorem run_open (w : World) (ty : TypeId) (v : Value) (n : Nat) (xs : List Value) (k : Nat) (a b : Value) (hv : w.ownsRow 0 47 2 v n xs) (hz : Bk w k 47 #[a, b]) (h1 : a.oneCell' = true) (h2 : b.oneCell' = true) (hn : n + 1 ≤ 1099511627776) :
    ∃ v' w', (Builtin.append_ #[49, 49] ty #[v, .slice (some ⟨k, 0, none⟩) 1 1]).run Try.prog w = .ok v' w' ∧ w'.ownsRow 0 47 2 v' (n + 1) (xs ++ [a, b]) ∧ w.grownBy w' v.ownBlock ∧ (v'.ownBlock = v.ownBlock ∨ v'.ownBlock = some w.heap.size) := by
  obtain ⟨i0, hi, hz0, hz1, hz2⟩ := info_parts info_op3
  have hnews : ∀ j u, ([a, b] : List Value)[j]? = some u → w.cell? ((⟨k, 0, none⟩ : Addr).add j) = some u := fun j u hu => by
    rw [add_cell, Nat.zero_add, hz.cell j]
    simpa using hu
  obtain ⟨v', w', hr, ho, hg, _, hat⟩ := run_append_own_at (P := Try.prog) w 0 49 ty 47 i0 _ 2 16 Try.underlying49 hi hz0 hz1 hz2 rfl (by decide) v n xs hv ⟨k, 0, none⟩ 1 1 [a, b] rfl hnews (by intro u hu; simp at hu; rcases hu with rfl | rfl; exact h1; exact h2) (by unfold maxLen; omega) (by omega) (Nat.zero_le _)
  exact ⟨v', w', hr, ho, hg, hat⟩
theorem step_open {ops : Array Oper} {o : Oper} {a : Act} {w : World} {K : Act → World → Prop} {Q : Exit → Act → World → Prop} {E : Prop} (hgd : o.guard = none) (s x : Operand)
    (ho : o.op = .call { callee := .builtin .append, args := #[s, x], argTypes := #[49, 49] })
    (v : Value) (n : Nat) (xs : List Value) (k : Nat) (c d : Value) (hs : a.eval s = v) (hx : a.eval x = .slice (some ⟨k, 0, none⟩) 1 1) (hv : w.ownsRow 0 47 2 v n xs) (hz : Bk w k 47 #[c, d]) (h1 : c.oneCell' = true) (h2 : d.oneCell' = true) (hn : n + 1 ≤ 1099511627776)
    (h : ∀ v' w', w'.ownsRow 0 47 2 v' (n + 1) (xs ++ [c, d]) → w.grownBy w' v.ownBlock → (v'.ownBlock = v.ownBlock ∨ v'.ownBlock = some w.heap.size) → K (a.put o.dst v') w') :
    if Region.wanted o (yielded ops a.tmps) = true then Oper.wp Try.prog o a w K Q else E := by
  have hw : Region.wanted o (yielded ops a.tmps) = true := by simp [Region.wanted, hgd]
  rw [if_pos hw]
  obtain ⟨v', w', hr, h3, h4, h5⟩ := run_open w o.type v n xs k c d hv hz h1 h2 hn
  unfold Oper.wp execOp
  simp only [ho, resolve, invoke, builtin, Sem.run_bind, Sem.run_pure, Result.andThen_ok, List.map_toArray, List.map_cons, List.map_nil, hs, hx, hr]
  exact h _ _ h3 h4 h5
/-- a build that is new -/
theorem Rbx.new {w1 : World} {q M : Nat} (hq : Bk w1 q 57 #[.int .i64 11, .bool false, .int .u64 0, .string ⟨#[]⟩, .slice none 0 0]) :
    Rbx ((w1.alloc (.cells #[.pointer (some ⟨q, 0, none⟩), .func (.func 27) #[.pointer (some ⟨q, 0, none⟩)] #[]] 47)).alloc (.cells #[.int .i64 (M : Int), .int .i64 0, .slice (some ⟨w1.heap.size, 0, none⟩) 1 1] 51)) (w1.heap.size + 1)
      (fun b => b = q ∨ b = w1.heap.size ∨ b = w1.heap.size + 1) (fun b => if b = w1.heap.size + 1 then 1 else if b = w1.heap.size then 2 else 3) (.slice (some ⟨w1.heap.size, 0, none⟩) 1 1) [⟨bot none, q, .slice none 0 0⟩] 0 M := by
  have hql := hq.lt
  refine ⟨⟨.inr (.inr rfl), by simp⟩, fun b hb => ?_, bm_last2 _ _ _, ?_, fun b hb => ?_, ⟨⟨?_, ⟨.inl rfl, ?_⟩, ?_, fun b hb => ?_⟩, trivial⟩⟩
  · simp
    omega
  · exact (World.ownsRow_lit w1 #[.pointer (some ⟨q, 0, none⟩), .func (.func 27) #[.pointer (some ⟨q, 0, none⟩)] #[]] 1 (Nat.zero_le _) (by simp [maxLen]) rfl).alloc _
  · have : w1.heap.size = b := Option.some.inj hb
    subst this
    exact ⟨.inr (.inl rfl), by simp⟩
  · exact (hq.al _).al _
  · show (if q = w1.heap.size + 1 then 1 else if q = w1.heap.size then 2 else 3) = 3
    rw [if_neg (by omega), if_neg (by omega)]
  · exact ⟨fun _ => .slice none 0 0, World.ownsRow_nil _ _ _ _, fun j h => absurd h (Nat.not_lt_zero j)⟩
  · exact absurd hb (by simp [Value.ownBlock])
/-- what New answers -/
def NwAns (d : Int) (w : World) (x : Ending) (w' : World) : Prop := ∃ g O, x = .returned (.pointer (some ⟨g, 0, none⟩)) ∧ Rb w' g O (newB d) ∧ (∀ b, O b → w.heap.size ≤ b) ∧ Below w.heap.size w w'
set_option maxRecDepth 100000 in
set_option maxHeartbeats 2000000 in
theorem new_any (d : Int) (w : World) : Calls Try.prog 4 #[.int .i64 d] w (NwAns d w) := by
  have HT := Lib.hid (bottom_any w)
  obtain ⟨x, hx⟩ : ∃ x, max d 0 = x := ⟨_, rfl⟩
  obtain ⟨M, hM⟩ : ∃ M : Nat, min x 64 = (M : Int) := ⟨(min x 64).toNat, by omega⟩
  have HN : Hid (newB d = ⟨[], none, 0, M⟩) := Lib.hid (by unfold newB; rw [hx, hM]; rfl)
  have HF : Hid (∀ w1 q, Below w.heap.size w w1 → w.heap.size ≤ q → Bk w1 q 57 #[.int .i64 11, .bool false, .int .u64 0, .string ⟨#[]⟩, .slice none 0 0] → NwAns d w (.returned (.pointer (some ⟨w1.heap.size + 1, 0, none⟩))) ((w1.alloc (.cells #[.pointer (some ⟨q, 0, none⟩), .func (.func 27) #[.pointer (some ⟨q, 0, none⟩)] #[]] 47)).alloc (.cells #[.int .i64 (M : Int), .int .i64 0, .slice (some ⟨w1.heap.size, 0, none⟩) 1 1] 51))) := Lib.hid fun w1 q hB hq0 hq => by
    have hs := hB.size
    refine ⟨_, _, rfl, ⟨_, _, _, by rw [HN.out]; exact Rbx.new hq, by rw [HN.out]; rfl⟩, fun b hb => ?_, (hB.alloc hs _).alloc (by simp; omega) _⟩
    rcases hb with rfl | rfl | rfl <;> omega
  clear HN
  go_enter Try.func4, Try.ntmps4
  go_wp2_with fail
  refine HT.out.mono ?_
  rintro e w1 ⟨q, rfl, hq0, hq, hB⟩
  have HG := Lib.hid (HF.out w1 q hB hq0 hq)
  clear hq0 hq hB HF
  go_wp2_with fail
  go_ret
  exact HG.out
end Go.Proofs.Yteebokhpoppgeaa.nn
namespace Go.Proofs.Yteebokhpoppgeaa.nn
open Go.RowKit

theorem addRb_addB : ∀ (op : List VT) (t : VT), addRb (op ++ [bot none]) t = (addB op t).1 ++ [bot (addB op t).2]
  | [], t => rfl
  | p :: r, t => by
    show (if p.k = 13 then addRb (r ++ [bot none]) (p.snoc t) else p.snoc t :: (r ++ [bot none])) = _
    rw [addB]
    by_cases h : p.k = 13
    · rw [if_pos h, if_pos h]
      exact addRb_addB r (p.snoc t)
    · rw [if_neg h, if_neg h]
      rfl
theorem btm_of : ∀ (D : List Rec) (op : List VT) (v : Option VT), D.map Rec.p = op ++ [bot v] → Btm D
  | [], op, v, h => by simp at h
  | r :: D, [], v, h => by
    simp at h
    exact .inl (by rw [h.1]; show (11 : Int) ≠ 13; decide)
  | r :: D, p :: op, v, h => by
    simp at h
    exact .inr (btm_of D op v h.2)
theorem add_n : ∀ (op : List VT) (t : VT), (∀ p, p ∈ op → p.n < 18446744073709551616) → ∀ p, p ∈ (addB op t).1 → p.n < 18446744073709551616
  | [], t, _, p, h => by cases h
  | q :: r, t, hq, p, h => by
    rw [addB] at h
    by_cases hk : q.k = 13
    · rw [if_pos hk] at h
      exact add_n r (q.snoc t) (fun p hp => hq p (by simp [hp])) p h
    · rw [if_neg hk] at h
      rcases List.mem_cons.1 h with rfl | h
      · exact hq q (by simp)
      · exact hq p (by simp [h])
theorem put_most (S : Bst) (e : Ev) : (putB S e).most = S.most := by
  unfold putB
  split
  · rfl
  · split
    · rfl
    · split <;> rfl
theorem good_put {S : Bst} {e : Ev} (h : GoodW S) (hw : wfE e) : GoodW (putB S e) := by
  by_cases hm : mayB S e = 0
  · obtain ⟨L, hL⟩ := h.g
    refine ⟨⟨_, put_ok hL hm⟩, ?_, by rw [put_most]; exact h.m⟩
    unfold putB
    rw [if_neg (by rw [hm]; simp)]
    intro p hp
    by_cases k15 : e.k = 15
    · rw [if_pos k15] at hp
      exact add_n _ _ (fun p hp => h.n p (List.mem_of_mem_tail hp)) p hp
    · rw [if_neg k15] at hp
      by_cases hl : lf e.k = true
      · rw [if_pos hl] at hp
        exact add_n _ _ h.n p hp
      · rw [if_neg hl] at hp
        rcases List.mem_cons.1 hp with rfl | hp
        · exact hw.n
        · exact h.n p hp
  · have : putB S e = S := by unfold putB; rw [if_pos hm]
    rw [this]
    exact h
/-- how long what is open is -/
theorem GoodW.lens {S : Bst} (h : GoodW S) : ∀ p, p ∈ S.op ++ [bot S.v] → p.l.length ≤ 65536 := by
  obtain ⟨L, ⟨h1, h2, h3⟩, h4⟩ := h.g
  intro p hp
  rw [List.mem_append] at hp
  rcases hp with hp | hp
  · cases hv : S.v with
    | some x => have h5 : S.op = [] := (h2 x hv).1; rw [h5] at hp; cases hp
    | none =>
      have h5 := (h3 hv).2
      have : ∀ (op : List VT), p ∈ op → p.l.length ≤ cntO op := by
        intro op
        induction op with
        | nil => intro h; cases h
        | cons q r ih =>
          intro h
          have h6 := len_cntL q.l
          rcases List.mem_cons.1 h with rfl | h
          · show _ ≤ cntO r + (cntL p.l + 1)
            omega
          · have := ih h
            show _ ≤ cntO r + (cntL q.l + 1)
            omega
      have h6 := this S.op hp
      have h7 : cntO S.op = S.n := h5
      omega
  · simp at hp
    subst hp
    show S.v.toList.length ≤ _
    cases S.v <;> simp
theorem sE_nil {k : Int} {g : Bool} {n : Nat} {s : ByteArray} {l : List VT} (h : sE (.mk k g n s l) = true) : s = ⟨#[]⟩ := by
  have h1 : s.toList.isEmpty = true := h
  rw [ByteArray.toList_eq] at h1
  refine ba_nil ?_
  show s.data.size = 0
  rw [← Array.length_toList]
  have h2 : s.data.toList = [] := by simpa using h1
  rw [h2]
  rfl
theorem open_plain {k : Int} {g : Bool} {n : Nat} {s : ByteArray} {l : List VT} (hk : k = 11 ∨ k = 12 ∨ k = 13) (h : oneB (.mk k g n s l) = true) : g = false ∧ s = ⟨#[]⟩ := by
  rcases hk with rfl | rfl | rfl
  · have h1 : (sE (.mk 11 g n s l) && nE (.mk 11 g n s l) && !g) = true := h
    rw [Bool.and_eq_true, Bool.and_eq_true] at h1
    exact ⟨by simpa using h1.2, sE_nil h1.1.1⟩
  · have h1 : (sE (.mk 12 g n s l) && nE (.mk 12 g n s l) && !g && decide (l.length % 2 = 0)) = true := h
    rw [Bool.and_eq_true, Bool.and_eq_true, Bool.and_eq_true] at h1
    exact ⟨by simpa using h1.1.2, sE_nil h1.1.1.1⟩
  · have h1 : (sE (.mk 13 g n s l) && !g && decide (l.length = 1) && !guise n l) = true := h
    rw [Bool.and_eq_true, Bool.and_eq_true, Bool.and_eq_true] at h1
    exact ⟨by simpa using h1.1.1.2, sE_nil h1.1.1.1⟩
theorem stC_push (e : Ev) (q : Nat) (v : Value) (r : Rec) (D : List Rec) : stC (⟨bare e, q, v⟩ :: r :: D) = stC (r :: D) ++ [.pointer (some ⟨q, 0, none⟩), .func (.func (tkK e.k)) #[.pointer (some ⟨q, 0, none⟩)] #[]] := by
  show stC (r :: D) ++ opC (r :: D).length ⟨bare e, q, v⟩ = _
  unfold opC opF tkF
  rw [if_neg (by simp)]
  rfl
/-- behind the count -/
structure Cn (w : World) (e : Ev) (S : Bst) (g : Nat) (O : Nat → Prop) (K : Nat → Nat) (sv : Value) (D : List Rec) (W : World) : Prop where
  r : Rbx W g O K sv D (S.n + 1) S.most
  m : Mv No O w O W
  c : Bk W w.heap.size 31 #[.int .i64 e.k, .bool e.g, .int .u64 (e.n : Int), .string e.s]
theorem Cn.on {w W W' : World} {e : Ev} {S : Bst} {g : Nat} {O : Nat → Prop} {K : Nat → Nat} {sv : Value} {D : List Rec} (h : Cn w e S g O K sv D W) (hB : Below W.heap.size W W') : Cn w e S g O K sv D W' := ⟨h.r.below hB, h.m.trans (Mv.of_below hB), h.c.below hB h.c.lt⟩
theorem Cn.of {w W : World} {e : Ev} {S : Bst} {g : Nat} {O : Nat → Prop} {K : Nat → Nat} {sv : Value} {D : List Rec} (hb : Eb w e W) (h : Rbx w g O K sv D S.n S.most) : Cn w e S g O K sv D (W.setCell ⟨g, 1, none⟩ (.int .i64 ((S.n + 1 : Nat) : Int))) := by
  have hg := h.lo _ h.o.1
  refine ⟨(h.below hb.b).cnt, (Mv.of_below hb.b).cell h.o.1 _, ?_⟩
  unfold Bk
  rw [off_g (by omega)]
  exact hb.c
/-- what Put leaves -/
def Fin (w : World) (g : Nat) (O : Nat → Prop) (S' : Bst) (W : World) : Prop := ∃ O', Mv No O w O' W ∧ Rb W g O' S'
theorem Cn.pushed {w w4 X w6 : World} {e : Ev} {S : Bst} {g q : Nat} {O : Nat → Prop} {K : Nat → Nat} {sv sv' : Value} {D : List Rec} {o : Obj} (h : Cn w e S g O K sv D w4) (hX : X.heap = (w4.alloc o).heap) (x1 : X.os = w4.os) (x2 : X.tape = w4.tape) (x3 : X.output = w4.output)
    {wy : World} (hy : Cn w e S g O K sv D wy) (hqy : wy.heap.size ≤ q) (hB : Below wy.heap.size wy w4) (hq : Bk w4 q 57 (vc (bare e) (.slice none 0 0)))
    (ho : w6.ownsRow 0 47 2 sv' (D.length + 1) (stC (⟨bare e, q, .slice none 0 0⟩ :: D))) (hgr : X.grownBy w6 sv.ownBlock) (hat : sv'.ownBlock = sv.ownBlock ∨ sv'.ownBlock = some X.heap.size) (hp : D.map Rec.p = S.op ++ [bot none]) {S' : Bst} (hS : S' = ⟨bare e :: S.op, none, S.n + 1, S.most⟩) :
    Fin w g O S' (w6.setCell ⟨g, 2, none⟩ sv') := by
  have hsz : X.heap.size = w4.heap.size + 1 := by rw [hX]; simp
  have hs6 := hgr.size
  have hs4 := hB.size
  have hql := hq.lt
  have hxk : ∀ b, b < w4.heap.size → X.heap[b]? = w4.heap[b]? := fun b hb => by rw [hX]; exact Below.heap_alloc _ _ _ hb
  have h6k : ∀ b, b < w4.heap.size → sv.ownBlock ≠ some b → w6.heap[b]? = w4.heap[b]? := fun b hb hne => by rw [hgr.block b (by omega) (fun e => hne e.symm), hxk b hb]
  have hgo : sv.ownBlock ≠ some g := fun e => by have h1 := (h.r.so g e).2; rw [h.r.o.2] at h1; omega
  have hg4 := h.r.lo _ h.r.o.1
  have hso : ∀ b, sv.ownBlock = some b → b < wy.heap.size := fun b hb => hy.r.lo b (hy.r.so b hb).1
  have hgb : Bk w6 g 51 #[.int .i64 (S.most : Int), .int .i64 ((S.n + 1 : Nat) : Int), sv] := (h6k g hg4 hgo).trans h.r.b
  have hqs : sv.ownBlock ≠ some q := fun e => by have := hso q e; omega
  have hgq : g ≠ q := by have := hy.r.lo _ hy.r.o.1; omega
  have hq6 : Bk w6 q 57 (vc (bare e) (.slice none 0 0)) := (h6k q hql hqs).trans hq
  have key := Rbx.push (W := w6.setCell ⟨g, 2, none⟩ sv') (p := bare e) (q := q) (n' := S.n + 1) (sv' := sv') hy.r (by rw [setCell_sz]; omega) (fun b hb hbg hne => by rw [off_g hbg, h6k b (by omega) hne]; exact hB.block b hb)
    (hgb.set_ 2 sv') (own_same5 ho fun b hb => off_g fun e => by
      subst e
      rcases hat with h5 | h5
      · rw [h5] at hb; exact hgo hb
      · rw [h5] at hb; injection hb with hb; omega)
    (hat.imp id fun h5 => ⟨_, h5, by omega, by omega⟩) hqy (by unfold Bk; rw [off_g (Ne.symm hgq)]; exact hq6) rfl
  refine ⟨_, ?_, _, _, _, by rw [hS]; exact key, by rw [hS, List.map_cons, hp]; rfl⟩
  refine hy.m.trans ⟨?_, ?_, ?_, by rw [setCell_sz]; omega, fun _ h => .inl h, fun _ h => h, fun b hb hn _ => ?_⟩
  · exact ((hgr.os.trans x1).trans hB.os)
  · exact ((hgr.tape.trans x2).trans hB.tape)
  · exact ((hgr.output.trans x3).trans hB.output)
  · rw [off_g (fun e => hn (by rw [e]; exact hy.r.o.1)), h6k b (by omega) (fun e => hn (hy.r.so b e).1)]
    exact hB.block b hb
end Go.Proofs.Yteebokhpoppgeaa.nn
