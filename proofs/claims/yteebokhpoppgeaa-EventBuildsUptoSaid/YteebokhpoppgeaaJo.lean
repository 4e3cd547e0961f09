/- Joined texts, what is wanted of them: RbTop, RbTake, RbTk, RbTg. -/
import Derived.BigRegion
import Derived.ChangeAlike
import Derived.Laws.EntriesVeiled
import Derived.Deep.RegionHeld3
import Derived.Deep.DeepCutAuto
import Derived.Deep.RegionWith
import Derived.Lib.Hide
import Derived.Deep.QuietTactic
import Derived.BigQuiet
import Derived.StillTailTactics
import Derived.IntWalk
import Derived.Test.YteebokhpoppgeaaProg
import Derived.WalkKit
import Derived.Test.YteebokhpoppgeaaJk
import Derived.Test.YteebokhpoppgeaaJa
import Derived.Test.YteebokhpoppgeaaJc
import Derived.Test.YteebokhpoppgeaaJn
import Derived.Test.YteebokhpoppgeaaJg
import Derived.Test.YteebokhpoppgeaaJe
import Derived.Test.YteebokhpoppgeaaJh
import Derived.Test.YteebokhpoppgeaaJb
namespace Go.Proofs.Yteebokhpoppgeaa.nn
open Go.RowKit

theorem Bk.c5 {w : World} {g : Nat} {T : TypeId} {a b c d e : Value} (h : Bk w g T #[a, b, c, d, e]) : w.cell? ⟨g, 0, none⟩ = some a ∧ w.cell? ⟨g, 1, none⟩ = some b ∧ w.cell? ⟨g, 2, none⟩ = some c ∧ w.cell? ⟨g, 3, none⟩ = some d ∧ w.cell? ⟨g, 4, none⟩ = some e := ⟨h.cell 0, h.cell 1, h.cell 2, h.cell 3, h.cell 4⟩
theorem Bk.c4 {w : World} {g : Nat} {T : TypeId} {a b c d : Value} (h : Bk w g T #[a, b, c, d]) : w.cell? ⟨g, 0, none⟩ = some a ∧ w.cell? ⟨g, 1, none⟩ = some b ∧ w.cell? ⟨g, 2, none⟩ = some c ∧ w.cell? ⟨g, 3, none⟩ = some d := ⟨h.cell 0, h.cell 1, h.cell 2, h.cell 3⟩
theorem Bk.c2 {w : World} {g : Nat} {T : TypeId} {a b : Value} (h : Bk w g T #[a, b]) : w.cell? ⟨g, 0, none⟩ = some a ∧ w.cell? ⟨g, 1, none⟩ = some b := ⟨h.cell 0, h.cell 1⟩
theorem Bk.f5 {w : World} {g : Nat} {T : TypeId} {cs : Array Value} (h : Bk w g T cs) : w.frozen? ⟨g, 0, none⟩ = false ∧ w.frozen? ⟨g, 1, none⟩ = false ∧ w.frozen? ⟨g, 2, none⟩ = false ∧ w.frozen? ⟨g, 3, none⟩ = false ∧ w.frozen? ⟨g, 4, none⟩ = false := ⟨h.frozen 0, h.frozen 1, h.frozen 2, h.frozen 3, h.frozen 4⟩
theorem below_set2 {B : Nat} {W0 W : World} {g o : Nat} (h : Below B W0 W) (hg : B ≤ g) (a b : Value) : Below B W0 ((W.setCell ⟨g, o, none⟩ a).setCell ⟨g, o + 1, none⟩ b) := (h.setCell (p := ⟨g, o, none⟩) hg a).setCell (p := ⟨g, o + 1, none⟩) hg b
set_option maxRecDepth 100000 in
set_option maxHeartbeats 1000000 in
theorem top_any (g gs m c q k : Nat) (fs : Array Value) (w : World) (hg : g < w.heap.size) (hgs : gs < w.heap.size) (h2 : w.cell? ⟨g, 2, none⟩ = some (.slice (some ⟨gs, 0, none⟩) (m + 1) c)) (h3 : w.cell? ⟨gs, m * 2, none⟩ = some (.pointer (some ⟨q, 0, none⟩)))
    (h4 : w.cell? ⟨gs, m * 2 + 1, none⟩ = some (.func (.func k) fs #[])) (hm : m ≤ 1099511627776) :
    Calls Try.prog 29 #[.pointer (some ⟨g, 0, none⟩)] w fun e w' => e = .returned (.agg #[.pointer (some ⟨q, 0, none⟩), .func (.func k) fs #[]]) ∧ Below w.heap.size w w' := by
  obtain ⟨W1, hW1⟩ : ∃ W1, w.alloc (.cells #[.pointer none, .nilFunc] 47) = W1 := ⟨_, rfl⟩
  have hb : Bk W1 w.heap.size 47 #[.pointer none, .nilFunc] := by rw [← hW1]; exact heap_alloc_last _ _
  have HB := Lib.hid hb
  have HBF : Hid (Below w.heap.size w W1) := Lib.hid (by rw [← hW1]; exact (Below.refl _ _).alloc (Nat.le_refl _) _)
  have bc0 : W1.cell? ⟨w.heap.size, 0, none⟩ = some (.pointer none) := hb.cell 0
  have bf0 : W1.frozen? ⟨w.heap.size, 0, none⟩ = false := hb.frozen 0
  have bc1 : W1.cell? ⟨w.heap.size, 1, none⟩ = some (.nilFunc) := hb.cell 1
  have bf1 : W1.frozen? ⟨w.heap.size, 1, none⟩ = false := hb.frozen 1
  have a2 := (HBF.out.cell (p := ⟨g, 2, none⟩) hg).trans h2
  have a3 := (HBF.out.cell (p := ⟨gs, m * 2, none⟩) hgs).trans h3
  have a4 := (HBF.out.cell (p := ⟨gs, m * 2 + 1, none⟩) hgs).trans h4
  have hle : w.heap.size ≤ w.heap.size := Nat.le_refl _
  have hsub : IntKind.i64.wrap (((m + 1 : Nat) : Int) - 1) = (m : Int) := by rw [IntWalk.i64_in _ ⟨by omega, by omega⟩]; omega
  have hsub2 : IntKind.i64.wrap (m : Int) = (m : Int) := IntWalk.i64_in _ ⟨by omega, by omega⟩
  have hlt : m < m + 1 := Nat.lt_succ_self m
  have hlt2 : (m : Int) < (m : Int) + 1 := by omega
  clear hb h2 h3 h4
  go_enter Try.func29, Try.ntmps29
  go_wp2_with fail
  go_region
  all_goals
    go_wp2_with fail
    exact bodyPost_ret (v := .agg #[.pointer (some ⟨q, 0, none⟩), .func (.func k) fs #[]]) (by simp [results, Try.results29, go_sem, bc0, bc1]) rfl ⟨rfl, (below_set2 HBF.out hle _ _).drew⟩
set_option maxRecDepth 100000 in
theorem made_yes (g n c : Nat) (A : Option Addr) (w : World) (h2 : w.cell? ⟨g, 2, none⟩ = some (.slice A (n + 1) c)) :
    Calls Try.prog 15 #[.pointer (some ⟨g, 0, none⟩)] w fun e w' => e = .returned (.bool true) ∧ Below w.heap.size w w' := by
  have hB := Below.refl w.heap.size w
  go_enter Try.func15, Try.ntmps15
  go_wp2_with fail
  go_ret
  exact ⟨rfl, hB⟩
end Go.Proofs.Yteebokhpoppgeaa.nn
namespace Go.Proofs.Yteebokhpoppgeaa.nn
open Go.RowKit

/-- the world behind the box of an event -/
structure Eb (w : World) (e : Ev) (W : World) : Prop where
  b : Below w.heap.size w W
  c : Bk W w.heap.size 31 #[.int .i64 e.k, .bool e.g, .int .u64 (e.n : Int), .string e.s]
theorem Eb.new (w : World) (e : Ev) : Eb w e (w.alloc (.cells #[.int .i64 e.k, .bool e.g, .int .u64 (e.n : Int), .string e.s] 31)) := ⟨(Below.refl _ _).alloc (Nat.le_refl _) _, heap_alloc_last _ _⟩
theorem Eb.on {w W W' : World} {e : Ev} (h : Eb w e W) (hB : Below W.heap.size W W') : Eb w e W' := ⟨h.b.trans (hB.mono h.b.size), h.c.below hB h.c.lt⟩
theorem Eb.drew {w W : World} {e : Ev} (h : Eb w e W) : Eb w e W.drew := h.on (Below.drew (Below.refl _ _))
theorem Eb.cells {w W : World} {e : Ev} (h : Eb w e W) : W.cell? ⟨w.heap.size, 0, none⟩ = some (.int .i64 e.k) ∧ W.cell? ⟨w.heap.size, 1, none⟩ = some (.bool e.g) ∧ W.cell? ⟨w.heap.size, 2, none⟩ = some (.int .u64 (e.n : Int)) ∧ W.cell? ⟨w.heap.size, 3, none⟩ = some (.string e.s) := ⟨h.c.cell 0, h.c.cell 1, h.c.cell 2, h.c.cell 3⟩
/-- the tree that least answers -/
theorem asked_l (e : Ev) : (asked e).l = if e.k = 13 then [emp] else [] := rfl
set_option maxRecDepth 100000 in
set_option maxHeartbeats 1000000 in
theorem least_any (e : Ev) (w : World) : Calls Try.prog 20 #[evv e] w fun x w' => ∃ C, x = .returned (vv (asked e) C) ∧ Lsf (fun b => w.heap.size ≤ b) w' C (asked e).l ∧ Below w.heap.size w w' := by
  obtain ⟨k, gg, n, s⟩ := e
  obtain ⟨W1, hW1⟩ : ∃ W1, w.alloc (.cells #[.int .i64 k, .bool gg, .int .u64 (n : Int), .string s] 31) = W1 := ⟨_, rfl⟩
  obtain ⟨W2, hW2⟩ : ∃ W2, W1.alloc (.cells #[.int .i64 0, .bool false, .int .u64 0, .string ⟨#[]⟩, .slice none 0 0] 36) = W2 := ⟨_, rfl⟩
  have Z12 : Hid (W1.heap.size = w.heap.size + 1 ∧ W2.heap.size = W1.heap.size + 1) := Lib.hid ⟨by rw [← hW1]; simp, by rw [← hW2]; simp⟩
  have b1 : Below w.heap.size w W1 := by rw [← hW1]; exact (Below.refl _ _).alloc (Nat.le_refl _) _
  have b2 : Below W1.heap.size W1 W2 := by rw [← hW2]; exact (Below.refl _ _).alloc (Nat.le_refl _) _
  have k1 : Bk W1 w.heap.size 31 #[.int .i64 k, .bool gg, .int .u64 (n : Int), .string s] := by rw [← hW1]; exact heap_alloc_last _ _
  have k2 : Bk W2 W1.heap.size 36 #[.int .i64 0, .bool false, .int .u64 0, .string ⟨#[]⟩, .slice none 0 0] := by rw [← hW2]; exact heap_alloc_last _ _
  have k12 := k1.below b2 k1.lt
  obtain ⟨c0, c1, c2, c3⟩ := k12.c4
  unfold vv evv
  have ha := asked_l ⟨k, gg, n, s⟩
  go_enter Try.func20, Try.ntmps20
  go_upto_region 2 with fail
  obtain ⟨W3, hW3⟩ : ∃ W3, W2.alloc (.cells #[.int .i64 k, .bool gg, .int .u64 (n : Int), .string s, .slice none 0 0] 36) = W3 := ⟨_, rfl⟩
  rw [hW3]
  have Z3 : Hid (W3.heap.size = W2.heap.size + 1) := Lib.hid (by rw [← hW3]; simp)
  have b3 : Below W2.heap.size W2 W3 := by rw [← hW3]; exact (Below.refl _ _).alloc (Nat.le_refl _) _
  have k3 : Bk W3 W2.heap.size 36 #[.int .i64 k, .bool gg, .int .u64 (n : Int), .string s, .slice none 0 0] := by rw [← hW3]; exact heap_alloc_last _ _
  have k13 := k12.below b3 k12.lt
  have k23 := k2.below b3 k2.lt
  have HB : Hid (Below w.heap.size w W3) := Lib.hid (b1.trans ((b2.trans (b3.mono b2.size)).mono b1.size))
  obtain ⟨d0, _, _, _⟩ := k13.c4
  clear c0 c1 c2 c3
  by_cases hk : k = 13
  · subst hk
    obtain ⟨W4, hW4⟩ : ∃ W4, W3.alloc (.cells #[.int .i64 0, .bool false, .int .u64 0, .string ⟨#[]⟩, .slice none 0 0] 36) = W4 := ⟨_, rfl⟩
    have b4 : Below W3.heap.size W3 W4 := by rw [← hW4]; exact (Below.refl _ _).alloc (Nat.le_refl _) _
    have k4 : Bk W4 W3.heap.size 36 #[.int .i64 0, .bool false, .int .u64 0, .string ⟨#[]⟩, .slice none 0 0] := by rw [← hW4]; exact heap_alloc_last _ _
    have k24 := k23.below b4 k23.lt
    have k34 := k3.below b4 k3.lt
    obtain ⟨e0, e1, e2, e3, e4⟩ := k34.c5
    obtain ⟨f0, f1, f2, f3, f4⟩ := k24.c5
    obtain ⟨ff0, ff1, ff2, ff3, ff4⟩ := k24.f5
    obtain ⟨x0, x1, x2, x3, x4⟩ := k3.c5
    have ef4 := k34.frozen 4
    have xf4 := k3.frozen 4
    have hne : W2.heap.size ≠ W1.heap.size := by have := Z12.out; omega
    have hne2 : W1.heap.size ≠ W2.heap.size := by have := Z12.out; omega
    have HB4 : Hid (Below w.heap.size w W4) := Lib.hid (HB.out.trans (b4.mono HB.out.size))
    have HK4 := Lib.hid k4
    have HZ : Hid (w.heap.size ≤ W1.heap.size ∧ w.heap.size ≤ W2.heap.size ∧ W3.heap.size ≠ W1.heap.size ∧ W3.heap.size ≠ W2.heap.size ∧ w.heap.size ≤ W3.heap.size) := Lib.hid (by have h1 := Z12.out; have h2 := Z3.out; exact ⟨by omega, by omega, by omega, by omega, by omega⟩)
    clear b1 b2 b3 b4 k1 k2 k3 k4 k12 k13 k23 k24 k34 ha hW1 hW2 hW3
    go_wp2_with fail
    refine bodyPost_ret (v := .agg #[.int .i64 13, .bool gg, .int .u64 (n : Int), .string s, .slice (some ⟨W3.heap.size, 0, none⟩) 1 1]) (by simp [results, Try.results20, go_sem, f0, f1, f2, f3, f4]) rfl ⟨.slice (some ⟨W3.heap.size, 0, none⟩) 1 1, rfl, ?_, ?_⟩
    · show Lsf _ _ _ [emp]
      refine .at_ (C := fun _ => .slice none 0 0) rfl (Nat.le_refl _) HZ.out.2.2.2.2 ?_ (fun i hi => ?_) fun i hi => ?_
      · simp only [setCell_sz]; exact HK4.out.lt
      · obtain rfl : i = 0 := by simpa using hi
        have hB : Bk (((((((W4.setCell ⟨W2.heap.size, 4, none⟩ (.slice (some ⟨W3.heap.size, 0, none⟩) 1 1)).setCell ⟨W1.heap.size, 0, none⟩ (.int .i64 13)).setCell ⟨W1.heap.size, 1, none⟩ (.bool gg)).setCell ⟨W1.heap.size, 2, none⟩ (.int .u64 (n : Int))).setCell ⟨W1.heap.size, 3, none⟩ (.string s)).setCell ⟨W1.heap.size, 4, none⟩ (.slice (some ⟨W3.heap.size, 0, none⟩) 1 1))) W3.heap.size 36 #[.int .i64 0, .bool false, .int .u64 0, .string ⟨#[]⟩, .slice none 0 0] := by
          unfold Bk
          rw [off_g HZ.out.2.2.1, off_g HZ.out.2.2.1, off_g HZ.out.2.2.1, off_g HZ.out.2.2.1, off_g HZ.out.2.2.1, off_g HZ.out.2.2.2.1]
          exact HK4.out
        exact ⟨hB.cell 0, hB.cell 1, hB.cell 2, hB.cell 3, hB.cell 4⟩
      · obtain rfl : i = 0 := by simpa using hi
        exact .nil_
    · exact below_set5 (HB4.out.setCell (p := ⟨W2.heap.size, 4, none⟩) HZ.out.2.1 _) HZ.out.1 _ _ _ _ _
  · have hk1 : (k == 13) = false := by simp [hk]
    obtain ⟨e0, e1, e2, e3, e4⟩ := k3.c5
    obtain ⟨f0, f1, f2, f3, f4⟩ := k23.c5
    obtain ⟨ff0, ff1, ff2, ff3, ff4⟩ := k23.f5
    have HZ : Hid (w.heap.size ≤ W1.heap.size) := Lib.hid (by have := Z12.out; omega)
    rw [if_neg hk] at ha
    have HA := Lib.hid ha
    clear b1 b2 b3 k1 k2 k3 k12 k13 k23 ha hk hW1 hW2 hW3
    go_wp2_with fail
    refine bodyPost_ret (v := .agg #[.int .i64 k, .bool gg, .int .u64 (n : Int), .string s, .slice none 0 0]) (by simp [results, Try.results20, go_sem, f0, f1, f2, f3, f4]) rfl ⟨.slice none 0 0, rfl, by rw [HA.out]; exact .nil_, ?_⟩
    exact below_set5 HB.out HZ.out _ _ _ _ _
end Go.Proofs.Yteebokhpoppgeaa.nn
namespace Go.Proofs.Yteebokhpoppgeaa.nn
open Go.RowKit

/-- an event's numbers are an event's -/
structure wfE (e : Ev) : Prop where
  k1 : -9223372036854775808 ≤ e.k
  k2 : e.k ≤ 9223372036854775807
  n : e.n < 18446744073709551616
  s : e.s.size ≤ maxLen
theorem wf_asked {e : Ev} (h : wfE e) : wfT (asked e) ∧ smx (asked e) ≤ maxLen ∧ cnt (asked e) ≤ 2 := by
  unfold asked
  split
  · refine ⟨⟨h.k1, h.k2, h.n, ⟨by decide, by decide, by decide, trivial⟩, trivial⟩, ?_, Nat.le_refl _⟩
    have := h.s
    show max e.s.size (max (max 0 0) 0) ≤ _
    omega
  · refine ⟨⟨h.k1, h.k2, h.n, trivial⟩, ?_, by show 0 + 1 ≤ 2; omega⟩
    have := h.s
    show max e.s.size 0 ≤ _
    omega
theorem eb_at {w W : World} {e : Ev} {a : Addr} {v : Value} (h : Eb w e W) (ha : a.block < w.heap.size) (hc : w.cell? a = some v) : W.cell? a = some v := (h.b.cell ha).trans hc
set_option maxRecDepth 100000 in
theorem listTk_any (q : Nat) (e : Ev) (w : World) : Calls Try.prog 32 #[.pointer (some ⟨q, 0, none⟩), evv e] w fun x w' => x = .returned (.bool true) ∧ Below w.heap.size w w' := by
  have HB := Lib.hid (Eb.new w e).b
  unfold evv
  go_enter Try.func32, Try.ntmps32
  go_wp2_with fail
  go_ret
  exact ⟨rfl, HB.out⟩
set_option maxRecDepth 100000 in
set_option maxHeartbeats 1000000 in
theorem botTk_any (q m c : Nat) (A : Option Addr) (e : Ev) (w : World) (hq : q < w.heap.size) (h4 : w.cell? ⟨q, 4, none⟩ = some (.slice A m c)) :
    Calls Try.prog 27 #[.pointer (some ⟨q, 0, none⟩), evv e] w fun x w' => x = .returned (.bool (decide (e.k ≠ 15) && decide (m = 0))) ∧ Below w.heap.size w w' := by
  have HE := Lib.hid (Eb.new w e)
  have a4 := eb_at HE.out (a := ⟨q, 4, none⟩) hq h4
  obtain ⟨k, gg, n, s⟩ := e
  unfold evv
  clear h4
  by_cases hk : k = 15
  · subst hk
    go_enter Try.func27, Try.ntmps27
    go_wp2_with fail
    go_ret
    exact ⟨rfl, HE.out.b⟩
  · have hk1 : (k != 15) = true := by simpa using hk
    have hd : decide (k ≠ 15) = true := by simpa using hk
    rcases Nat.eq_zero_or_pos m with rfl | hm
    · go_enter Try.func27, Try.ntmps27
      go_wp2_with fail
      go_ret
      exact ⟨rfl, HE.out.b⟩
    · have hm1 : ((m : Int) == 0) = false := by simp; omega
      have hm2 : decide (m = 0) = false := by simp; omega
      go_enter Try.func27, Try.ntmps27
      go_wp2_with fail
      go_ret
      exact ⟨rfl, HE.out.b⟩
set_option maxRecDepth 100000 in
set_option maxHeartbeats 1000000 in
theorem mapTk_any (q m c : Nat) (A : Option Addr) (e : Ev) (w : World) (hq : q < w.heap.size) (h4 : w.cell? ⟨q, 4, none⟩ = some (.slice A m c)) :
    Calls Try.prog 30 #[.pointer (some ⟨q, 0, none⟩), evv e] w fun x w' => x = .returned (.bool (decide (e.k ≠ 15) || decide (m % 2 = 0))) ∧ Below w.heap.size w w' := by
  have HE := Lib.hid (Eb.new w e)
  have a4 := eb_at HE.out (a := ⟨q, 4, none⟩) hq h4
  obtain ⟨k, gg, n, s⟩ := e
  unfold evv
  clear h4
  by_cases hk : k = 15
  · subst hk
    have hmod : (m : Int).tmod 2 = ((m % 2 : Nat) : Int) := by rw [Int.tmod_eq_emod_of_nonneg (by omega)]; omega
    have hw : IntKind.i64.wrap (((m % 2 : Nat) : Int)) = ((m % 2 : Nat) : Int) := IntWalk.i64_in _ ⟨by omega, by omega⟩
    obtain ⟨r, hr⟩ : ∃ r, m % 2 = r := ⟨_, rfl⟩
    have hr2 : r = 0 ∨ r = 1 := by omega
    rw [hr] at hmod hw
    have HR : Hid (decide (m % 2 = 0) = decide (r = 0)) := Lib.hid (by rw [hr])
    clear hr
    rcases hr2 with rfl | rfl
    all_goals
      have hmod2 : (m : Int) % 2 = (m : Int).tmod 2 := (Int.tmod_eq_emod_of_nonneg (by omega)).symm
      rw [hmod] at hmod2
      go_enter Try.func30, Try.ntmps30
      go_wp2_with fail
      go_ret
      exact ⟨by rw [HR.out]; rfl, HE.out.b⟩
  · have hk1 : (k != 15) = true := by simpa using hk
    have hd : decide (k ≠ 15) = true := by simpa using hk
    go_enter Try.func30, Try.ntmps30
    go_wp2_with fail
    go_ret
    exact ⟨rfl, HE.out.b⟩
/-- what is asked of an event by itself -/
def ievB (e : Ev) : Bool := if e.k = 15 then !e.g && decide (e.n = 0) && decide (e.s.size = 0) else decide (chk (asked e) = 0)
set_option maxRecDepth 100000 in
set_option maxHeartbeats 1000000 in
theorem isEv_any (e : Ev) (w : World) (hw : wfE e) : Calls Try.prog 28 #[evv e] w fun x w' => x = .returned (.bool (ievB e)) ∧ Below w.heap.size w w' := by
  have HE := Lib.hid (Eb.new w e)
  obtain ⟨h1, h2, h3⟩ := wf_asked hw
  have HL : Hid (∀ W, Eb w e W → Calls Try.prog 20 #[evv e] W fun x w' => ∃ A c, x = .returned (vv (asked e) (.slice A (asked e).l.length c)) ∧ Lst w' (.slice A (asked e).l.length c) (asked e).l ∧ Eb w e w') := Lib.hid fun W hW => (least_any e W).mono fun x w' ⟨C, hx, hl, hb⟩ => by
    obtain ⟨A, c, rfl, _⟩ := hl.lst.out
    exact ⟨A, c, hx, hl.lst, hW.on hb⟩
  have HC : Hid (∀ C W, Eb w e W → Lst W C (asked e).l → Calls Try.prog 37 #[vv (asked e) C] W fun x w' => x = .returned (.int .i64 (chk (asked e) : Int)) ∧ Eb w e w') := Lib.hid fun C W hW hl => (vcheck_any (asked e) C W (by omega) h2 hl h1).mono fun x w' ⟨hx, hb⟩ => ⟨hx, hW.on hb⟩
  obtain ⟨k, gg, n, s⟩ := e
  unfold ievB
  obtain ⟨m, hm⟩ : ∃ m, (asked ⟨k, gg, n, s⟩).l.length = m := ⟨_, rfl⟩
  obtain ⟨l, hl⟩ : ∃ l, (asked ⟨k, gg, n, s⟩).l = l := ⟨_, rfl⟩
  rw [hm, hl] at HL
  rw [hl] at HC
  obtain ⟨R, hR⟩ : ∃ R, chk (asked ⟨k, gg, n, s⟩) = R := ⟨_, rfl⟩
  rw [hR] at HC ⊢
  unfold vv evv at *
  have e1 : (asked ⟨k, gg, n, s⟩).k = k := rfl
  have e2 : (asked ⟨k, gg, n, s⟩).g = gg := rfl
  have e3 : (asked ⟨k, gg, n, s⟩).n = n := rfl
  have e4 : (asked ⟨k, gg, n, s⟩).s = s := rfl
  rw [e1, e2, e3, e4] at HL HC
  clear hw h1 h2 h3 hm hl hR e1 e2 e3 e4
  by_cases hk : k = 15
  · subst hk
    clear HL HC
    show Calls _ _ _ _ fun x w' => x = .returned (.bool (!gg && decide (n = 0) && decide (s.size = 0))) ∧ _
    cases gg
    · by_cases hn : n = 0
      · subst hn
        by_cases hs : s.size = 0
        · obtain rfl := ba_nil hs
          go_enter Try.func28, Try.ntmps28
          go_wp2_with fail
          go_ret
          exact ⟨rfl, HE.out.b⟩
        · have hd : decide (s.size = 0) = false := by simpa using hs
          have hne : s ≠ ⟨#[]⟩ := fun h => hs (by rw [h]; rfl)
          have hl1 : s.toList ≠ [] := by rw [ByteArray.toList_eq]; intro h; exact hs (by show s.data.size = 0; rw [← Array.length_toList, h]; rfl)
          have hl2 : s.toList.isEmpty = false := by simpa using hl1
          have hl3 : (s.toList == []) = false := by simpa using hl1
          rw [hd]
          go_enter Try.func28, Try.ntmps28
          go_wp2_with fail
          go_ret
          exact ⟨rfl, HE.out.b⟩
      · have hd : decide (n = 0) = false := by simpa using hn
        have hn1 : ((n : Int) == 0) = false := by simp; omega
        rw [hd]
        go_enter Try.func28, Try.ntmps28
        go_wp2_with fail
        go_ret
        exact ⟨rfl, HE.out.b⟩
    · go_enter Try.func28, Try.ntmps28
      go_wp2_with fail
      go_ret
      exact ⟨rfl, HE.out.b⟩
  · have hk1 : (k == 15) = false := by simpa using hk
    have HK : Hid ((if k = 15 then !gg && decide (n = 0) && decide (s.size = 0) else decide (R = 0)) = ((R : Int) == 0)) := Lib.hid (by rw [if_neg hk]; by_cases h : R = 0 <;> simp [h])
    show Calls _ _ _ _ fun x w' => x = .returned (.bool (if k = 15 then !gg && decide (n = 0) && decide (s.size = 0) else decide (R = 0))) ∧ _
    rw [HK.out]
    clear HK
    go_enter Try.func28, Try.ntmps28
    go_wp2_with fail
    refine (HL.out _ HE.out).mono ?_
    rintro x w1 ⟨A, c, rfl, hl, hk⟩
    have HL1 := Lib.hid hl
    have HK1 := Lib.hid hk
    clear hl hk
    go_wp2_with fail
    refine (HC.out _ _ HK1.out HL1.out).mono ?_
    rintro x w2 ⟨rfl, hk⟩
    have HK2 := Lib.hid hk
    clear hk
    go_wp2_with fail
    go_ret
    exact ⟨rfl, HK2.out.b⟩
end Go.Proofs.Yteebokhpoppgeaa.nn
namespace Go.Proofs.Yteebokhpoppgeaa.nn
open Go.RowKit

theorem Bk.new (W : World) (cs : Array Value) (T : TypeId) : Bk (W.alloc (.cells cs T)) W.heap.size T cs := heap_alloc_last _ _
theorem Eb.al {w W : World} {e : Ev} (h : Eb w e W) (o : Obj) : Eb w e (W.alloc o) := h.on ((Below.refl _ _).alloc (Nat.le_refl _) o)
/-- a tag that holds what least answers -/
def tagged (n : Nat) (e : Ev) : VT := .mk 13 false n ⟨#[]⟩ [asked e]
/-- behind the making of the tag: its box, and the row that it holds -/
structure Tg (w : World) (e : Ev) (n : Nat) (v : Value) (l : List VT) (b5 rb : Nat) (W : World) : Prop where
  eb : Eb w e W
  t : Bk W b5 36 #[.int .i64 13, .bool false, .int .u64 (n : Int), .string ⟨#[]⟩, .slice (some ⟨rb, 0, none⟩) 1 1]
  r : Bk W rb 36 #[.int .i64 e.k, .bool e.g, .int .u64 (e.n : Int), .string e.s, v]
  l : Lst W v l
theorem Tg.drew {w W : World} {e : Ev} {n : Nat} {v : Value} {l : List VT} {b5 rb : Nat} (h : Tg w e n v l b5 rb W) : Tg w e n v l b5 rb W.drew := ⟨h.eb.drew, h.t, h.r, h.l.keep (Below.drew (Below.refl _ _)) (Nat.le_refl _)⟩
theorem Bk.set5 {W : World} {g : Nat} {T : TypeId} {x0 x1 x2 x3 x4 a b c d f : Value} (h : Bk W g T #[x0, x1, x2, x3, x4]) : Bk (set5 W g 0 a b c d f) g T #[a, b, c, d, f] := ((((h.set_ 0 a).set_ 1 b).set_ 2 c).set_ 3 d).set_ 4 f
/-- the tag's box is made last -/
theorem Tg.of1 {w W : World} {e : Ev} {n : Nat} {v : Value} {l : List VT} (h : Eb w e W) (hl : Lst W v l) : Tg w e n v l (W.heap.size + 1) W.heap.size ((W.alloc (.cells #[.int .i64 e.k, .bool e.g, .int .u64 (e.n : Int), .string e.s, v] 36)).alloc (.cells #[.int .i64 13, .bool false, .int .u64 (n : Int), .string ⟨#[]⟩, .slice (some ⟨W.heap.size, 0, none⟩) 1 1] 36)) :=
  ⟨(h.al _).al _, bm_last2 _ _ _, (Bk.new W _ _).al _, (hl.keep ((Below.refl _ _).alloc (Nat.le_refl _) _) (Nat.le_refl _)).keep ((Below.refl _ _).alloc (Nat.le_refl _) _) (Nat.le_refl _)⟩
/-- it is made between -/
theorem Tg.of2 {w W : World} {e : Ev} {n : Nat} {v : Value} {l : List VT} (h : Eb w e W) (hl : Lst W v l) : Tg w e n v l W.heap.size (W.heap.size + 1) ((W.alloc (.cells #[.int .i64 13, .bool false, .int .u64 (n : Int), .string ⟨#[]⟩, .slice (some ⟨W.heap.size + 1, 0, none⟩) 1 1] 36)).alloc (.cells #[.int .i64 e.k, .bool e.g, .int .u64 (e.n : Int), .string e.s, v] 36)) :=
  ⟨(h.al _).al _, (Bk.new W _ _).al _, bm_last2 _ _ _, (hl.keep ((Below.refl _ _).alloc (Nat.le_refl _) _) (Nat.le_refl _)).keep ((Below.refl _ _).alloc (Nat.le_refl _) _) (Nat.le_refl _)⟩
/-- it was made ahead -/
theorem Tg.of3 {w W : World} {e : Ev} {n : Nat} {v : Value} {l : List VT} {b B : Nat} (h : Eb w e W) (hl : Lsf (fun x => B ≤ x) W v l) (hb : b < B) (hw : w.heap.size < b) (hk : Bk W b 36 #[.int .i64 0, .bool false, .int .u64 0, .string ⟨#[]⟩, .slice none 0 0]) :
    Tg w e n v l b W.heap.size (set5 (W.alloc (.cells #[.int .i64 e.k, .bool e.g, .int .u64 (e.n : Int), .string e.s, v] 36)) b 0 (.int .i64 13) (.bool false) (.int .u64 (n : Int)) (.string ⟨#[]⟩) (.slice (some ⟨W.heap.size, 0, none⟩) 1 1)) := by
  have hlt := hk.lt
  refine ⟨⟨below_set5 (h.b.alloc h.b.size _) (Nat.le_of_lt hw) _ _ _ _ _, ?_⟩, Bk.set5 (hk.al _), ?_, ?_⟩
  · unfold Bk
    rw [set5_other _ _ _ _ _ _ _ _ _ (by omega)]
    exact h.c.al _
  · unfold Bk
    rw [set5_other _ _ _ _ _ _ _ _ _ (by omega)]
    exact heap_alloc_last _ _
  · refine (hl.keep (by rw [set5_size]; simp) fun x hx hxl => ?_).lst
    rw [set5_other _ _ _ _ _ _ _ _ _ (by omega)]
    exact Below.heap_alloc _ _ _ hxl
set_option maxRecDepth 100000 in
set_option maxHeartbeats 6000000 in
theorem tagTk_any (q n : Nat) (e : Ev) (w : World) (hq : q < w.heap.size) (h2 : w.cell? ⟨q, 2, none⟩ = some (.int .u64 (n : Int))) (hn : n < 18446744073709551616) (hw : wfE e) :
    Calls Try.prog 31 #[.pointer (some ⟨q, 0, none⟩), evv e] w fun x w' => x = .returned (.bool (decide (e.k ≠ 15) && decide (chk (tagged n e) = 0))) ∧ Below w.heap.size w w' := by
  have HE := Lib.hid (Eb.new w e)
  obtain ⟨g1, g2, g3⟩ := wf_asked hw
  have HL : Hid (∀ W, Eb w e W → Calls Try.prog 20 #[evv e] W fun x w' => ∃ A c, x = .returned (vv (asked e) (.slice A (asked e).l.length c)) ∧ Lsf (fun b => W.heap.size ≤ b) w' (.slice A (asked e).l.length c) (asked e).l ∧ Eb w e w' ∧ Below W.heap.size W w') := Lib.hid fun W hW => (least_any e W).mono fun x w' ⟨C, hx, hl, hb⟩ => by
    obtain ⟨A, c, rfl, _⟩ := hl.lst.out
    exact ⟨A, c, hx, hl, hW.on hb, hb⟩
  have HC : Hid (∀ b W, Eb w e W → (∃ C, b < W.heap.size ∧ Row W b 0 (asked e) C ∧ Lst W C (asked e).l) → Calls Try.prog 37 #[vv (tagged n e) (.slice (some ⟨b, 0, none⟩) 1 1)] W fun x w' => x = .returned (.int .i64 (chk (tagged n e) : Int)) ∧ Eb w e w') := Lib.hid fun b W hW ⟨C, hb, hr, hl⟩ => by
    have hc : cnt (tagged n e) = cnt (asked e) + 0 + 1 := rfl
    have hs : smx (tagged n e) = max 0 (max (smx (asked e)) 0) := rfl
    refine (vcheck_any (tagged n e) _ W (by omega) (by omega) ?_ ⟨by decide, by decide, hn, g1, trivial⟩).mono fun x w' ⟨hx, hb⟩ => ⟨hx, hW.on hb⟩
    refine .at_ (l := [asked e]) (C := fun _ => C) rfl (Nat.le_refl _) hb (fun i hi => ?_) fun i hi => ?_
    · obtain rfl : i = 0 := by simpa using hi
      exact hr
    · obtain rfl : i = 0 := by simpa using hi
      exact hl
  obtain ⟨R, hR⟩ : ∃ R, chk (tagged n e) = R := ⟨_, rfl⟩
  rw [hR] at HC ⊢
  obtain ⟨k, gg, n', s⟩ := e
  obtain ⟨m, hm⟩ : ∃ m, (asked ⟨k, gg, n', s⟩).l.length = m := ⟨_, rfl⟩
  obtain ⟨l, hl⟩ : ∃ l, (asked ⟨k, gg, n', s⟩).l = l := ⟨_, rfl⟩
  rw [hm, hl] at HL
  rw [hl] at HC
  unfold vv evv at *
  have e1 : (asked ⟨k, gg, n', s⟩).k = k := rfl
  have e2 : (asked ⟨k, gg, n', s⟩).g = gg := rfl
  have e3 : (asked ⟨k, gg, n', s⟩).n = n' := rfl
  have e4 : (asked ⟨k, gg, n', s⟩).s = s := rfl
  have e5 : (tagged n ⟨k, gg, n', s⟩).k = 13 := rfl
  have e6 : (tagged n ⟨k, gg, n', s⟩).g = false := rfl
  have e7 : (tagged n ⟨k, gg, n', s⟩).n = n := rfl
  have e8 : (tagged n ⟨k, gg, n', s⟩).s = ⟨#[]⟩ := rfl
  rw [e1, e2, e3, e4] at HL
  rw [e5, e6, e7, e8] at HC
  have HRW : Hid (∀ (W : World) (b : Nat) (C : Value), Bk W b 36 #[.int .i64 k, .bool gg, .int .u64 (n' : Int), .string s, C] → Row W b 0 (asked ⟨k, gg, n', s⟩) C) := Lib.hid fun W b C h => ⟨h.cell 0, h.cell 1, h.cell 2, h.cell 3, h.cell 4⟩
  have HN2 : Hid (∀ W, Eb w ⟨k, gg, n', s⟩ W → W.cell? ⟨q, 2, none⟩ = some (.int .u64 (n : Int))) := Lib.hid fun W h => eb_at h (a := ⟨q, 2, none⟩) hq h2
  have HZ : Hid (∀ W, Eb w ⟨k, gg, n', s⟩ W → w.heap.size < W.heap.size) := Lib.hid fun W h => h.c.lt
  clear hw g1 g2 g3 hm hl hR e1 e2 e3 e4 e5 e6 e7 e8 h2
  obtain ⟨WE, hWE⟩ : ∃ WE, w.alloc (.cells #[.int .i64 k, .bool gg, .int .u64 (n' : Int), .string s] 31) = WE := ⟨_, rfl⟩
  have hE : Eb w ⟨k, gg, n', s⟩ WE := by rw [← hWE]; exact HE.out
  go_enter Try.func31, Try.ntmps31
  go_upto_region 1 with fail
  have HE1 := Lib.hid hE
  have hx0 := HN2.out _ hE
  obtain ⟨c0, c1, c2, c3⟩ := hE.cells
  have hx1 := HN2.out _ (hE.al (.cells #[.int .i64 0, .bool false, .int .u64 0, .string ⟨#[]⟩, .slice none 0 0] 36))
  obtain ⟨d0, d1, d2, d3⟩ := (hE.al (.cells #[.int .i64 0, .bool false, .int .u64 0, .string ⟨#[]⟩, .slice none 0 0] 36)).cells
  have L1 := Lib.hid (HL.out _ hE.drew)
  have L2 := Lib.hid (HL.out _ (hE.al (.cells #[.int .i64 0, .bool false, .int .u64 0, .string ⟨#[]⟩, .slice none 0 0] 36)).drew)
  have HK5 : Hid (Bk (WE.alloc (.cells #[.int .i64 0, .bool false, .int .u64 0, .string ⟨#[]⟩, .slice none 0 0] 36)).drew WE.heap.size 36 #[.int .i64 0, .bool false, .int .u64 0, .string ⟨#[]⟩, .slice none 0 0]) := Lib.hid (heap_alloc_last _ _)
  clear hE hWE HE HL
  go_cut [5] (fun s5 wx => ∃ (b5 rb : Nat) (A : Option Addr) (c : Nat), s5 = .pointer (some ⟨b5, 0, none⟩) ∧ Hid (Tg w ⟨k, gg, n', s⟩ n (.slice A m c) l b5 rb wx))
  case first =>
    go_region_with (first
      | (go_at_call 20; (with_reducible refine L1.out.mono ?_); rintro x w1 ⟨A, c, rfl, hl1, hk1, hb1⟩; have hy0 := HN2.out _ hk1; have hy1 := HN2.out _ (hk1.al (.cells #[.int .i64 k, .bool gg, .int .u64 (n' : Int), .string s, .slice A m c] 36)); have hy2 := HN2.out _ (hk1.al (.cells #[.int .i64 0, .bool false, .int .u64 0, .string ⟨#[]⟩, .slice none 0 0] 36)); have hy3 := HN2.out _ ((hk1.al (.cells #[.int .i64 0, .bool false, .int .u64 0, .string ⟨#[]⟩, .slice none 0 0] 36)).al (.cells #[.int .i64 k, .bool gg, .int .u64 (n' : Int), .string s, .slice A m c] 36)); have hy4 := HN2.out _ ((hk1.al (.cells #[.int .i64 k, .bool gg, .int .u64 (n' : Int), .string s, .slice A m c] 36)).al (.cells #[.int .i64 0, .bool false, .int .u64 0, .string ⟨#[]⟩, .slice none 0 0] 36)))
      | (go_at_call 20; (with_reducible refine L2.out.mono ?_); rintro x w1 ⟨A, c, rfl, hl1, hk1, hb1⟩; have hy0 := HN2.out _ hk1; have hy1 := HN2.out _ (hk1.al (.cells #[.int .i64 k, .bool gg, .int .u64 (n' : Int), .string s, .slice A m c] 36)); have hk9 := HK5.out.below hb1 HK5.out.lt; obtain ⟨f0, f1, f2, f3, f4⟩ := (hk9.al (.cells #[.int .i64 k, .bool gg, .int .u64 (n' : Int), .string s, .slice A m c] 36)).c5; obtain ⟨ff0, ff1, ff2, ff3, ff4⟩ := (hk9.al (.cells #[.int .i64 k, .bool gg, .int .u64 (n' : Int), .string s, .slice A m c] 36)).f5))
    all_goals
      go_wp2_with fail
      go_meet
      first
        | (refine ⟨w1.heap.size + 1, w1.heap.size, A, c, rfl, ?_⟩; exact Lib.hid (Tg.of1 hk1 hl1.lst))
        | (refine ⟨w1.heap.size, w1.heap.size + 1, A, c, rfl, ?_⟩; exact Lib.hid (Tg.of2 hk1 hl1.lst))
        | (refine ⟨WE.heap.size, w1.heap.size, A, c, rfl, ?_⟩; exact Lib.hid (Tg.of3 (B := (WE.alloc (.cells #[.int .i64 0, .bool false, .int .u64 0, .string ⟨#[]⟩, .slice none 0 0] 36)).drew.heap.size) hk1 hl1 (by simp) (HZ.out _ HE1.out) hk9))
  case rest =>
    obtain ⟨b5, rb, A, c, rfl, HT⟩ := hcut
    clear hx0 hx1 c0 c1 c2 c3 d0 d1 d2 d3 L1 L2 HK5
    obtain ⟨j0, j1, j2, j3, j4⟩ := HT.out.t.c5
    have i0 := HT.out.eb.cells.1
    have HF : Hid (Calls Try.prog 37 #[.agg #[.int .i64 13, .bool false, .int .u64 (n : Int), .string ⟨#[]⟩, .slice (some ⟨rb, 0, none⟩) 1 1]] wc fun x w' => x = .returned (.int .i64 (R : Int)) ∧ Eb w ⟨k, gg, n', s⟩ w') := Lib.hid (HC.out rb wc HT.out.eb ⟨_, HT.out.r.lt, HRW.out _ _ _ HT.out.r, HT.out.l⟩)
    clear HC HRW HN2 HZ HE1
    by_cases hk : k = 15
    · subst hk
      go_wp2_with fail
      go_ret
      exact ⟨rfl, HT.out.eb.b⟩
    · have hk1 : (k != 15) = true := by simpa using hk
      have HK : Hid ((decide (k ≠ 15) && decide (R = 0)) = ((R : Int) == 0)) := Lib.hid (by rw [decide_eq_true hk]; by_cases h : R = 0 <;> simp [h])

      go_wp2_with fail
      refine HF.out.mono ?_
      rintro x w2 ⟨rfl, hk2⟩
      have HK2 := Lib.hid hk2
      clear hk2
      go_wp2_with fail
      go_ret
      exact ⟨congrArg (fun b => Ending.returned (Value.bool b)) HK.out.symm, HK2.out.b⟩
end Go.Proofs.Yteebokhpoppgeaa.nn
