/- Joined texts, what is wanted of them: VaFields, VaRight, VaWithin, VaIs, VaDepth, VaCheck. -/
import Derived.Test.YtpcladdipgchbaaGreatDoorProg
import Derived.WalkKit
import Derived.Lib.Hide
import Derived.Deep.CutBlock
import Derived.BigQuiet
import Derived.Deep.QuietTactic
import Derived.Deep.DeepCutAuto
import Derived.KernelRfl
import Derived.Below
import Derived.Deep.WholeRow
import Derived.Great.Walk
import Derived.Lib.MinMax
import Derived.WalkSpells
import Derived.Deep.RegionHeld3
import Derived.Laws.BitsAllLaws
import Derived.Test.YtpcladdipgchbaaGreatDoorShelf
import Derived.Deep.RegionWith
import Derived.IntWalk
import Derived.StillTailTactics
import Derived.Test.YtpcladdipgchbaaGreatDoorSb
import Derived.Test.YtpcladdipgchbaaGreatDoorSa
import Derived.Test.YtpcladdipgchbaaGreatDoorSc
import Derived.Test.YtpcladdipgchbaaGreatDoorSe
namespace Go.Proofs.YtpcladdipgchbaaGreatDoor.nn
open Go.RowKit Go.Great

/-- which fields a kind has beside K -/
def fdG (k : Nat) : Bool := decide (k = 4 ∨ k = 5)
def fdN (k : Nat) : Bool := decide (k = 1 ∨ k = 3 ∨ k = 4 ∨ k = 6 ∨ k = 7 ∨ k = 8 ∨ k = 13 ∨ k = 14)
def fdS (k : Nat) : Bool := decide (k = 5 ∨ k = 9 ∨ k = 10 ∨ k = 14)
def fdL (k : Nat) : Bool := decide (k = 11 ∨ k = 12 ∨ k = 13)
def ftab : Array Value := #[.bool false, .bool false, .bool false, .bool false, .bool false, .bool true, .bool false, .bool false, .bool false, .bool false, .bool false, .bool false, .bool false, .bool true, .bool false, .bool false, .bool true, .bool true, .bool false, .bool false, .bool true, .bool false, .bool true, .bool false, .bool false, .bool true, .bool false, .bool false, .bool false, .bool true, .bool false, .bool false, .bool false, .bool true, .bool false, .bool false, .bool false, .bool false, .bool true, .bool false, .bool false, .bool false, .bool true, .bool false, .bool false, .bool false, .bool false, .bool true, .bool false, .bool false, .bool false, .bool true, .bool false, .bool true, .bool false, .bool true, .bool false, .bool true, .bool true, .bool false]
def fzer : Array Value := #[.bool false, .bool false, .bool false, .bool false, .bool false, .bool false, .bool false, .bool false, .bool false, .bool false, .bool false, .bool false, .bool false, .bool false, .bool false, .bool false, .bool false, .bool false, .bool false, .bool false, .bool false, .bool false, .bool false, .bool false, .bool false, .bool false, .bool false, .bool false, .bool false, .bool false, .bool false, .bool false, .bool false, .bool false, .bool false, .bool false, .bool false, .bool false, .bool false, .bool false, .bool false, .bool false, .bool false, .bool false, .bool false, .bool false, .bool false, .bool false, .bool false, .bool false, .bool false, .bool false, .bool false, .bool false, .bool false, .bool false, .bool false, .bool false, .bool false, .bool false]
theorem fz1 (w : World) (o : Obj) : (w.alloc o).heap.size = w.heap.size + 1 := by simp
theorem flast2 (w : World) (o o' : Obj) : ((w.alloc o).alloc o').heap[w.heap.size + 1]? = some o' := by
  have := heap_alloc_last (w.alloc o) o'
  simpa using this
theorem fsetRow2 (w : World) (o : Obj) (c c' : Array Value) (t : TypeId) : ((w.alloc o).alloc (.cells c t)).setRow (w.heap.size + 1) c' = (w.alloc o).alloc (.cells c' t) := by
  have := World.setRow_alloc_new (w.alloc o) c c' t
  simpa using this
theorem ftab_at (k : Nat) (h : k < 15) : ftab[k * 4]? = some (.bool (fdG k)) ∧ ftab[k * 4 + 1]? = some (.bool (fdN k)) ∧ ftab[k * 4 + 2]? = some (.bool (fdS k)) ∧ ftab[k * 4 + 3]? = some (.bool (fdL k)) := by
  match k, h with
  | 0, _ => exact ⟨rfl, rfl, rfl, rfl⟩
  | 1, _ => exact ⟨rfl, rfl, rfl, rfl⟩
  | 2, _ => exact ⟨rfl, rfl, rfl, rfl⟩
  | 3, _ => exact ⟨rfl, rfl, rfl, rfl⟩
  | 4, _ => exact ⟨rfl, rfl, rfl, rfl⟩
  | 5, _ => exact ⟨rfl, rfl, rfl, rfl⟩
  | 6, _ => exact ⟨rfl, rfl, rfl, rfl⟩
  | 7, _ => exact ⟨rfl, rfl, rfl, rfl⟩
  | 8, _ => exact ⟨rfl, rfl, rfl, rfl⟩
  | 9, _ => exact ⟨rfl, rfl, rfl, rfl⟩
  | 10, _ => exact ⟨rfl, rfl, rfl, rfl⟩
  | 11, _ => exact ⟨rfl, rfl, rfl, rfl⟩
  | 12, _ => exact ⟨rfl, rfl, rfl, rfl⟩
  | 13, _ => exact ⟨rfl, rfl, rfl, rfl⟩
  | 14, _ => exact ⟨rfl, rfl, rfl, rfl⟩
/-- what fieldsOf answers -/
def FdAns (k : Int) (w : World) (e : Ending) (w' : World) : Prop := ∃ a b c d o, e = .returned (.tuple #[.agg #[.bool a, .bool b, .bool c, .bool d], .bool o]) ∧ Below w.heap.size w w' ∧ (0 ≤ k ∧ k < 15 → a = fdG k.toNat ∧ b = fdN k.toNat ∧ c = fdS k.toNat ∧ d = fdL k.toNat) ∧ o = decide (0 ≤ k ∧ k < 15)
set_option maxRecDepth 100000 in
set_option maxHeartbeats 1000000 in
theorem fields_any (k : Int) (w : World) : Calls Tryz.prog 65 #[.int .i64 k] w (FdAns k w) := by
  go_enter Tryz.func65, Tryz.ntmps65
  go_upto_region 1 with fail
  go_cut [4] from 5 to 20 (fun s4 wx => s4 = .pointer (some ⟨w.heap.size + 1, 0, none⟩) ∧ wx = (w.alloc (.cells #[.bool false, .bool false, .bool false, .bool false] 98)).alloc (.cells ftab 149))
  case first =>
    apply wp_region_lit
    refine wpList_buildTo rfl 98 _ rfl (some 5) rfl #[.bool false, .bool false, .bool false, .bool false] (by kernel_rfl) ?_
    refine wpList_buildTo rfl 98 _ rfl (some 6) rfl #[.bool false, .bool true, .bool false, .bool false] (by kernel_rfl) ?_
    refine wpList_buildTo rfl 98 _ rfl (some 7) rfl #[.bool false, .bool false, .bool false, .bool false] (by kernel_rfl) ?_
    refine wpList_buildTo rfl 98 _ rfl (some 8) rfl #[.bool false, .bool true, .bool false, .bool false] (by kernel_rfl) ?_
    refine wpList_buildTo rfl 98 _ rfl (some 9) rfl #[.bool true, .bool true, .bool false, .bool false] (by kernel_rfl) ?_
    refine wpList_buildTo rfl 98 _ rfl (some 10) rfl #[.bool true, .bool false, .bool true, .bool false] (by kernel_rfl) ?_
    refine wpList_buildTo rfl 98 _ rfl (some 11) rfl #[.bool false, .bool true, .bool false, .bool false] (by kernel_rfl) ?_
    refine wpList_buildTo rfl 98 _ rfl (some 12) rfl #[.bool false, .bool true, .bool false, .bool false] (by kernel_rfl) ?_
    refine wpList_buildTo rfl 98 _ rfl (some 13) rfl #[.bool false, .bool true, .bool false, .bool false] (by kernel_rfl) ?_
    refine wpList_buildTo rfl 98 _ rfl (some 14) rfl #[.bool false, .bool false, .bool true, .bool false] (by kernel_rfl) ?_
    refine wpList_buildTo rfl 98 _ rfl (some 15) rfl #[.bool false, .bool false, .bool true, .bool false] (by kernel_rfl) ?_
    refine wpList_buildTo rfl 98 _ rfl (some 16) rfl #[.bool false, .bool false, .bool false, .bool true] (by kernel_rfl) ?_
    refine wpList_buildTo rfl 98 _ rfl (some 17) rfl #[.bool false, .bool false, .bool false, .bool true] (by kernel_rfl) ?_
    refine wpList_buildTo rfl 98 _ rfl (some 18) rfl #[.bool false, .bool true, .bool false, .bool true] (by kernel_rfl) ?_
    refine wpList_buildTo rfl 98 _ rfl (some 19) rfl #[.bool false, .bool true, .bool true, .bool false] (by kernel_rfl) ?_
    refine wpList_buildTo rfl 149 _ rfl (some 20) rfl ftab (by kernel_rfl) ?_
    refine wpList_allocTo rfl (some 4) rfl (.pointer (some ⟨(w.alloc (.cells #[.bool false, .bool false, .bool false, .bool false] 98)).heap.size, 0, none⟩)) (.cells fzer 149) (by kernel_rfl) ?_
    rw [fz1]
    refine wpList_store_rowTo rfl 149 _ _ rfl rfl (w.heap.size + 1) ftab (by kernel_rfl) (by kernel_rfl) 149 fzer (flast2 _ _ _) (by kernel_rfl) (by kernel_rfl) (by kernel_rfl) ?_
    rw [fsetRow2]
    refine wpList_frame (a' := { tmps := #[.int .i64 k, undef, .pointer (some ⟨w.heap.size, 0, none⟩), .bool false, .pointer (some ⟨w.heap.size + 1, 0, none⟩), (.agg #[.bool false, .bool false, .bool false, .bool false]), (.agg #[.bool false, .bool true, .bool false, .bool false]), (.agg #[.bool false, .bool false, .bool false, .bool false]), (.agg #[.bool false, .bool true, .bool false, .bool false]), (.agg #[.bool true, .bool true, .bool false, .bool false]), (.agg #[.bool true, .bool false, .bool true, .bool false]), (.agg #[.bool false, .bool true, .bool false, .bool false]), (.agg #[.bool false, .bool true, .bool false, .bool false]), (.agg #[.bool false, .bool true, .bool false, .bool false]), (.agg #[.bool false, .bool false, .bool true, .bool false]), (.agg #[.bool false, .bool false, .bool true, .bool false]), (.agg #[.bool false, .bool false, .bool false, .bool true]), (.agg #[.bool false, .bool false, .bool false, .bool true]), (.agg #[.bool false, .bool true, .bool false, .bool true]), (.agg #[.bool false, .bool true, .bool true, .bool false]), (.agg ftab), undef, undef, undef, undef, undef, undef, undef, undef, undef, undef], defers := [] }) (by kernel_rfl) ?_
    refine wpList_nil ?_
    rename_i hJ hK
    exact hK _ _ (Met.intro (hJ _ _ ⟨_, _, _, _, _, _, _, _, _, _, _, _, _, _, _, _, _, ⟨rfl, rfl⟩, rfl⟩))
  case rest =>
    obtain ⟨rfl, rfl⟩ := hcut
    have HB := Lib.hid (((Below.refl w.heap.size w).alloc (Nat.le_refl _) (.cells #[.bool false, .bool false, .bool false, .bool false] 98)).alloc (by rw [fz1]; omega) (.cells ftab 149))
    have HL := Lib.hid (flast2 w (.cells #[.bool false, .bool false, .bool false, .bool false] 98) (.cells ftab 149))
    have h0 : ((w.alloc (.cells #[.bool false, .bool false, .bool false, .bool false] 98)).alloc (.cells ftab 149)).heap[w.heap.size]? = some (.cells #[.bool false, .bool false, .bool false, .bool false] 98 (0, 0)) := (Below.heap_alloc _ _ _ (by rw [fz1]; omega)).trans (heap_alloc_last _ _)
    obtain ⟨W, hW⟩ : ∃ W, (w.alloc (.cells #[.bool false, .bool false, .bool false, .bool false] 98)).alloc (.cells ftab 149) = W := ⟨_, rfl⟩
    rw [hW] at HB HL h0 ⊢
    have z0 : W.cell? ⟨w.heap.size, 0, none⟩ = some (.bool false) := cell_of_row _ _ 0 _ _ _ h0
    have z1 : W.cell? ⟨w.heap.size, 1, none⟩ = some (.bool false) := cell_of_row _ _ 1 _ _ _ h0
    have z2 : W.cell? ⟨w.heap.size, 2, none⟩ = some (.bool false) := cell_of_row _ _ 2 _ _ _ h0
    have z3 : W.cell? ⟨w.heap.size, 3, none⟩ = some (.bool false) := cell_of_row _ _ 3 _ _ _ h0
    have f0 : ∀ i, W.frozen? ⟨w.heap.size, i, none⟩ = false := fun i => by simp [World.frozen?, h0]
    have HH := Lib.hid h0
    have HEND : Hid (∀ a b c d, Below w.heap.size w ((((W.setCell ⟨w.heap.size, 0, none⟩ a).setCell ⟨w.heap.size, 1, none⟩ b).setCell ⟨w.heap.size, 2, none⟩ c).setCell ⟨w.heap.size, 3, none⟩ d)) := Lib.hid fun a b c d =>
      (((HB.out.setCell (Nat.le_refl _) _).setCell (Nat.le_refl _) _).setCell (Nat.le_refl _) _).setCell (Nat.le_refl _) _
    clear hW h0
    by_cases hk0 : k < 0
    · have ho : decide (0 ≤ k ∧ k < 15) = false := decide_eq_false (by omega)
      have HO := Lib.hid ho
      clear ho
      go_wp2_with fail
      refine bodyPost_ret (v := .tuple #[.agg #[.bool false, .bool false, .bool false, .bool false], .bool false]) (by simp [results, Tryz.results65, go_sem, World.cell?, World.setCell, Array.getElem?_modify, HH.out]) rfl ⟨_, _, _, _, _, rfl, HEND.out _ _ _ _, fun h => by omega, HO.out.symm⟩
    · by_cases hk1 : 15 ≤ k
      · have ho : decide (0 ≤ k ∧ k < 15) = false := decide_eq_false (by omega)
        have HO := Lib.hid ho
        clear ho
        go_wp2_with fail
        refine bodyPost_ret (v := .tuple #[.agg #[.bool false, .bool false, .bool false, .bool false], .bool false]) (by simp [results, Tryz.results65, go_sem, World.cell?, World.setCell, Array.getElem?_modify, HH.out]) rfl ⟨_, _, _, _, _, rfl, HEND.out _ _ _ _, fun h => by omega, HO.out.symm⟩
      · obtain ⟨n, rfl⟩ : ∃ n : Nat, k = (n : Int) := ⟨k.toNat, by omega⟩
        have hn : n < 15 := by omega
        have HO : Hid (true = decide (0 ≤ (n : Int) ∧ (n : Int) < 15)) := Lib.hid (decide_eq_true (by omega)).symm
        obtain ⟨t0, t1, t2, t3⟩ := ftab_at n hn
        have c0 : W.cell? ⟨w.heap.size + 1, n * 4, none⟩ = some (.bool (fdG n)) := (cell_of_row _ _ _ _ _ _ HL.out).trans t0
        have c1 : W.cell? ⟨w.heap.size + 1, n * 4 + 1, none⟩ = some (.bool (fdN n)) := (cell_of_row _ _ _ _ _ _ HL.out).trans t1
        have c2 : W.cell? ⟨w.heap.size + 1, n * 4 + 2, none⟩ = some (.bool (fdS n)) := (cell_of_row _ _ _ _ _ _ HL.out).trans t2
        have c3 : W.cell? ⟨w.heap.size + 1, n * 4 + 3, none⟩ = some (.bool (fdL n)) := (cell_of_row _ _ _ _ _ _ HL.out).trans t3
        obtain ⟨a, ha⟩ : ∃ a, fdG n = a := ⟨_, rfl⟩
        obtain ⟨b, hb⟩ : ∃ b, fdN n = b := ⟨_, rfl⟩
        obtain ⟨c, hc⟩ : ∃ c, fdS n = c := ⟨_, rfl⟩
        obtain ⟨d, hd⟩ : ∃ d, fdL n = d := ⟨_, rfl⟩
        rw [ha] at c0
        rw [hb] at c1
        rw [hc] at c2
        rw [hd] at c3
        have HF : Hid (a = fdG n ∧ b = fdN n ∧ c = fdS n ∧ d = fdL n) := Lib.hid ⟨ha.symm, hb.symm, hc.symm, hd.symm⟩
        clear t0 t1 t2 t3 ha hb hc hd hk0 hk1
        go_wp2_with fail
        refine bodyPost_ret (v := .tuple #[.agg #[.bool a, .bool b, .bool c, .bool d], .bool true]) (by simp [results, Tryz.results65, go_sem, World.cell?, World.setCell, Array.getElem?_modify, HH.out]) rfl ⟨_, _, _, _, _, rfl, HEND.out _ _ _ _, fun _ => HF.out, HO.out⟩
end Go.Proofs.YtpcladdipgchbaaGreatDoor.nn
namespace Go.Proofs.YtpcladdipgchbaaGreatDoor.nn
open Go.RowKit

set_option maxRecDepth 100000 in
set_option maxHeartbeats 2000000 in
theorem cover_any (a b c d : Bool) (t : VT) (A : Option Addr) (m cc : Nat) (w : World) (_ : m ≤ 4611686018427387904) :
    Calls Tryz.prog 66 #[.agg #[.bool a, .bool b, .bool c, .bool d], vv t (.slice A m cc)] w fun e w' => e = .returned (.bool ((a || !t.g) && (b || nE t) && (c || sE t) && (d || decide (m = 0)))) ∧ Below w.heap.size w w' := by
  have HA := Lib.hid (fun o o' => (((Below.refl w.heap.size w).alloc (Nat.le_refl _) o).alloc (by simp) o'))
  obtain ⟨B1, h1⟩ : ∃ B1, t.s.toList.isEmpty = B1 := ⟨_, rfl⟩
  obtain ⟨B2, h2⟩ : ∃ B2, ((t.n : Int) == 0) = B2 := ⟨_, rfl⟩
  obtain ⟨B3, h3⟩ : ∃ B3, t.g = B3 := ⟨_, rfl⟩
  obtain ⟨B4, h4⟩ : ∃ B4, ((m : Int) == 0) = B4 := ⟨_, rfl⟩
  have h5 : decide (m = 0) = B4 := by rw [← h4]; cases hh : ((m : Int) == 0) <;> simp_all
  unfold vv sE nE
  rw [h1, h2, h3, h5]
  clear h3 h5
  go_enter Tryz.func66, Tryz.ntmps66
  go_wp2_with fail
  all_goals
    go_ret
    exact ⟨by simp_all, HA.out _ _⟩
set_option maxRecDepth 100000 in
theorem canBig_any (s : ByteArray) (w : World) : Calls Tryz.prog 104 #[.string s] w fun e w' => e = .returned (.bool (big s)) ∧ w = w' := by
  unfold big
  by_cases h1 : 8 < s.size
  · by_cases h2 : s.size ≤ 512
    · have h0 : 0 < s.size := by omega
      have h9 : 9 ≤ s.size := by omega
      have hb := bt_at h0
      by_cases h3 : bt s 0 = 0
      · rw [decide_eq_false (by omega)]
        have q : ((s[0].toNat : Int) != 0) = false := by rw [← hb, h3]; rfl
        clear hb h3
        go_enter Tryz.func104, Tryz.ntmps104
        go_wp2_with fail
        go_ret
        exact ⟨rfl, rfl⟩
      · rw [decide_eq_true ⟨h1, h2, h3⟩]
        have q : ((s[0].toNat : Int) != 0) = true := by rw [← hb]; simp; omega
        clear hb h3
        go_enter Tryz.func104, Tryz.ntmps104
        go_wp2_with fail
        go_ret
        exact ⟨rfl, rfl⟩
    · rw [decide_eq_false (by omega)]
      have h9 : 9 ≤ s.size := by omega
      go_enter Tryz.func104, Tryz.ntmps104
      go_wp2_with fail
      go_ret
      exact ⟨rfl, rfl⟩
  · rw [decide_eq_false (by omega)]
    have h9 : ¬ 9 ≤ s.size := by omega
    go_enter Tryz.func104, Tryz.ntmps104
    go_wp2_with fail
    go_ret
    exact ⟨rfl, rfl⟩
set_option maxRecDepth 100000 in
theorem isFloat_any (k : Int) (x : Nat) (w : World) (hx : x < 18446744073709551616) : Calls Tryz.prog 105 #[.int .i64 k, .int .u64 (x : Int)] w fun e w' => e = .returned (.bool (decide (paE k x = 0))) ∧ Below w.heap.size w w' := by
  have HC := Lib.hid (fclass_any k x w hx)
  unfold ClAns at HC
  obtain ⟨E, hE⟩ : ∃ E, paE k x = E := ⟨_, rfl⟩
  rw [hE] at HC ⊢
  have hEE : E = 0 ∨ E = 1 := by rw [← hE]; unfold paE; split <;> simp
  clear hE
  go_enter Tryz.func105, Tryz.ntmps105
  go_wp2_with fail
  refine HC.out.mono ?_
  rintro e w2 ⟨rfl, hb⟩
  have HB := Lib.hid hb
  clear hb
  rcases hEE with rfl | rfl
  · go_wp2_with fail
    go_ret
    exact ⟨rfl, HB.out⟩
  · go_wp2_with fail
    go_ret
    exact ⟨rfl, HB.out⟩
set_option maxRecDepth 100000 in
set_option maxHeartbeats 1000000 in
theorem tellsBig_any (n : Nat) (x : VT) (D : Value) (w : World) : Calls Tryz.prog 107 #[.int .u64 (n : Int), vv x D] w fun e w' => e = .returned (.bool (decide (n = 2 ∨ n = 3) && (decide (x.k = 9) && big x.s))) ∧ Below w.heap.size w w' := by
  have HA := Lib.hid (fun o => (Below.refl w.heap.size w).alloc (Nat.le_refl _) o)
  have HG := Lib.hid (fun w => canBig_any x.s w)
  obtain ⟨G, hG⟩ : ∃ G, big x.s = G := ⟨_, rfl⟩
  rw [hG] at HG ⊢
  obtain ⟨xk, hxk⟩ : ∃ k, x.k = k := ⟨_, rfl⟩
  unfold vv
  rw [hxk]
  clear hG hxk
  by_cases h4 : n = 2 ∨ n = 3
  · rw [decide_eq_true h4]
    by_cases h5 : xk = 9
    · subst h5
      rcases h4 with h4 | h4
      all_goals
        subst h4
        go_enter Tryz.func107, Tryz.ntmps107
        go_wp2_with fail
        refine (HG.out _).mono ?_
        rintro e w2 ⟨rfl, rfl⟩
        go_wp2_with fail
        cases G
        all_goals
          go_ret
          exact ⟨by simp_all, HA.out _⟩
    · have q5 := ne_int8 (c := xk) (k := 9) h5
      rw [decide_eq_false h5]
      rcases h4 with h4 | h4
      all_goals
        subst h4
        clear h5
        go_enter Tryz.func107, Tryz.ntmps107
        go_wp2_with fail
        go_ret
        exact ⟨by simp_all, HA.out _⟩
  · rw [decide_eq_false h4]
    have q1 := ne_int8 (c := (n : Int)) (k := 2) (by omega)
    have q2 := ne_int8 (c := (n : Int)) (k := 3) (by omega)
    clear h4
    go_enter Tryz.func107, Tryz.ntmps107
    go_wp2_with fail
    go_ret
    exact ⟨by simp_all, HA.out _⟩
end Go.Proofs.YtpcladdipgchbaaGreatDoor.nn
namespace Go.Proofs.YtpcladdipgchbaaGreatDoor.nn
open Go.RowKit

/-- are the fields that a value has within the bounds of its kind -/
def wiB (t : VT) : Bool :=
  if t.k = 1 then decide (t.n ≤ 1)
  else if t.k = 3 then decide (t.n ≤ 19 ∨ 32 ≤ t.n ∧ t.n ≤ 255)
  else if t.k = 5 then big t.s
  else if t.k = 6 then decide (t.n < 65536)
  else if t.k = 7 then decide (t.n < 4294967296)
  else if t.k = 10 then decide (ckE (bt t.s) t.s.size = 0)
  else if t.k = 12 then decide (t.l.length % 2 = 0)
  else if t.k = 13 then decide (t.l.length = 1) && !guise t.n t.l
  else if t.k = 14 then decide (t.n ≤ 255)
  else true
theorem drewN_kw {B : Nat} {w W : World} (h : Below B w W) (n : Nat) : Below B w (W.drewN n) := ⟨h.os, h.tape, h.output, h.size, h.block⟩
theorem paE_16 (x : Nat) : decide (paE 16 x = 0) = decide (x < 65536) := by
  by_cases h : x < 65536
  · rw [decide_eq_true h, decide_eq_true]
    unfold paE
    rw [if_pos ⟨by unfold wOk; omega, fun _ => h⟩]
  · rw [decide_eq_false h, decide_eq_false]
    unfold paE
    rw [if_neg (fun h2 => h (h2.2 (by omega)))]
    omega
theorem paE_32 (x : Nat) : decide (paE 32 x = 0) = decide (x < 4294967296) := by
  by_cases h : x < 4294967296
  · rw [decide_eq_true h, decide_eq_true]
    unfold paE
    rw [if_pos ⟨by unfold wOk; omega, fun _ => h⟩]
  · rw [decide_eq_false h, decide_eq_false]
    unfold paE
    rw [if_neg (fun h2 => h (h2.2 (by omega)))]
    omega
set_option maxRecDepth 100000 in
set_option maxHeartbeats 2000000 in
theorem wi_1 (t : VT) (C : Value) (w : World) (hk : t.k = 1) : Calls Tryz.prog 67 #[vv t C] w fun e w' => e = .returned (.bool (decide (t.n ≤ 1))) ∧ Below w.heap.size w w' := by
  have HA := Lib.hid (fun o => (Below.refl w.heap.size w).alloc (Nat.le_refl _) o)
  unfold vv
  rw [hk]
  clear hk
  by_cases h : t.n ≤ 1
  · rw [decide_eq_true h]
    go_enter Tryz.func67, Tryz.ntmps67
    go_wp2_with fail
    go_ret
    exact ⟨by simp <;> omega, HA.out _⟩
  · rw [decide_eq_false h]
    go_enter Tryz.func67, Tryz.ntmps67
    go_wp2_with fail
    go_ret
    exact ⟨by simp <;> omega, HA.out _⟩
set_option maxRecDepth 100000 in
set_option maxHeartbeats 2000000 in
theorem wi_3 (t : VT) (C : Value) (w : World) (hk : t.k = 3) : Calls Tryz.prog 67 #[vv t C] w fun e w' => e = .returned (.bool (decide (t.n ≤ 19 ∨ 32 ≤ t.n ∧ t.n ≤ 255))) ∧ Below w.heap.size w w' := by
  have HA := Lib.hid (fun o => (Below.refl w.heap.size w).alloc (Nat.le_refl _) o)
  unfold vv
  rw [hk]
  clear hk
  by_cases h : t.n ≤ 19
  · rw [decide_eq_true (.inl h)]
    go_enter Tryz.func67, Tryz.ntmps67
    go_wp2_with fail
    go_ret
    exact ⟨by simp <;> omega, HA.out _⟩
  · by_cases h2 : 32 ≤ t.n
    · by_cases h3 : t.n ≤ 255
      · rw [decide_eq_true (.inr ⟨h2, h3⟩)]
        go_enter Tryz.func67, Tryz.ntmps67
        go_wp2_with fail
        go_ret
        exact ⟨by simp <;> omega, HA.out _⟩
      · rw [decide_eq_false (by omega)]
        go_enter Tryz.func67, Tryz.ntmps67
        go_wp2_with fail
        go_ret
        exact ⟨by simp <;> omega, HA.out _⟩
    · rw [decide_eq_false (by omega)]
      go_enter Tryz.func67, Tryz.ntmps67
      go_wp2_with fail
      go_ret
      exact ⟨by simp <;> omega, HA.out _⟩
set_option maxRecDepth 100000 in
set_option maxHeartbeats 2000000 in
theorem wi_5 (t : VT) (C : Value) (w : World) (hk : t.k = 5) : Calls Tryz.prog 67 #[vv t C] w fun e w' => e = .returned (.bool (big t.s)) ∧ Below w.heap.size w w' := by
  have HA := Lib.hid (fun o => (Below.refl w.heap.size w).alloc (Nat.le_refl _) o)
  have HG := Lib.hid (fun w => canBig_any t.s w)
  obtain ⟨G, hG⟩ : ∃ G, big t.s = G := ⟨_, rfl⟩
  rw [hG] at HG ⊢
  unfold vv
  rw [hk]
  clear hk hG
  go_enter Tryz.func67, Tryz.ntmps67
  go_wp2_with fail
  refine (HG.out _).mono ?_
  rintro e w2 ⟨rfl, rfl⟩
  go_wp2_with fail
  go_ret
  exact ⟨rfl, HA.out _⟩
set_option maxRecDepth 100000 in
set_option maxHeartbeats 2000000 in
theorem wi_67 (t : VT) (C : Value) (w : World) (hk : t.k = 6 ∨ t.k = 7) (hn : t.n < 18446744073709551616) : Calls Tryz.prog 67 #[vv t C] w fun e w' => e = .returned (.bool (decide (t.n < if t.k = 6 then 65536 else 4294967296))) ∧ Below w.heap.size w w' := by
  have HB := Lib.hid (fun o W (h : Below (w.alloc o).heap.size (w.alloc o) W) => ((Below.refl w.heap.size w).alloc (Nat.le_refl _) o).trans (h.mono (by simp)))
  rcases hk with hk | hk
  · rw [if_pos hk]
    have HG := Lib.hid (fun w => isFloat_any 16 t.n w hn)
    rw [paE_16] at HG
    obtain ⟨G, hG⟩ : ∃ G, decide (t.n < 65536) = G := ⟨_, rfl⟩
    rw [hG] at HG ⊢
    unfold vv
    rw [hk]
    clear hk hG hn
    go_enter Tryz.func67, Tryz.ntmps67
    go_wp2_with fail
    refine (HG.out _).mono ?_
    rintro e w2 ⟨rfl, hb⟩
    have hb2 := Lib.hid (HB.out _ _ hb)
    clear hb
    go_wp2_with fail
    go_ret
    exact ⟨rfl, hb2.out⟩
  · rw [if_neg (by rw [hk]; decide)]
    have HG := Lib.hid (fun w => isFloat_any 32 t.n w hn)
    rw [paE_32] at HG
    obtain ⟨G, hG⟩ : ∃ G, decide (t.n < 4294967296) = G := ⟨_, rfl⟩
    rw [hG] at HG ⊢
    unfold vv
    rw [hk]
    clear hk hG hn
    go_enter Tryz.func67, Tryz.ntmps67
    go_wp2_with fail
    refine (HG.out _).mono ?_
    rintro e w2 ⟨rfl, hb⟩
    have hb2 := Lib.hid (HB.out _ _ hb)
    clear hb
    go_wp2_with fail
    go_ret
    exact ⟨rfl, hb2.out⟩
set_option maxRecDepth 100000 in
set_option maxHeartbeats 2000000 in
theorem wi_10 (t : VT) (C : Value) (w : World) (hk : t.k = 10) (hS : t.s.size ≤ maxLen) : Calls Tryz.prog 67 #[vv t C] w fun e w' => e = .returned (.bool (decide (ckE (bt t.s) t.s.size = 0))) ∧ Below w.heap.size w w' := by
  have HB := Lib.hid (fun o W (h : Below (w.alloc o).heap.size (w.alloc o) W) => ((Below.refl w.heap.size w).alloc (Nat.le_refl _) o).trans (h.mono (by simp)))
  have HG := Lib.hid (fun w => check_any t.s w hS)
  obtain ⟨G, hG⟩ : ∃ G, ckE (bt t.s) t.s.size = G := ⟨_, rfl⟩
  rw [hG] at HG ⊢
  unfold vv
  rw [hk]
  clear hk hG hS
  go_enter Tryz.func67, Tryz.ntmps67
  go_wp2_with fail
  refine (HG.out _).mono ?_
  rintro e w2 ⟨rfl, hb⟩
  have hb2 := Lib.hid (HB.out _ _ hb)
  clear hb HG HB
  by_cases h : G = 0
  · subst h
    go_wp2_with fail
    go_ret
    exact ⟨rfl, hb2.out⟩
  · have q := ne_int8 (c := (G : Int)) (k := 0) (by omega)
    have HN := Lib.hid h
    clear h
    go_wp2_with fail
    go_ret
    exact ⟨by rw [decide_eq_false HN.out]; rfl, hb2.out⟩
set_option maxRecDepth 100000 in
set_option maxHeartbeats 2000000 in
theorem wi_12 (t : VT) (w : World) (hk : t.k = 12) (A : Option Addr) (m c : Nat) (hm : m ≤ 4611686018427387904) : Calls Tryz.prog 67 #[vv t (.slice A m c)] w fun e w' => e = .returned (.bool (decide (m % 2 = 0))) ∧ Below w.heap.size w w' := by
  have HA := Lib.hid (fun o => (Below.refl w.heap.size w).alloc (Nat.le_refl _) o)
  unfold vv
  rw [hk]
  clear hk
  by_cases h4 : m % 2 = 0
  · have q4 : (m : Int) % 2 = 0 := by omega
    rw [decide_eq_true h4]
    go_enter Tryz.func67, Tryz.ntmps67
    go_wp2_with fail
    all_goals
      go_ret
      exact ⟨by simp_all <;> omega, HA.out _⟩
  · have q4 : (m : Int) % 2 = 1 := by omega
    rw [decide_eq_false h4]
    go_enter Tryz.func67, Tryz.ntmps67
    go_wp2_with fail
    all_goals
      go_ret
      exact ⟨by simp_all <;> omega, HA.out _⟩
set_option maxRecDepth 100000 in
set_option maxHeartbeats 2000000 in
theorem wi_13a (t : VT) (w : World) (hk : t.k = 13) (A : Option Addr) (m c : Nat) (hm : m ≠ 1) : Calls Tryz.prog 67 #[vv t (.slice A m c)] w fun e w' => e = .returned (.bool false) ∧ Below w.heap.size w w' := by
  have HA := Lib.hid (fun o => (Below.refl w.heap.size w).alloc (Nat.le_refl _) o)
  unfold vv
  rw [hk]
  clear hk
  have q4 := ne_int8 (c := (m : Int)) (k := 1) (by omega)
  go_enter Tryz.func67, Tryz.ntmps67
  go_wp2_with fail
  go_quiet (fail)
  go_wp2_with fail
  go_ret
  exact ⟨rfl, drewN_kw (HA.out _) _⟩
set_option maxRecDepth 100000 in
set_option maxHeartbeats 2000000 in
theorem wi_13b (t : VT) (w : World) (hk : t.k = 13) (b off c : Nat) (x : VT) (D : Value) (hb : b < w.heap.size) (hr : Row w b off x D) : Calls Tryz.prog 67 #[vv t (.slice (some ⟨b, off, none⟩) 1 c)] w fun e w' => e = .returned (.bool (!(decide (t.n = 2 ∨ t.n = 3) && (decide (x.k = 9) && big x.s)))) ∧ Below w.heap.size w w' := by
  have HG := Lib.hid (fun w => tellsBig_any t.n x D w)
  obtain ⟨G, hG⟩ : ∃ G, (decide (t.n = 2 ∨ t.n = 3) && (decide (x.k = 9) && big x.s)) = G := ⟨_, rfl⟩
  rw [hG] at HG ⊢
  clear hG
  obtain ⟨W1, hW1⟩ : ∃ W1, w.alloc (.cells #[.int .i64 13, .bool t.g, .int .u64 (t.n : Int), .string t.s, .slice (some ⟨b, off, none⟩) 1 c] 25) = W1 := ⟨_, rfl⟩
  have hB1 : Below w.heap.size w W1 := by rw [← hW1]; exact (Below.refl w.heap.size w).alloc (Nat.le_refl _) _
  have hz1 : W1.heap.size = w.heap.size + 1 := by rw [← hW1]; simp
  have hR := hr.below hB1 hb
  have q0 := hR.k
  have q1 := hR.g
  have q2 := hR.n
  have q3 := hR.s
  have q4 := hR.l
  have b2 : W1.cell? ⟨w.heap.size, 2, none⟩ = some (.int .u64 (t.n : Int)) := by rw [← hW1]; simp
  have b4 : W1.cell? ⟨w.heap.size, 4, none⟩ = some (.slice (some ⟨b, off, none⟩) 1 c) := by rw [← hW1]; simp
  have HB := Lib.hid (fun W (h : Below W1.drew.heap.size W1.drew W) => hB1.trans (((Below.refl W1.heap.size W1).drew.trans h).mono (show w.heap.size ≤ W1.heap.size by omega)))
  have HW := Lib.hid hW1
  unfold vv at HG ⊢
  rw [hk]
  clear hk hR hr hb hW1 hz1 hB1
  go_enter Tryz.func67, Tryz.ntmps67
  go_wp2_with fail
  rw [HW.out]
  go_still_tail 11, (by kernel_rfl)
  change wpList _ _ _ _ _ W1.drew
  go_wp2_with fail
  refine (HG.out _).mono ?_
  rintro e w2 ⟨rfl, hb2⟩
  have B2 := Lib.hid (HB.out _ hb2)
  clear hb2 q0 q1 q2 q3 q4 b2 b4
  go_wp2_with fail
  cases G
  all_goals
    go_ret
    exact ⟨rfl, B2.out⟩
set_option maxRecDepth 100000 in
set_option maxHeartbeats 2000000 in
theorem wi_14 (t : VT) (C : Value) (w : World) (hk : t.k = 14) : Calls Tryz.prog 67 #[vv t C] w fun e w' => e = .returned (.bool (decide (t.n ≤ 255))) ∧ Below w.heap.size w w' := by
  have HA := Lib.hid (fun o => (Below.refl w.heap.size w).alloc (Nat.le_refl _) o)
  unfold vv
  rw [hk]
  clear hk
  by_cases h : t.n ≤ 255
  · rw [decide_eq_true h]
    go_enter Tryz.func67, Tryz.ntmps67
    go_wp2_with fail
    go_ret
    exact ⟨by simp <;> omega, HA.out _⟩
  · rw [decide_eq_false h]
    go_enter Tryz.func67, Tryz.ntmps67
    go_wp2_with fail
    go_ret
    exact ⟨by simp <;> omega, HA.out _⟩
set_option maxRecDepth 100000 in
set_option maxHeartbeats 2000000 in
theorem wi_no (t : VT) (C : Value) (w : World) (h1 : t.k ≠ 1) (h3 : t.k ≠ 3) (h5 : t.k ≠ 5) (h6 : t.k ≠ 6) (h7 : t.k ≠ 7) (h10 : t.k ≠ 10) (h12 : t.k ≠ 12) (h13 : t.k ≠ 13) (h14 : t.k ≠ 14) : Calls Tryz.prog 67 #[vv t C] w fun e w' => e = .returned (.bool true) ∧ Below w.heap.size w w' := by
  have HA := Lib.hid (fun o => (Below.refl w.heap.size w).alloc (Nat.le_refl _) o)
  obtain ⟨k, hk⟩ : ∃ k, t.k = k := ⟨_, rfl⟩
  unfold vv
  rw [hk] at h1 h3 h5 h6 h7 h10 h12 h13 h14 ⊢
  have q1 := ne_int8 h1
  have q3 := ne_int8 h3
  have q5 := ne_int8 h5
  have q6 := ne_int8 h6
  have q7 := ne_int8 h7
  have q10 := ne_int8 h10
  have q12 := ne_int8 h12
  have q13 := ne_int8 h13
  have q14 := ne_int8 h14
  clear hk h1 h3 h5 h6 h7 h10 h12 h13 h14
  go_enter Tryz.func67, Tryz.ntmps67
  go_wp2_with fail
  go_ret
  exact ⟨rfl, HA.out _⟩
theorem vwithin_any (t : VT) (C : Value) (w : World) (hS : t.s.size ≤ maxLen) (hn : t.n < 18446744073709551616) (hm : t.l.length ≤ 4611686018427387904) (hC : Lst w C t.l) :
    Calls Tryz.prog 67 #[vv t C] w fun e w' => e = .returned (.bool (wiB t)) ∧ Below w.heap.size w w' := by
  obtain ⟨A, c, rfl, hlc, hA⟩ := hC.out
  unfold wiB
  by_cases h1 : t.k = 1
  · rw [if_pos h1]; exact wi_1 t _ w h1
  rw [if_neg h1]
  by_cases h3 : t.k = 3
  · rw [if_pos h3]; exact wi_3 t _ w h3
  rw [if_neg h3]
  by_cases h5 : t.k = 5
  · rw [if_pos h5]; exact wi_5 t _ w h5
  rw [if_neg h5]
  by_cases h6 : t.k = 6
  · rw [if_pos h6]
    have := wi_67 t (.slice A t.l.length c) w (.inl h6) hn
    rw [if_pos h6] at this
    exact this
  rw [if_neg h6]
  by_cases h7 : t.k = 7
  · rw [if_pos h7]
    have := wi_67 t (.slice A t.l.length c) w (.inr h7) hn
    rw [if_neg h6] at this
    exact this
  rw [if_neg h7]
  by_cases h10 : t.k = 10
  · rw [if_pos h10]; exact wi_10 t _ w h10 hS
  rw [if_neg h10]
  by_cases h12 : t.k = 12
  · rw [if_pos h12]; exact wi_12 t w h12 A _ c hm
  rw [if_neg h12]
  by_cases h13 : t.k = 13
  · rw [if_pos h13]
    by_cases hl : t.l.length = 1
    · rw [decide_eq_true hl, Bool.true_and]
      rcases hA with ⟨_, h0, _⟩ | ⟨b, off, D, rfl, hb, hrow, _⟩
      · rw [h0] at hl; cases hl
      · obtain ⟨x, hx⟩ : ∃ x, t.l = [x] := List.length_eq_one_iff.1 hl
        have hr := hrow 0 (by omega)
        have e : t.l[0]'(by omega) = x := by simp [hx]
        rw [e] at hr
        have := wi_13b t w h13 b off c x (D 0) hb (by simpa using hr)
        rw [hl, hx]
        exact this
    · rw [decide_eq_false hl, Bool.false_and]
      exact wi_13a t w h13 A _ c hl
  rw [if_neg h13]
  by_cases h14 : t.k = 14
  · rw [if_pos h14]; exact wi_14 t _ w h14
  rw [if_neg h14]
  exact wi_no t _ w h1 h3 h5 h6 h7 h10 h12 h13 h14
end Go.Proofs.YtpcladdipgchbaaGreatDoor.nn
namespace Go.Proofs.YtpcladdipgchbaaGreatDoor.nn
open Go.RowKit

/-- is a value right but for those within it -/
def rg1 (t : VT) : Bool := oneB t && (!(lf t.k) || decide (t.l.length = 0))
theorem rg1_parts (t : VT) (a b c d : Bool) (h : 0 ≤ t.k ∧ t.k < 15 → a = fdG t.k.toNat ∧ b = fdN t.k.toNat ∧ c = fdS t.k.toNat ∧ d = fdL t.k.toNat) :
    (decide (0 ≤ t.k ∧ t.k < 15) && ((a || !t.g) && (b || nE t) && (c || sE t) && (d || decide (t.l.length = 0))) && wiB t) = rg1 t := by
  by_cases hk : 0 ≤ t.k ∧ t.k < 15
  · obtain ⟨rfl, rfl, rfl, rfl⟩ := h hk
    rw [decide_eq_true hk]
    have hcases : t.k = 0 ∨ t.k = 1 ∨ t.k = 2 ∨ t.k = 3 ∨ t.k = 4 ∨ t.k = 5 ∨ t.k = 6 ∨ t.k = 7 ∨ t.k = 8 ∨ t.k = 9 ∨ t.k = 10 ∨ t.k = 11 ∨ t.k = 12 ∨ t.k = 13 ∨ t.k = 14 := by omega
    obtain ⟨S, hS⟩ : ∃ S, sE t = S := ⟨_, rfl⟩
    obtain ⟨N, hN⟩ : ∃ N, nE t = N := ⟨_, rfl⟩
    obtain ⟨G, hG⟩ : ∃ G, t.g = G := ⟨_, rfl⟩
    obtain ⟨L, hL⟩ : ∃ L, decide (t.l.length = 0) = L := ⟨_, rfl⟩
    rcases hcases with h | h | h | h | h | h | h | h | h | h | h | h | h | h | h <;>
      simp [rg1, oneB, wiB, lf, fdG, fdN, fdS, fdL, h, hS, hN, hG] <;>
      cases S <;> cases N <;> cases G <;> cases L <;> simp [Bool.and_comm]
  · rw [decide_eq_false hk]
    have : oneB t = false := by
      unfold oneB
      rw [if_neg (by omega), if_neg (by omega), if_neg (by omega), if_neg (by omega), if_neg (by omega), if_neg (by omega), if_neg (by omega), if_neg (by omega), if_neg (by omega), if_neg (by omega), if_neg (by omega), if_neg (by omega), if_neg (by omega)]
    simp [rg1, this]
mutual
theorem rgt_rws : ∀ (zs : List Nat) (t : VT), rgt t = (rws zs t).all fun x => rg1 x.2
  | zs, .mk k g n s l => by
    have := rgtL_rws zs 0 l
    simp only [rgt, rws, List.all_cons, this, rg1]
    rfl
theorem rgtL_rws : ∀ (zs : List Nat) (i : Nat) (l : List VT), rgtL l = (rwsL zs i l).all fun x => rg1 x.2
  | _, _, [] => rfl
  | zs, i, t :: r => by
    have h1 := rgt_rws (zs ++ [i]) t
    have h2 := rgtL_rws zs (i + 1) r
    simp only [rgtL, rwsL, List.all_append, h1, h2]
end
mutual
theorem wf_rws : ∀ (zs : List Nat) (t : VT), wfT t → ∀ x ∈ rws zs t, wfT x.2
  | zs, .mk k g n s l, h, x, hx => by
    simp only [rws, List.mem_cons] at hx
    rcases hx with rfl | hx
    · exact h
    · exact wf_rwsL zs 0 l h.2.2.2 x hx
theorem wf_rwsL : ∀ (zs : List Nat) (i : Nat) (l : List VT), wfL l → ∀ x ∈ rwsL zs i l, wfT x.2
  | _, _, [], _, x, hx => by simp [rwsL] at hx
  | zs, i, t :: r, h, x, hx => by
    simp only [rwsL, List.mem_append] at hx
    rcases hx with hx | hx
    · exact wf_rws (zs ++ [i]) t h.1 x hx
    · exact wf_rwsL zs (i + 1) r h.2 x hx
end
mutual
theorem smx_rws : ∀ (zs : List Nat) (t : VT), ∀ x ∈ rws zs t, smx x.2 ≤ smx t ∧ cnt x.2 ≤ cnt t
  | zs, .mk k g n s l, x, hx => by
    simp only [rws, List.mem_cons] at hx
    rcases hx with rfl | hx
    · exact ⟨Nat.le_refl _, Nat.le_refl _⟩
    · have := smx_rwsL zs 0 l x hx
      simp only [smx, cnt]
      omega
theorem smx_rwsL : ∀ (zs : List Nat) (i : Nat) (l : List VT), ∀ x ∈ rwsL zs i l, smx x.2 ≤ smxL l ∧ cnt x.2 ≤ cntL l
  | _, _, [], x, hx => by simp [rwsL] at hx
  | zs, i, t :: r, x, hx => by
    simp only [rwsL, List.mem_append] at hx
    simp only [smxL, cntL]
    rcases hx with hx | hx
    · have := smx_rws (zs ++ [i]) t x hx; omega
    · have := smx_rwsL zs (i + 1) r x hx; omega
end
set_option maxRecDepth 100000 in
set_option maxHeartbeats 2000000 in
theorem isRight_any (t : VT) (C : Value) (w : World) (hS : smx t ≤ maxLen) (hw : wfT t) (hN : cnt t ≤ 4611686018427387904) (hC : Lst w C t.l) :
    Calls Tryz.prog 38 #[vv t C] w fun e w' => e = .returned (.bool (rg1 t)) ∧ Below w.heap.size w w' := by
  have hs := smx_mk t
  have hcn := cnt_mk t
  have hll := len_cntL t.l
  have hwf := (wfT_mk t).1 hw
  have HW := Lib.hid (fun W (h : Below w.heap.size w W) => vwithin_any t C W (by omega) hwf.2.2.1 (by omega) (hC.keep h (Nat.le_refl _)))
  have HF := Lib.hid (fun W => fields_any t.k W)
  have HP := Lib.hid (fun a b c d h => rg1_parts t a b c d h)
  obtain ⟨A, cc, rfl, _, _⟩ := hC.out
  have HV := Lib.hid (fun a b c d W => cover_any a b c d t A t.l.length cc W (by omega))
  have HB0 := Lib.hid (Box.new w t (.slice A t.l.length cc) 25)
  obtain ⟨R, hR⟩ : ∃ R, rg1 t = R := ⟨_, rfl⟩
  obtain ⟨I, hI⟩ : ∃ I, wiB t = I := ⟨_, rfl⟩
  obtain ⟨m, hm⟩ : ∃ m, t.l.length = m := ⟨_, rfl⟩
  rw [hR, hI] at HP
  rw [hI] at HW
  rw [hm] at HV HB0 HP HW
  rw [hR, hm]
  unfold FdAns at HF
  unfold vv at HV HW ⊢
  clear hs hcn hll hwf hC hw hS hN hR hI hm
  go_enter Tryz.func38, Tryz.ntmps38
  go_wp2_with fail
  refine (HF.out _).mono ?_
  rintro e w1 ⟨a, b, c, d, o, rfl, hb1, hf, ho⟩
  have B1 := Lib.hid (HB0.out.on hb1)
  have HF2 := Lib.hid (HP.out a b c d hf)
  rw [← ho] at HF2
  have r0 := B1.out.r.k
  have r1 := B1.out.r.g
  have r2 := B1.out.r.n
  have r3 := B1.out.r.s
  have r4 := B1.out.r.l
  have B2 : Hid (∀ o', Box w t (.slice A m cc) (w1.alloc o')) := Lib.hid fun o' => B1.out.on ((Below.refl _ _).alloc (Nat.le_refl _) o')
  clear hb1 hf ho HF HP HB0
  cases o
  · go_wp2_with fail
    go_ret
    exact ⟨by rw [← HF2.out]; rfl, (B2.out _).b⟩
  · have HV2 := Lib.hid (HV.out a b c d)
    obtain ⟨V, hV⟩ : ∃ V, ((a || !t.g) && (b || nE t) && (c || sE t) && (d || decide (m = 0))) = V := ⟨_, rfl⟩
    rw [hV] at HV2 HF2
    have hq := (B2.out (.cells #[.bool a, .bool b, .bool c, .bool d] 98)).r
    have s0 := hq.k
    have s1 := hq.g
    have s2 := hq.n
    have s3 := hq.s
    have s4 := hq.l
    clear HV hV hq
    go_wp2_with fail
    refine (HV2.out _).mono ?_
    rintro e w2 ⟨rfl, hb2⟩
    have B3 := Lib.hid ((B2.out _).on hb2)
    clear hb2 r0 r1 r2 r3 r4 s0 s1 s2 s3 s4 HV2
    have r0 := B3.out.r.k
    have r1 := B3.out.r.g
    have r2 := B3.out.r.n
    have r3 := B3.out.r.s
    have r4 := B3.out.r.l
    cases V
    · go_wp2_with fail
      go_ret
      exact ⟨by rw [← HF2.out]; rfl, B3.out.b⟩
    · go_wp2_with fail
      refine (HW.out _ B3.out.b).mono ?_
      rintro e w3 ⟨rfl, hb3⟩
      have B4 := Lib.hid (B3.out.on hb3)
      clear hb3 r0 r1 r2 r3 r4
      go_wp2_with fail
      go_ret
      exact ⟨by rw [← HF2.out]; rfl, B4.out.b⟩
end Go.Proofs.YtpcladdipgchbaaGreatDoor.nn
namespace Go.Proofs.YtpcladdipgchbaaGreatDoor.nn
open Go.RowKit

set_option maxRecDepth 100000 in
theorem vleaf_any (t : VT) (C : Value) (w : World) : Calls Tryz.prog 42 #[vv t C] w fun e w' => e = .returned (.bool (lf t.k)) ∧ Below w.heap.size w w' := by
  have HB0 := Lib.hid (Box.new w t C 25)
  unfold lf vv
  obtain ⟨k, hk⟩ : ∃ k, t.k = k := ⟨_, rfl⟩
  rw [hk] at HB0 ⊢
  clear hk
  by_cases h1 : k = 11
  · subst h1
    go_enter Tryz.func42, Tryz.ntmps42
    go_wp2_with fail
    go_ret
    exact ⟨rfl, HB0.out.b⟩
  · by_cases h2 : k = 12
    · subst h2
      go_enter Tryz.func42, Tryz.ntmps42
      go_wp2_with fail
      go_ret
      exact ⟨rfl, HB0.out.b⟩
    · obtain ⟨q1, q1'⟩ := neInt h1
      obtain ⟨q2, q2'⟩ := neInt h2
      by_cases h3 : k = 13
      · subst h3
        go_enter Tryz.func42, Tryz.ntmps42
        go_wp2_with fail
        go_ret
        exact ⟨rfl, HB0.out.b⟩
      · obtain ⟨q3, q3'⟩ := neInt h3
        rw [decide_eq_true (And.intro h1 (And.intro h2 h3))]
        clear h1 h2 h3
        go_enter Tryz.func42, Tryz.ntmps42
        go_wp2_with fail
        go_ret
        exact ⟨rfl, HB0.out.b⟩
set_option maxRecDepth 100000 in
set_option maxHeartbeats 1000000 in
theorem vdep_any (N : Nat) : ∀ (t : VT) (C : Value) (w : World), cnt t ≤ N → N ≤ 4611686018427387904 → Lst w C t.l →
    Calls Tryz.prog 18 #[vv t C] w fun e w' => e = .returned (.int .i64 (dep t : Int)) ∧ Below w.heap.size w w' := by
  induction N with
  | zero => intro t C w h _ _; have := cnt_mk t; omega
  | succ N ih =>
    intro t C w hN hM hC
    have hdm := dep_mk t
    have hkk := @vleaf_any t C
    by_cases h5 : t.k = 5
    · rw [if_pos h5] at hdm
      have HB0 := Lib.hid (Box.new w t C 25)
      have HT := Lib.hid hdm
      rw [hdm]
      unfold vv
      rw [h5] at HB0 ⊢
      clear hdm hkk h5
      go_enter Tryz.func18, Tryz.ntmps18
      go_wp2_with fail
      go_ret
      exact ⟨rfl, HB0.out.b⟩
    · rw [if_neg h5] at hdm
      obtain ⟨q5, _⟩ := neInt h5
      by_cases hlf : lf t.k = true
      · rw [if_pos hlf] at hdm
        rw [hlf] at hkk
        have HB0 := Lib.hid (Box.new w t C 25)
        have HK := Lib.hid hkk
        rw [hdm]
        unfold vv at HK ⊢
        clear hdm hkk h5 hlf ih
        go_enter Tryz.func18, Tryz.ntmps18
        go_wp2_with fail
        refine (HK.out _).mono ?_
        rintro e w2 ⟨rfl, hb2⟩
        have hk2 := Lib.hid (HB0.out.on hb2)
        clear hb2
        go_wp2_with fail
        go_ret
        exact ⟨rfl, hk2.out.b⟩
      · have hlf2 : lf t.k = false := by simpa using hlf
        rw [if_neg hlf] at hdm
        rw [hlf2] at hkk
        have HK := Lib.hid hkk
        have HC := Lib.hid hC
        obtain ⟨A, c, rfl, hlc, hA⟩ := hC.out
        have hcm := cnt_mk t
        obtain ⟨l, hl⟩ : ∃ l, t.l = l := ⟨_, rfl⟩
        rw [hl] at hlc hA hcm HC hdm HK ⊢
        have hll := len_cntL l
        have hdl := depL_le N l (by omega)
        have HB0 := Lib.hid (Box.new w t (.slice A l.length c) 25)
        have HT := Lib.hid hdm
        unfold vv at HK ⊢
        clear hkk hlf hlf2 hdm h5
        go_enter Tryz.func18, Tryz.ntmps18
        go_wp2_with fail
        refine (HK.out _).mono ?_
        rintro e w2 ⟨rfl, hb2⟩
        have hk2 := Lib.hid (HB0.out.on hb2)
        clear hb2 q5
        have h4 : w2.cell? ⟨w.heap.size, 4, none⟩ = some (.slice A l.length c) := hk2.out.r.l
        go_wp2_with fail
        go_loopw [3, 16] (fun s3 s4 wr => ∃ i m : Nat, i ≤ l.length ∧ m ≤ N ∧ s3 = .int .i64 (m : Int) ∧ s4 = .int .i64 (i : Int) ∧ Hid (m = depL (l.take i)) ∧ Hid (Box w t (.slice A l.length c) wr)) (fun _ s4 _ => l.length - (intOf s4).toNat)
        case atStart => exact ⟨0, 0, Nat.zero_le _, by omega, rfl, rfl, Lib.hid rfl, hk2⟩
        case round =>
          clear h4
          obtain ⟨i, m, hi, hmN, rfl, rfl, hm, hk⟩ := hrel
          by_cases hlt : i < l.length
          · rcases hA with ⟨_, h0, _⟩ | ⟨b, off, D, rfl, hb, hrow, hkid⟩
            · rw [h0] at hlt; exact absurd hlt (by simp)
            · have hr := hrow i hlt
              have hkl := hkid i hlt
              obtain ⟨A', c', hC', _⟩ := hkl.out
              obtain ⟨n', hn'⟩ : ∃ n', l[i].l.length = n' := ⟨_, rfl⟩
              rw [hn'] at hC'
              obtain ⟨t', ht'⟩ : ∃ t', l[i] = t' := ⟨_, rfl⟩
              rw [ht', hC'] at hr hkl
              have hr2 := hr.below hk.out.b hb
              have r0 := hr2.k
              have r1 := hr2.g
              have r2 := hr2.n
              have r3 := hr2.s
              have r4 := hr2.l
              have hcn := cnt_at hlt
              rw [ht'] at hcn
              have hsum := depL_take_succ hlt
              rw [ht', ← hm.out] at hsum
              have hle := depL_le N (l.take (i + 1)) (Nat.le_trans (cntL_take_le l (i + 1)) (by omega))
              rw [hsum] at hle
              have HI := Lib.hid (fun W (hW : Below wr.heap.size wr W) => ih t' (.slice A' n' c') W (by omega) (by omega) (hkl.keep (hk.out.b.trans (hW.mono (Nat.le_of_lt hk.out.z))) (Nat.le_refl _)))
              obtain ⟨k, hk'⟩ : ∃ k, dep t' = k := ⟨_, rfl⟩
              rw [hk'] at HI hsum hle
              have emax : max (m : Int) (k : Int) = ((max m k : Nat) : Int) := by omega
              obtain ⟨x, hx⟩ : ∃ x, max m k = x := ⟨_, rfl⟩
              rw [hx] at emax hsum hle
              have hm2 : Hid (x = depL (l.take (i + 1))) := Lib.hid hsum.symm
              have hkb : k ≤ x := by omega
              have HAL : Hid (∀ o, Below wr.heap.size wr (wr.alloc o)) := Lib.hid fun o => (Below.refl _ _).alloc (Nat.le_refl _) o
              unfold vv at HI
              clear hr hr2 hkl hrow hkid ht' hC' hn' hcn hsum hk' ih hx
              go_wp2_with fail
              refine (HI.out _ (HAL.out _)).mono ?_
              rintro e w3 ⟨rfl, hb2⟩
              have hk2 := Lib.hid (hk.out.on ((HAL.out _).trans (hb2.mono (HAL.out _).size)))
              clear hb2 r0 r1 r2 r3 r4
              go_wp2_with fail
              go_roundw
              case rel => exact ⟨i + 1, x, hlt, hle, by go_num, by go_num, hm2, hk2⟩
              case measure => simp [intOf]; omega
          · obtain rfl : i = l.length := by omega
            have hmt : (m : Int) + 1 = (dep t : Int) := by rw [HT.out, hm.out, List.take_length]; simp
            have HT := Lib.hid hmt
            clear hmt
            go_wp2_with fail
            go_ret
            exact ⟨by rw [← HT.out]; simp [Int.add_comm], hk.out.b⟩
theorem vdepth_any (t : VT) (C : Value) (w : World) (hN : cnt t ≤ 4611686018427387904) (hC : Lst w C t.l) :
    Calls Tryz.prog 18 #[vv t C] w fun e w' => e = .returned (.int .i64 (dep t : Int)) ∧ Below w.heap.size w w' := vdep_any _ t C w hN (Nat.le_refl _) hC
end Go.Proofs.YtpcladdipgchbaaGreatDoor.nn
namespace Go.Proofs.YtpcladdipgchbaaGreatDoor.nn
open Go.RowKit

attribute [local go_sem] Oper.semAt_some
theorem Mv.alloc0 (E O : Nat → Prop) (W : World) (o : Obj) : Mv E O W O (W.alloc o) :=
  ⟨rfl, rfl, rfl, by simp, fun _ h => h, fun _ h => .inl h, fun b hb _ _ => Below.heap_alloc _ _ _ hb⟩
/-- the five cells of a value in a block -/
def Vb (W : World) (B : Nat) (t : VT) (C : Value) : Prop := W.heap[B]? = some (.cells #[.int .i64 t.k, .bool t.g, .int .u64 (t.n : Int), .string t.s, C] 25 (0, 0))
theorem Vb.new (W : World) (t : VT) (C : Value) : Vb (W.alloc (.cells #[.int .i64 t.k, .bool t.g, .int .u64 (t.n : Int), .string t.s, C] 25)) W.heap.size t C := World.alloc_heap_new W _
theorem Vb.row {W : World} {B : Nat} {t : VT} {C : Value} (h : Vb W B t C) : Row W B 0 t C :=
  ⟨cell_of_row W B 0 _ _ _ h, cell_of_row W B 1 _ _ _ h, cell_of_row W B 2 _ _ _ h, cell_of_row W B 3 _ _ _ h, cell_of_row W B 4 _ _ _ h⟩
/-- between two rounds of Check's loop -/
structure CI (w : World) (t : VT) (C : Value) (pre : List (List Nat × VT)) (W : World) : Prop where
  n : Boxed W (w.heap.size + 2) 3 (.int .i64 (pre.length : Int))
  r : Boxed W (w.heap.size + 3) 4 (.bool (pre.all fun x => rg1 x.2))
  e : Boxed W (w.heap.size + 1) 29 (.int .i64 0)
  v : Vb W w.heap.size t C
  m : pre.length ≤ 65536
  b : Below w.heap.size w W
structure CX (w : World) (c : Code) (pre : List (List Nat × VT)) (W : World) : Prop where
  c : c = .ret
  e : Boxed W (w.heap.size + 1) 29 (.int .i64 2)
  m : 65536 < pre.length
  b : Below w.heap.size w W
theorem CI.mv {w : World} {t : VT} {C : Value} {D : Nat} {pre : List (List Nat × VT)} {O O' : Nat → Prop} {W W' : World} (h : CI w t C pre W) (hD : D = w.heap.size + 5) (hb : Wb (D + 2) O W) (hm : Mv (EE D) O W O' W') : CI w t C pre W' :=
  ⟨mv_box h.n hm hb (by omega), mv_box h.r hm hb (by omega), mv_box h.e hm hb (by omega), mv_box h.v hm hb (by omega), h.m, mv_below2 h.b hm hb (by omega) (Nat.le_refl _)⟩
theorem CX.mv {w : World} {D : Nat} {c : Code} {pre : List (List Nat × VT)} {O O' : Nat → Prop} {W W' : World} (h : CX w c pre W) (hD : D = w.heap.size + 5) (hb : Wb (D + 2) O W) (hm : Mv (EE D) O W O' W') : CX w c pre W' :=
  ⟨h.c, mv_box h.e hm hb (by omega), h.m, mv_below2 h.b hm hb (by omega) (Nat.le_refl _)⟩
theorem check_end (t : VT) (w : World) (D n : Nat) (W : World) (a : Act) (g1 : Boxed W (w.heap.size + 1) 29 (.int .i64 (n : Int))) (g2 : W.heap[D]? = some (.deferred (some []))) (hD : D = w.heap.size + 5) (g3 : Below w.heap.size w W)
    (h1 : Hid (chk t = n)) (h2 : a.defers = [{ target := .collected D, args := #[] }]) (h3 : a.tmps[2]? = some (.pointer (some ⟨w.heap.size + 1, 0, none⟩))) :
    bodyPostM Fence.wide 3 Tryz.prog Tryz.f15 (fun e w' => e = .returned (.int .i64 (chk t : Int)) ∧ Below w.heap.size w w') .ret a W := by
  obtain ⟨tmps, defers⟩ := a
  simp only at h2 h3
  subst h2
  refine ⟨by simp, .inl ⟨_, _, rfl, run_takeDeferred g2, ?_⟩⟩
  have g4 : (W.putObj D (.deferred none)).cell? ⟨w.heap.size + 1, 0, none⟩ = some (.int .i64 (n : Int)) :=
    (World.cell?_of_block (World.putObj_heap_other (by show w.heap.size + 1 ≠ D; omega))).trans (Boxed.cell g1)
  refine ⟨.int .i64 (n : Int), ?_, by rw [h1.out], g3.trans (belowK_b (w := w) (Nat.le_refl _) _ _ _ _ (by omega) g2 rfl rfl)⟩
  have h5 : tmps[2]?.getD undef = .pointer (some ⟨w.heap.size + 1, 0, none⟩) := by rw [h3]; rfl
  simp [results, Tryz.results15, go_sem, h5, g4]
set_option maxRecDepth 100000 in
set_option maxHeartbeats 4000000 in
theorem vcheck_any (t : VT) (C : Value) (w : World) (hN : cnt t ≤ 1099511627776) (hS : smx t ≤ maxLen) (hC : Lst w C t.l) (hwf : wfT t) :
    Calls Tryz.prog 15 #[vv t C] w fun e w' => e = .returned (.int .i64 (chk t : Int)) ∧ Below w.heap.size w w' := by
  have HA := Lib.hid (fun W => all_any t C W)
  obtain ⟨W1, hW1⟩ : ∃ W1, w.alloc (.cells #[.int .i64 t.k, .bool t.g, .int .u64 (t.n : Int), .string t.s, C] 25) = W1 := ⟨_, rfl⟩
  obtain ⟨W2, hW2⟩ : ∃ W2, W1.alloc (.cells #[.int .i64 0] 29) = W2 := ⟨_, rfl⟩
  obtain ⟨W3, hW3⟩ : ∃ W3, W2.alloc (.cells #[.int .i64 0] 3) = W3 := ⟨_, rfl⟩
  obtain ⟨W4, hW4⟩ : ∃ W4, W3.alloc (.cells #[.bool true] 4) = W4 := ⟨_, rfl⟩
  obtain ⟨W5, hW5⟩ : ∃ W5, W4.alloc (.cells #[.int .i64 t.k, .bool t.g, .int .u64 (t.n : Int), .string t.s, C] 25) = W5 := ⟨_, rfl⟩
  have z1 : W1.heap.size = w.heap.size + 1 := by rw [← hW1]; simp
  have z2 : W2.heap.size = w.heap.size + 2 := by rw [← hW2]; simp [z1]
  have z3 : W3.heap.size = w.heap.size + 3 := by rw [← hW3]; simp [z2]
  have z4 : W4.heap.size = w.heap.size + 4 := by rw [← hW4]; simp [z3]
  have z5 : W5.heap.size = w.heap.size + 5 := by rw [← hW5]; simp [z4]
  have B1 : Below w.heap.size w W1 := by rw [← hW1]; exact (Below.refl _ _).alloc (Nat.le_refl _) _
  have B2 : Below W1.heap.size W1 W2 := by rw [← hW2]; exact (Below.refl _ _).alloc (Nat.le_refl _) _
  have B3 : Below W2.heap.size W2 W3 := by rw [← hW3]; exact (Below.refl _ _).alloc (Nat.le_refl _) _
  have B4 : Below W3.heap.size W3 W4 := by rw [← hW4]; exact (Below.refl _ _).alloc (Nat.le_refl _) _
  have B5 : Below W4.heap.size W4 W5 := by rw [← hW5]; exact (Below.refl _ _).alloc (Nat.le_refl _) _
  have hb5 : Below w.heap.size w W5 := B1.trans ((B2.mono (by omega)).trans ((B3.mono (by omega)).trans ((B4.mono (by omega)).trans (B5.mono (by omega)))))
  have V1 : Vb W1 w.heap.size t C := by rw [← hW1]; exact Vb.new w t C
  have V5 : Vb W5 w.heap.size t C := (B5.block _ (by omega)).trans ((B4.block _ (by omega)).trans ((B3.block _ (by omega)).trans ((B2.block _ (by omega)).trans V1)))
  have E2 : Boxed W2 (w.heap.size + 1) 29 (.int .i64 0) := by rw [← hW2, ← z1]; exact Boxed.new W1 _ _
  have E5 : Boxed W5 (w.heap.size + 1) 29 (.int .i64 0) := (B5.block _ (by omega)).trans ((B4.block _ (by omega)).trans ((B3.block _ (by omega)).trans E2))
  have N3 : Boxed W3 (w.heap.size + 2) 3 (.int .i64 0) := by rw [← hW3, ← z2]; exact Boxed.new W2 _ _
  have N5 : Boxed W5 (w.heap.size + 2) 3 (.int .i64 0) := (B5.block _ (by omega)).trans ((B4.block _ (by omega)).trans N3)
  have R4 : Boxed W4 (w.heap.size + 3) 4 (.bool true) := by rw [← hW4, ← z3]; exact Boxed.new W3 _ _
  have R5 : Boxed W5 (w.heap.size + 3) 4 (.bool true) := (B5.block _ (by omega)).trans R4
  have Q5 : Row W5 (w.heap.size + 4) 0 t C := by rw [← hW5, ← z4]; exact (Vb.new W4 t C).row
  have hG := gives_all w t C W5 (w.heap.size + 4) (by omega) Q5 hb5 hC (by omega)
  have hI0 : CI w t C [] W5 := ⟨N5, R5, E5, V5, Nat.zero_le _, hb5⟩
  have HG := Lib.hid (And.intro hG (And.intro hI0 z5))
  have F1 := Lib.hid hW1
  have F2 := Lib.hid hW2
  have F3 := Lib.hid hW3
  have F4 := Lib.hid hW4
  have F5 := Lib.hid hW5
  have HC := Lib.hid hC
  have HWF := Lib.hid (And.intro hwf hS)
  clear hG N3 N5 R4 R5 E2 E5 V1 V5 Q5 B1 B2 B3 B4 B5 hb5 hC hW1 hW2 hW3 hW4 hW5 z1 z2 z3 z4 z5 hI0 hwf hS
  unfold vv at HA ⊢
  refine callsIn_wide.1 (callsIn_of_wp_marks (n := 3) Tryz.func15 rfl trivial (wpIn_wide.2 ?_) rfl)
  simp only [Tryz.ntmps15, List.size_toArray, List.length_cons, List.length_nil, Nat.reduceAdd, Nat.reduceSub, Array.replicate_succ, Array.replicate_zero, List.push_toArray, List.append_toArray, List.nil_append, List.cons_append]
  go_wp2_with fail
  refine (HA.out _).mono ?_
  rintro e w' ⟨rfl, rfl⟩
  go_wp2_with fail
  rw [F1.out, F2.out, F3.out, F4.out, F5.out]
  obtain ⟨hG, hI0, z5⟩ := HG.out
  clear HA F1 F2 F3 F4 F5 HG
  refine (wpIn_wide (n := 3)).1 ?_
  refine rf_law (gf := 63) (lb := #[.pointer (some ⟨w.heap.size + 4, 0, none⟩)]) rfl (enters_of Tryz.func63 (by kernel_rfl) rfl) hG (by omega) (fun _ _ _ _ h => args2 h)
    (fun pre _ W => CI w t C pre W) (CX w)
    (fun pre O W O' W' h hb hm => h.mv z5 hb hm) (fun c pre W O' W' h hm => h.mv z5 (Wb.no _ _) hm) hI0
    (fun x _ a' W => ∃ v A' n' c' Bx, a' = { tmps := #[.agg #[.int .i64 t.k, .bool t.g, .int .u64 (t.n : Int), .string t.s, C], .pointer (some ⟨w.heap.size, 0, none⟩), .pointer (some ⟨w.heap.size + 1, 0, none⟩), .pointer (some ⟨w.heap.size + 2, 0, none⟩), .pointer (some ⟨w.heap.size + 3, 0, none⟩), undef, .pointer (some ⟨Bx, 0, none⟩), .agg #[.int .i64 t.k, .bool t.g, .int .u64 (t.n : Int), .string t.s, C], .func (.func 63) #[] #[.pointer (some ⟨w.heap.size + 4, 0, none⟩)], v, vv x.2 (.slice A' n' c'), undef, undef, undef, undef, undef, undef, undef, undef, undef, undef, undef, undef, undef, undef, undef, undef], defers := [] } ∧ W5.heap.size + 2 ≤ Bx ∧ Vb W Bx x.2 (.slice A' n' c') ∧ Lst w (.slice A' n' c') x.2.l)
    (fun x O a' W o h hb => by
      obtain ⟨v, A', n', c', Bx, h1, h2, h3, h4⟩ := h
      exact ⟨v, A', n', c', Bx, h1, h2, (World.putObj_heap_other (by omega)).trans h3, h4⟩) ?assign ?body ?done ?stop
  case assign =>
    intro l pre x O W args K hI hb hs ha hK
    obtain ⟨v, C', rfl, hp, ho, hl⟩ := ha
    obtain ⟨A', c', hC', _⟩ := hl.out
    obtain ⟨n', hn'⟩ : ∃ n', x.2.l.length = n' := ⟨_, rfl⟩
    rw [hn'] at hC'
    subst hC'
    obtain ⟨W', hW'⟩ : ∃ W', W.alloc (.cells #[.int .i64 x.2.k, .bool x.2.g, .int .u64 (x.2.n : Int), .string x.2.s, .slice A' n' c'] 25) = W' := ⟨_, rfl⟩
    have hV : Vb W' W.heap.size x.2 (.slice A' n' c') := by rw [← hW']; exact Vb.new W x.2 _
    have hB : Below W.heap.size W W' := by rw [← hW']; exact (Below.refl _ _).alloc (Nat.le_refl _) _
    have hm : Mv (EE W5.heap.size) O W O W' := by rw [← hW']; exact Mv.alloc0 _ _ _ _
    have := hK _ W' ⟨hB.mono (by omega), fun b h => hB.block b (hb b h).2⟩ (hB.block _ (by omega)) (hB.block _ (by omega)) (hI.mv z5 hb hm) ⟨v, A', n', c', W.heap.size, rfl, hs, hV, hl⟩
    have HT := Lib.hid this
    have HW' := Lib.hid hW'
    clear hK hI hb hs hp ho hG hI0 z5 this hV hB hm hl hn' hW'
    unfold vv
    gi_wp2
    have HT2 := HT.out
    rw [← HW'.out] at HT2
    simpa [vv] using HT2
  case body =>
    rintro l pre x O a' W hI hb hs ⟨v, A', n', c', Bx, rfl, hBx, hV, hl⟩ ⟨q, hq⟩
    have hmem : x ∈ rws [] t := by rw [hq]; simp
    have hsm := smx_rws [] t x hmem
    have hwx := wf_rws [] t HWF.out.1 x hmem
    have HR := Lib.hid (fun W' (h : Below w.heap.size w W') => isRight_any x.2 (.slice A' n' c') W' (Nat.le_trans hsm.1 HWF.out.2) hwx (by omega) (hl.keep h (Nat.le_refl _)))
    obtain ⟨I, hIx⟩ : ∃ I, rg1 x.2 = I := ⟨_, rfl⟩
    rw [hIx] at HR
    obtain ⟨m, hm⟩ : ∃ m, pre.length = m := ⟨_, rfl⟩
    obtain ⟨R, hR⟩ : ∃ R, pre.all (fun x => rg1 x.2) = R := ⟨_, rfl⟩
    have hn := hI.n
    have hr := hI.r
    rw [hm] at hn
    rw [hR] at hr
    have hle : m ≤ 65536 := by rw [← hm]; exact hI.m
    have c2 := hn.cell
    have f2 := hn.frozen
    have f1 := hI.e.frozen
    have c1 := hI.e.cell
    have c3 := hr.cell
    have f3 := hr.frozen
    have HK := Lib.hid (And.intro hm (And.intro hR (And.intro hIx (And.intro hI (And.intro hb (And.intro hs (And.intro hBx (And.intro hV z5))))))))
    have hne1 : ¬ Bx = w.heap.size + 2 := by omega
    have x0 : ∀ u, (W.setCell ⟨w.heap.size + 2, 0, none⟩ u).cell? ⟨Bx, 0, none⟩ = some (.int .i64 x.2.k) := fun u => (World.cell?_of_block (Below.heap_setCell _ _ _ _ hne1)).trans hV.row.k
    have x1 : ∀ u, (W.setCell ⟨w.heap.size + 2, 0, none⟩ u).cell? ⟨Bx, 1, none⟩ = some (.bool x.2.g) := fun u => (World.cell?_of_block (Below.heap_setCell _ _ _ _ hne1)).trans hV.row.g
    have x2 : ∀ u, (W.setCell ⟨w.heap.size + 2, 0, none⟩ u).cell? ⟨Bx, 2, none⟩ = some (.int .u64 (x.2.n : Int)) := fun u => (World.cell?_of_block (Below.heap_setCell _ _ _ _ hne1)).trans hV.row.n
    have x3 : ∀ u, (W.setCell ⟨w.heap.size + 2, 0, none⟩ u).cell? ⟨Bx, 3, none⟩ = some (.string x.2.s) := fun u => (World.cell?_of_block (Below.heap_setCell _ _ _ _ hne1)).trans hV.row.s
    have x4 : ∀ u, (W.setCell ⟨w.heap.size + 2, 0, none⟩ u).cell? ⟨Bx, 4, none⟩ = some (.slice A' n' c') := fun u => (World.cell?_of_block (Below.heap_setCell _ _ _ _ hne1)).trans hV.row.l
    clear hm hR hIx hI hb hs hBx hV z5 hsm hwx hmem hq hG hI0 hl hn hr hne1
    unfold vv at HR ⊢
    by_cases hbr : m = 65536
    · subst hbr
      gi_wp2
      obtain ⟨hm, hR, hIx, hI, hb, hs, hBx, hV, z5⟩ := HK.out
      have k1 := kr_set (n₀ := w.heap.size) (.int .i64 65537) hb (B := w.heap.size + 2) (by omega) (by omega)
      have hb1 := hb.keep k1.1.b.size
      have k2 := kr_set (n₀ := w.heap.size) (.int .i64 2) hb1 (B := w.heap.size + 1) (by omega) (by omega)
      refine ⟨⟨k2.2.1.trans k1.2.1, k2.2.2.trans k1.2.2⟩, rfl, ?_, by simp [hm], hI.b.trans (k1.1.b.trans k2.1.b)⟩
      exact Boxed.set _ (hI.e.other (by omega) _)
    · have hgt : (m : Int) + 1 ≤ 65536 := by omega
      have hz0 : 0 ≤ (m : Int) := by omega
      obtain ⟨z, hz⟩ : ∃ z : Int, (m : Int) = z := ⟨_, rfl⟩
      have HZ := Lib.hid hz
      rw [hz] at c2 hgt hz0
      clear hz hbr hle
      cases R
      · gi_wp2
        refine ⟨trivial, ?_⟩
        gi_wp2
        obtain ⟨hm, hR, hIx, hI, hb, hs, hBx, hV, z5⟩ := HK.out
        have k1 := kr_set (n₀ := w.heap.size) (.int .i64 (z + 1)) hb (B := w.heap.size + 2) (by omega) (by omega)
        have hb1 := hb.keep k1.1.b.size
        have k2 := kr_set (n₀ := w.heap.size) (.bool false) hb1 (B := w.heap.size + 3) (by omega) (by omega)
        refine ⟨⟨k1.1.trans k2.1, k2.2.1.trans k1.2.1, k2.2.2.trans k1.2.2⟩, ?_⟩
        refine ⟨?_, ?_, ?_, ?_, by rw [List.length_append, hm]; have := HZ.out; simp; omega, hI.b.trans (k1.1.b.trans k2.1.b)⟩
        · have := Boxed.set (.int .i64 (z + 1)) hI.n
          have e : (((pre ++ [x]).length : Nat) : Int) = z + 1 := by rw [List.length_append, hm, ← HZ.out]; rfl
          rw [e]
          exact this.other (by omega) _
        · have e : ((pre ++ [x]).all fun x => rg1 x.2) = false := by rw [List.all_append, hR]; rfl
          rw [e]
          exact Boxed.set _ (hI.r.other (by omega) _)
        · exact (hI.e.other (by omega) _).other (by omega) _
        · exact (Below.heap_setCell _ _ _ _ (by show w.heap.size ≠ w.heap.size + 3; omega)).trans ((Below.heap_setCell _ _ _ _ (by show w.heap.size ≠ w.heap.size + 2; omega)).trans hI.v)
      · have HB1 : Hid (Below w.heap.size w (W.setCell ⟨w.heap.size + 2, 0, none⟩ (.int .i64 (z + 1)))) := Lib.hid (HK.out.2.2.2.1.b.setCell (p := ⟨w.heap.size + 2, 0, none⟩) (by show w.heap.size ≤ w.heap.size + 2; omega) _)
        gi_wp2
        refine ⟨trivial, (CallsIn.inRound l (callsIn_wide.2 (HR.out _ HB1.out))).mono ?_⟩
        rintro e w3 ⟨rfl, hb3⟩
        have HC3 : Hid (∀ b, b < W.heap.size → b ≠ w.heap.size + 2 → w3.heap[b]? = W.heap[b]?) := Lib.hid fun b hb hne => by
          rw [hb3.block b (by simpa [World.setCell] using hb)]
          exact Below.heap_setCell _ _ _ _ hne
        have d3 : w3.cell? ⟨w.heap.size + 3, 0, none⟩ = some (.bool true) := (World.cell?_of_block (HC3.out (w.heap.size + 3) HK.out.2.2.2.1.r.lt (by omega))).trans c3
        have g3 : w3.frozen? ⟨w.heap.size + 3, 0, none⟩ = false := (World.frozen?_of_block (HC3.out (w.heap.size + 3) HK.out.2.2.2.1.r.lt (by omega))).trans f3
        have H3 := Lib.hid hb3
        clear hb3 c1 c2 c3 f1 f2 f3 x0 x1 x2 x3 x4
        gi_wp2
        obtain ⟨hm, hR, hIx, hI, hb, hs, hBx, hV, z5⟩ := HK.out
        have k1 := kr_set (n₀ := w.heap.size) (.int .i64 (z + 1)) hb (B := w.heap.size + 2) (by omega) (by omega)
        have hb1 := hb.keep k1.1.b.size
        have k3 : Kr w.heap.size O (W.setCell ⟨w.heap.size + 2, 0, none⟩ (.int .i64 (z + 1))) w3 := ⟨H3.out.mono (by have := k1.1.b.size; omega), fun b h => H3.out.block b (hb1 b h).2⟩
        have hb3 := hb1.keep k3.b.size
        have k2 := kr_set (n₀ := w.heap.size) (.bool I) hb3 (B := w.heap.size + 3) (by omega) (by omega)
        have hz1 := k1.1.b.size
        refine ⟨⟨(k1.1.trans k3).trans k2.1, k2.2.1.trans ((H3.out.block _ (by omega)).trans k1.2.1), k2.2.2.trans ((H3.out.block _ (by omega)).trans k1.2.2)⟩, ?_⟩
        refine ⟨?_, ?_, ?_, ?_, by rw [List.length_append, hm]; have := HZ.out; simp; omega, hI.b.trans (k1.1.b.trans (k3.b.trans k2.1.b))⟩
        · have hx := Boxed.set (.int .i64 (z + 1)) hI.n
          have e : (((pre ++ [x]).length : Nat) : Int) = z + 1 := by rw [List.length_append, hm, ← HZ.out]; rfl
          rw [e]
          exact Boxed.other ((H3.out.block _ hx.lt).trans hx) (by omega) _
        · have e : ((pre ++ [x]).all fun x => rg1 x.2) = I := by rw [List.all_append, hR]; simp [hIx]
          rw [e]
          exact Boxed.set _ ((HC3.out _ hI.r.lt (by omega)).trans hI.r)
        · exact Boxed.other ((HC3.out _ hI.e.lt (by omega)).trans hI.e) (by omega) _
        · exact (Below.heap_setCell _ _ _ _ (by show w.heap.size ≠ w.heap.size + 3; omega)).trans ((HC3.out _ (Array.getElem?_eq_some_iff.1 hI.v).1 (by omega)).trans hI.v)
  case done =>
    rintro O W hI hK
    have hrow := hI.v.row
    have q0 := hrow.k
    have q1 := hrow.g
    have q2 := hrow.n
    have q3 := hrow.s
    have q4 := hrow.l
    have hcn : cnt t ≤ 65536 := by have := hI.m; rw [rws_len] at this; exact this
    have hr := hI.r
    rw [← rgt_rws [] t] at hr
    have HD := Lib.hid (fun W' (h : Below w.heap.size w W') => vdepth_any t C W' (by omega) (HC.out.keep h (Nat.le_refl _)))
    have HH : Hid (chk t = if 64 < dep t then 2 else if rgt t then 0 else 9) := Lib.hid (by unfold chk; by_cases h : 64 < dep t <;> simp [h]; omega)
    obtain ⟨d, hd⟩ : ∃ d, dep t = d := ⟨_, rfl⟩
    obtain ⟨R, hR⟩ : ∃ R, rgt t = R := ⟨_, rfl⟩
    have hdb := dep_le t
    rw [hd] at HD HH hdb
    rw [hR] at HH hr
    have HK := Lib.hid (And.intro hK (And.intro hI (And.intro hr z5)))
    have HB := Lib.hid hI.b
    clear hK hG hI0 z5 hI hr hrow hd hR
    unfold vv at HD
    go_wp2_with fail
    refine (HD.out _ HB.out).mono ?_
    rintro e w3 ⟨rfl, hb3⟩
    have H3 := Lib.hid hb3
    have hE := (hb3.block _ HK.out.2.1.e.lt).trans HK.out.2.1.e
    have hRR := (hb3.block _ HK.out.2.2.1.lt).trans HK.out.2.2.1
    have c1 := Boxed.cell hE
    have f1 := Boxed.frozen hE
    have c3 := Boxed.cell hRR
    have hKK : w3.heap[W5.heap.size]? = some (.deferred (some [])) := (hb3.block _ (Array.getElem?_eq_some_iff.1 HK.out.1).1).trans HK.out.1
    have HKK := Lib.hid (And.intro hKK (And.intro hE (And.intro HK.out.2.2.2 (HB.out.trans (hb3.mono HB.out.size)))))
    clear hb3 hE hRR hKK q0 q1 q2 q3 q4 HD
    have hend : ∀ (n : Nat) (a : Act), Hid (chk t = n) → a.defers = [{ target := .collected W5.heap.size, args := #[] }] → a.tmps[2]? = some (.pointer (some ⟨w.heap.size + 1, 0, none⟩)) →
        bodyPostM Fence.wide 3 Tryz.prog Tryz.f15 (fun e w' => e = .returned (.int .i64 (chk t : Int)) ∧ Below w.heap.size w w') .ret a (w3.setCell ⟨w.heap.size + 1, 0, none⟩ (.int .i64 (n : Int))) := fun n a h1 h2 h3 =>
      check_end t w W5.heap.size n _ a (Boxed.set _ HKK.out.2.1) ((Below.heap_setCell _ _ _ _ (by have := HKK.out.2.2.1; show W5.heap.size ≠ w.heap.size + 1; omega)).trans HKK.out.1) HKK.out.2.2.1 (HKK.out.2.2.2.setCell (p := ⟨w.heap.size + 1, 0, none⟩) (by show w.heap.size ≤ w.heap.size + 1; omega) _) h1 h2 h3
    have HEND := Lib.hid hend
    clear hend
    by_cases h64 : 64 < d
    · have H2 : Hid (chk t = 2) := Lib.hid (by rw [HH.out, if_pos h64])
      go_wp2_with fail
      exact HEND.out 2 _ H2 rfl rfl
    · cases R
      · have H2 : Hid (chk t = 9) := Lib.hid (by rw [HH.out, if_neg h64]; rfl)
        go_wp2_with fail
        exact HEND.out 9 _ H2 rfl rfl
      · have H2 : Hid (chk t = 0) := Lib.hid (by rw [HH.out, if_neg h64]; rfl)
        go_wp2_with fail
        exact HEND.out 0 _ H2 rfl rfl
  case stop =>
    rintro c pre W ⟨q, hq⟩ ⟨rfl, he, hm, hB⟩ hK
    have hc2 : chk t = 2 := by
      have h1 := congrArg List.length hq
      rw [rws_len, List.length_append] at h1
      unfold chk
      rw [if_pos (.inr (by omega))]
    have HX := Lib.hid (And.intro he (And.intro hK (And.intro z5 (And.intro hB hc2))))
    clear he hm hB hK z5 hc2 hq hG hI0
    gi_wp2
    obtain ⟨he, hK, z5, hB, hc2⟩ := HX.out
    exact check_end t w W5.heap.size 2 W _ he hK z5 hB (Lib.hid hc2) rfl rfl
end Go.Proofs.YtpcladdipgchbaaGreatDoor.nn
