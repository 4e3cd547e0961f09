/- Joined texts, what is wanted of them: CbI. -/
import Derived.Test.YtpcladdipgchbaaGreatDoorProg
import Derived.WalkKit
import Derived.Lib.Hide
import Derived.WalkSpells
import Derived.Deep.QuietTactic
import Derived.BigQuiet
import Derived.Deep.RegionHeld3
import Derived.Laws.BitsAllLaws
import Derived.Test.YtpcladdipgchbaaGreatDoorShelf
import Derived.Deep.RegionWith
import Derived.IntWalk
import Derived.Deep.CutBlock
import Derived.StillTailTactics
import Derived.Test.YtpcladdipgchbaaGreatDoorSd
import Derived.Test.YtpcladdipgchbaaGreatDoorSg
import Derived.Test.YtpcladdipgchbaaGreatDoorSo
import Derived.Test.YtpcladdipgchbaaGreatDoorSa
import Derived.Test.YtpcladdipgchbaaGreatDoorSc
namespace Go.Proofs.YtpcladdipgchbaaGreatDoor.nn
open Go.RowKit

/-- what a call that writes items answers: x: is there a KExt within -/
def ItAns (B b : Nat) (l : List UInt8) (o : Bool) (x : Bool) (w : World) (e : Ending) (w' : World) : Prop :=
  (Below B w w' ∧ Kw b w w') ∧ ((x = false ∧ e = .returned (.tuple #[]) ∧ Wr B b l o w') ∨ (x = true ∧ e = .panicked [{ v := .iface 94 (.agg #[.int .i64 0, .int .i64 10]), recovered := false }]))
/-- the world in which a value lies in a new block, behind it the writer's -/
structure Iw (w : World) (B b : Nat) (l : List UInt8) (o : Bool) (cs : Array Value) (W : World) : Prop where
  wr : Wr B b l o W
  bl : Below B w W
  kw : Kw b w W
  sz : B ≤ W.heap.size
  bx : W.heap[w.heap.size]? = some (.cells cs 25 (0, 0))
section
variable {w W W' : World} {B b : Nat} {l l' : List UInt8} {o : Bool} {cs : Array Value} {e : Ending}
theorem Iw.new (h : Wr B b l o w) (hB : B ≤ w.heap.size) (cs : Array Value) : Iw w B b l o cs (w.alloc (.cells cs 25)) :=
  ⟨h.below ((Below.refl _ _).alloc (Nat.le_refl _) _), (Below.refl _ _).alloc hB _, (Kw.refl _ _).alloc _, by simp; omega, heap_alloc_last _ _⟩
theorem Iw.cell (h : Iw w B b l o cs W) (i : Nat) : W.cell? ⟨w.heap.size, i, none⟩ = cs[i]? := cell_of_row _ _ i _ _ _ h.bx
theorem Iw.on (h : Iw w B b l o cs W) (hB : Below W.heap.size W W') : Iw w B b l o cs W' :=
  ⟨h.wr.below hB, h.bl.trans (hB.mono h.sz), h.kw.trans (Kw.of_below hB), Nat.le_trans h.sz hB.size, (hB.block _ (lt_of_block h.bx)).trans h.bx⟩
theorem Iw.step (h : Iw w B b l o cs W) (hs : WrAns B b l' o W e W') (hb : b < w.heap.size) : Iw w B b l' o cs W' :=
  ⟨hs.2.1, h.bl.trans hs.2.2.1, h.kw.trans hs.2.2.2, Nat.le_trans h.sz hs.2.2.1.size, hs.2.2.2 _ _ _ (by omega) (by decide) h.bx⟩
theorem Iw.it (h : Iw w B b l' o cs W) (hl : l' = l) : ItAns B b l o false w (.returned (.tuple #[])) W := by subst hl; exact ⟨⟨h.bl, h.kw⟩, .inl ⟨rfl, rfl, h.wr⟩⟩
end
theorem txP_ge (o : Bool) (M : Nat) (s : ByteArray) : s.size ≤ (txP o M s).length := by
  unfold txP pcP
  have := ba_len s
  split
  · split
    · omega
    · simp only [List.length_cons, List.length_append, List.length_nil]; omega
  · simp only [List.length_append]; omega
set_option maxRecDepth 100000 in
set_option maxHeartbeats 4000000 in
/-- of the kinds that are just a head of the major 7 -/
theorem item_seven (B b : Nat) (l : List UInt8) (o : Bool) (t : VT) (C : Value) (w : World) (h : Wr B b l o w) (hr : oneB t = true) (hk : t.k = 0 ∨ t.k = 2 ∨ t.k = 1 ∨ t.k = 3) (hle : l.length + 9 ≤ 140737488355328) (hBw : B ≤ w.heap.size) :
    Calls Tryz.prog 36 #[.pointer (some ⟨b, 0, none⟩), vv t C] w (ItAns B b (l ++ itB o t) o false w) := by
  have hn : (t.k = 1 → t.n ≤ 1) ∧ (t.k = 3 → t.n ≤ 19 ∨ (32 ≤ t.n ∧ t.n ≤ 255)) := by
    refine ⟨fun hk => ?_, fun hk => ?_⟩
    · unfold oneB at hr
      rw [if_neg (by omega), if_pos hk] at hr
      simp only [Bool.and_eq_true, decide_eq_true_eq] at hr
      omega
    · unfold oneB at hr
      rw [if_neg (by omega), if_neg (by omega), if_pos hk] at hr
      simp only [Bool.and_eq_true, decide_eq_true_eq] at hr
      omega
  have HN := Lib.hid (Iw.new h hBw #[.int .i64 t.k, .bool t.g, .int .u64 (t.n : Int), .string t.s, C])
  have hb := h.lt
  have H1 : Hid (∀ (n : Nat) (W : World), (n ≤ 23 ∨ (32 ≤ n ∧ n ≤ 255)) → Iw w B b l o #[.int .i64 t.k, .bool t.g, .int .u64 (t.n : Int), .string t.s, C] W → Calls Tryz.prog 58 #[.pointer (some ⟨b, 0, none⟩), .int .i64 7, .int .u64 (n : Int)] W fun e w' => e = .returned (.tuple #[]) ∧ Iw w B b (l ++ hdP 7 n) o #[.int .i64 t.k, .bool t.g, .int .u64 (t.n : Int), .string t.s, C] w') := Lib.hid fun n W hn hW =>
    (whead_any B b l o 7 n W hW.wr (by decide) (hd_ok7 hn) (by omega) hle hW.sz).mono fun e w' hs => ⟨hs.1, hW.step hs hb⟩
  have hi := itB_mk o t
  obtain ⟨R, hR⟩ : ∃ R, itB o t = R := ⟨_, rfl⟩
  rw [hR] at hi ⊢
  have HI := Lib.hid hi
  obtain ⟨n, hnn⟩ : ∃ n, t.n = n := ⟨_, rfl⟩
  obtain ⟨k, hkk⟩ : ∃ k, t.k = k := ⟨_, rfl⟩
  unfold vv
  rw [hkk] at hk HI
  rw [hkk, hnn] at hn HN H1 ⊢
  rw [hnn] at HI
  clear hi hR hr h hkk hnn hb
  have F0 : Hid (k = 0 → R = hdP 7 22) := Lib.hid fun h => by rw [HI.out, h]; rfl
  have F2 : Hid (k = 2 → R = hdP 7 23) := Lib.hid fun h => by rw [HI.out, h]; rfl
  have F1 : Hid (k = 1 → R = hdP 7 (20 + n)) := Lib.hid fun h => by rw [HI.out, h]; rfl
  have F3 : Hid (k = 3 → R = hdP 7 n) := Lib.hid fun h => by rw [HI.out, h]; rfl
  clear HI
  rcases hk with rfl | rfl | rfl | rfl
  · have HF := Lib.hid (F0.out rfl)
    clear F0 F1 F2 F3
    go_enter Tryz.func36, Tryz.ntmps36
    go_wp2_with fail
    refine (H1.out 22 _ (by decide) HN.out).mono ?_
    rintro e w1 ⟨rfl, h1⟩
    have HH := Lib.hid h1
    clear h1
    go_wp2_with fail
    go_end0
    exact HH.out.it (by rw [HF.out])
  · have HF := Lib.hid (F2.out rfl)
    clear F0 F1 F2 F3
    go_enter Tryz.func36, Tryz.ntmps36
    go_wp2_with fail
    refine (H1.out 23 _ (by decide) HN.out).mono ?_
    rintro e w1 ⟨rfl, h1⟩
    have HH := Lib.hid h1
    clear h1
    go_wp2_with fail
    go_end0
    exact HH.out.it (by rw [HF.out])
  · have hn1 := hn.1 rfl
    have HF := Lib.hid (F1.out rfl)
    have hs : IntKind.u64.wrap (20 + (n : Int)) = ((20 + n : Nat) : Int) := by rw [IntKind.wrap_u64]; omega
    obtain ⟨m, hm⟩ : ∃ m, 20 + n = m := ⟨_, rfl⟩
    have hm2 : m ≤ 23 ∨ (32 ≤ m ∧ m ≤ 255) := by omega
    rw [hm] at hs HF
    clear F0 F1 F2 F3 hm
    go_enter Tryz.func36, Tryz.ntmps36
    go_wp2_with fail
    refine (H1.out m _ hm2 HN.out).mono ?_
    rintro e w1 ⟨rfl, h1⟩
    have HH := Lib.hid h1
    clear h1
    go_wp2_with fail
    go_end0
    exact HH.out.it (by rw [HF.out])
  · have hn3 : n ≤ 23 ∨ (32 ≤ n ∧ n ≤ 255) := by have := hn.2 rfl; omega
    have HF := Lib.hid (F3.out rfl)
    clear F0 F1 F2 F3
    go_enter Tryz.func36, Tryz.ntmps36
    go_wp2_with fail
    refine (H1.out n _ hn3 HN.out).mono ?_
    rintro e w1 ⟨rfl, h1⟩
    have HH := Lib.hid h1
    clear h1
    go_wp2_with fail
    go_end0
    exact HH.out.it (by rw [HF.out])
end Go.Proofs.YtpcladdipgchbaaGreatDoor.nn
