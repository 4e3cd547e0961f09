/- Joined texts, what is wanted of them: CbJ. -/
import Derived.Deep.RegionWith
import Derived.Test.YtpcladdipgchbaaGreatDoorProg
import Derived.WalkKit
import Derived.Lib.Hide
import Derived.WalkSpells
import Derived.Deep.QuietTactic
import Derived.BigQuiet
import Derived.Deep.RegionHeld3
import Derived.Laws.BitsAllLaws
import Derived.Test.YtpcladdipgchbaaGreatDoorShelf
import Derived.IntWalk
import Derived.Deep.CutBlock
import Derived.StillTailTactics
import Derived.Test.YtpcladdipgchbaaGreatDoorSp
import Derived.Test.YtpcladdipgchbaaGreatDoorSd
import Derived.Test.YtpcladdipgchbaaGreatDoorSg
import Derived.Test.YtpcladdipgchbaaGreatDoorSo
import Derived.Test.YtpcladdipgchbaaGreatDoorSa
import Derived.Test.YtpcladdipgchbaaGreatDoorSc
namespace Go.Proofs.YtpcladdipgchbaaGreatDoor.nn
open Go.RowKit

theorem ng_le (g : Bool) : ng g ≤ 1 := by cases g <;> decide
set_option maxRecDepth 100000 in
set_option maxHeartbeats 8000000 in
theorem item_int (B b : Nat) (l : List UInt8) (o : Bool) (t : VT) (C : Value) (w : World) (h : Wr B b l o w) (hk : t.k = 4) (hn : t.n < 18446744073709551616) (hle : l.length + 9 ≤ 140737488355328) (hBw : B ≤ w.heap.size) :
    Calls Tryz.prog 36 #[.pointer (some ⟨b, 0, none⟩), vv t C] w (ItAns B b (l ++ itB o t) o false w) := by
  have HN0 := Iw.new h hBw #[.int .i64 t.k, .bool t.g, .int .u64 (t.n : Int), .string t.s, C]
  have hb := h.lt
  have hng := ng_le t.g
  have H1 : Hid (∀ W, Iw w B b l o #[.int .i64 t.k, .bool t.g, .int .u64 (t.n : Int), .string t.s, C] W → Calls Tryz.prog 58 #[.pointer (some ⟨b, 0, none⟩), .int .i64 (ng t.g : Int), .int .u64 (t.n : Int)] W fun e w' => e = .returned (.tuple #[]) ∧ Iw w B b (l ++ hdP (ng t.g) t.n) o #[.int .i64 t.k, .bool t.g, .int .u64 (t.n : Int), .string t.s, C] w') := Lib.hid fun W hW =>
    (whead_any B b l o (ng t.g) t.n W hW.wr (by omega) (hd_ok6 _ (by omega)) hn hle hW.sz).mono fun e w' hs => ⟨hs.1, hW.step hs hb⟩
  have H2 : Hid (∀ W, Iw w B b l o #[.int .i64 t.k, .bool t.g, .int .u64 (t.n : Int), .string t.s, C] W → Calls Tryz.prog 59 #[vv t C] W fun e w' => e = .returned (.int .i64 (ng t.g : Int)) ∧ Iw w B b l o #[.int .i64 t.k, .bool t.g, .int .u64 (t.n : Int), .string t.s, C] w') := Lib.hid fun W hW =>
    (wsign_any t C W).mono fun e w' hs => ⟨hs.1, hW.on hs.2⟩
  have hi : itB o t = hdP (ng t.g) t.n := by rw [itB_mk, hk]; rfl
  rw [hi]
  have hwr : IntKind.i64.wrap (ng t.g : Int) = (ng t.g : Int) := IntWalk.i64_in _ ⟨by omega, by omega⟩
  obtain ⟨a, ha⟩ : ∃ a, ng t.g = a := ⟨_, rfl⟩
  rw [ha] at H1 H2 hwr hng ⊢
  unfold vv at H2 ⊢
  obtain ⟨W1, hW1⟩ : ∃ W1, w.alloc (.cells #[.int .i64 t.k, .bool t.g, .int .u64 (t.n : Int), .string t.s, C] 25) = W1 := ⟨_, rfl⟩
  rw [hW1] at HN0
  obtain ⟨k, hkk⟩ : ∃ k, t.k = k := ⟨_, rfl⟩
  rw [hkk] at hk H1 H2 HN0 hW1 ⊢
  obtain ⟨g, hg⟩ : ∃ g, t.g = g := ⟨_, rfl⟩
  obtain ⟨n, hnn⟩ : ∃ n, t.n = n := ⟨_, rfl⟩
  obtain ⟨s, hs⟩ : ∃ s, t.s = s := ⟨_, rfl⟩
  rw [hg, hnn, hs] at H1 H2 HN0 hW1
  rw [hg, hnn, hs]
  subst hk
  have HN := Lib.hid HN0
  have HD := Lib.hid (HN0.on (Below.drew (Below.refl _ _)))
  have c0 : W1.cell? ⟨w.heap.size, 0, none⟩ = some (.int .i64 4) := HN0.cell 0
  have c1 : W1.cell? ⟨w.heap.size, 1, none⟩ = some (.bool g) := HN0.cell 1
  have c2 : W1.cell? ⟨w.heap.size, 2, none⟩ = some (.int .u64 (n : Int)) := HN0.cell 2
  have c3 : W1.cell? ⟨w.heap.size, 3, none⟩ = some (.string s) := HN0.cell 3
  have c4 : W1.cell? ⟨w.heap.size, 4, none⟩ = some C := HN0.cell 4
  have c2' : W1.drew.cell? ⟨w.heap.size, 2, none⟩ = some (.int .u64 (n : Int)) := c2
  clear HN0 h hi hkk ha hg hnn hs hn hb
  go_enter Tryz.func36, Tryz.ntmps36
  go_upto_region 1 with fail
  clear hW1
  go_upto_region 20 with fail
  first
    | go_region_with (first
        | (go_at_call 59; (with_reducible refine (H2.out _ HD.out).mono ?_); rintro e w2 ⟨rfl, h2⟩; have q2 : w2.cell? ⟨w.heap.size, 2, none⟩ = some (.int .u64 (n : Int)) := h2.cell 2)
        | (go_at_call 58; (with_reducible refine (H1.out _ h2).mono ?_); rintro e w3 ⟨rfl, h3⟩))
    | done
  all_goals
    go_wp2_with fail
    go_end0
    exact h3.it rfl
end Go.Proofs.YtpcladdipgchbaaGreatDoor.nn
