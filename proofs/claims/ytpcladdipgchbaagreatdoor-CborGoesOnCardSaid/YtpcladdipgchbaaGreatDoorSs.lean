/- Joined texts, what is wanted of them: CbK. -/
import Derived.Test.YtpcladdipgchbaaGreatDoorProg
import Derived.WalkKit
import Derived.Lib.Hide
import Derived.WalkSpells
import Derived.Deep.QuietTactic
import Derived.BigQuiet
import Derived.Deep.RegionHeld3
import Derived.Laws.BitsAllLaws
import Derived.Test.YtpcladdipgchbaaGreatDoorShelf
import Derived.Deep.RegionWith
import Derived.IntWalk
import Derived.Deep.CutBlock
import Derived.StillTailTactics
import Derived.Test.YtpcladdipgchbaaGreatDoorSp
import Derived.Test.YtpcladdipgchbaaGreatDoorSd
import Derived.Test.YtpcladdipgchbaaGreatDoorSg
import Derived.Test.YtpcladdipgchbaaGreatDoorSo
import Derived.Test.YtpcladdipgchbaaGreatDoorSa
import Derived.Test.YtpcladdipgchbaaGreatDoorSc
namespace Go.Proofs.YtpcladdipgchbaaGreatDoor.nn
open Go.RowKit

theorem ng_le' (g : Bool) : ng g ≤ 1 := by cases g <;> decide
set_option maxRecDepth 100000 in
set_option maxHeartbeats 8000000 in
theorem item_str (B b : Nat) (l : List UInt8) (o : Bool) (t : VT) (C : Value) (w : World) (h : Wr B b l o w) (hk : t.k = 9 ∨ t.k = 10) (hle : l.length + t.s.size + 11 ≤ 140737488355328) (hBw : B ≤ w.heap.size) :
    Calls Tryz.prog 36 #[.pointer (some ⟨b, 0, none⟩), vv t C] w (ItAns B b (l ++ itB o t) o false w) := by
  have HN := Lib.hid (Iw.new h hBw #[.int .i64 t.k, .bool t.g, .int .u64 (t.n : Int), .string t.s, C])
  have hb := h.lt
  have H1 : Hid (∀ (M : Nat) (W : World), M ≤ 6 → Iw w B b l o #[.int .i64 t.k, .bool t.g, .int .u64 (t.n : Int), .string t.s, C] W → Calls Tryz.prog 61 #[.pointer (some ⟨b, 0, none⟩), .int .i64 (M : Int), .string t.s] W fun e w' => e = .returned (.tuple #[]) ∧ Iw w B b (l ++ txP o M t.s) o #[.int .i64 t.k, .bool t.g, .int .u64 (t.n : Int), .string t.s, C] w') := Lib.hid fun M W hM hW =>
    (wstretch_any B b l o M t.s W hW.wr hM hle hW.sz).mono fun e w' hs => ⟨hs.1, hW.step hs hb⟩
  have hi := itB_mk o t
  obtain ⟨R, hR⟩ : ∃ R, itB o t = R := ⟨_, rfl⟩
  rw [hR] at hi ⊢
  have HI := Lib.hid hi
  obtain ⟨s, hs⟩ : ∃ s, t.s = s := ⟨_, rfl⟩
  obtain ⟨k, hkk⟩ : ∃ k, t.k = k := ⟨_, rfl⟩
  unfold vv
  rw [hkk] at hk HI
  rw [hkk, hs] at HN H1 ⊢
  rw [hs] at HI
  clear hi hR h hkk hs hb hle
  have F2 : Hid (k = 9 → R = txP o 2 s) := Lib.hid fun h => by rw [HI.out, h]; rfl
  have F3 : Hid (k = 10 → R = txP o 3 s) := Lib.hid fun h => by rw [HI.out, h]; rfl
  clear HI
  rcases hk with rfl | rfl
  · have HF := Lib.hid (F2.out rfl)
    clear F2 F3
    go_enter Tryz.func36, Tryz.ntmps36
    go_wp2_with fail
    refine (H1.out 2 _ (by decide) HN.out).mono ?_
    rintro e w1 ⟨rfl, h1⟩
    have HH := Lib.hid h1
    clear h1
    go_wp2_with fail
    go_end0
    exact HH.out.it (by rw [HF.out])
  · have HF := Lib.hid (F3.out rfl)
    clear F2 F3
    go_enter Tryz.func36, Tryz.ntmps36
    go_wp2_with fail
    refine (H1.out 3 _ (by decide) HN.out).mono ?_
    rintro e w1 ⟨rfl, h1⟩
    have HH := Lib.hid h1
    clear h1
    go_wp2_with fail
    go_end0
    exact HH.out.it (by rw [HF.out])
set_option maxRecDepth 100000 in
set_option maxHeartbeats 8000000 in
theorem item_big (B b : Nat) (l : List UInt8) (o : Bool) (t : VT) (C : Value) (w : World) (h : Wr B b l o w) (hk : t.k = 5) (hle : l.length + t.s.size + 20 ≤ 140737488355328) (hBw : B ≤ w.heap.size) :
    Calls Tryz.prog 36 #[.pointer (some ⟨b, 0, none⟩), vv t C] w (ItAns B b (l ++ itB o t) o false w) := by
  have HN := Lib.hid (Iw.new h hBw #[.int .i64 t.k, .bool t.g, .int .u64 (t.n : Int), .string t.s, C])
  have hb := h.lt
  have hng := ng_le' t.g
  have h9 := hdP_le 6 (2 + ng t.g)
  have H1 : Hid (∀ W, Iw w B b l o #[.int .i64 t.k, .bool t.g, .int .u64 (t.n : Int), .string t.s, C] W → Calls Tryz.prog 58 #[.pointer (some ⟨b, 0, none⟩), .int .i64 6, .int .u64 ((2 + ng t.g : Nat) : Int)] W fun e w' => e = .returned (.tuple #[]) ∧ Iw w B b (l ++ hdP 6 (2 + ng t.g)) o #[.int .i64 t.k, .bool t.g, .int .u64 (t.n : Int), .string t.s, C] w') := Lib.hid fun W hW =>
    (whead_any B b l o 6 (2 + ng t.g) W hW.wr (by decide) (hd_ok6 _ (by decide)) (by omega) (by omega) hW.sz).mono fun e w' hs => ⟨hs.1, hW.step hs hb⟩
  have H2 : Hid (∀ W, Iw w B b l o #[.int .i64 t.k, .bool t.g, .int .u64 (t.n : Int), .string t.s, C] W → Calls Tryz.prog 59 #[vv t C] W fun e w' => e = .returned (.int .i64 (ng t.g : Int)) ∧ Iw w B b l o #[.int .i64 t.k, .bool t.g, .int .u64 (t.n : Int), .string t.s, C] w') := Lib.hid fun W hW =>
    (wsign_any t C W).mono fun e w' hs => ⟨hs.1, hW.on hs.2⟩
  have H3 : Hid (∀ W, Iw w B b (l ++ hdP 6 (2 + ng t.g)) o #[.int .i64 t.k, .bool t.g, .int .u64 (t.n : Int), .string t.s, C] W → Calls Tryz.prog 61 #[.pointer (some ⟨b, 0, none⟩), .int .i64 2, .string t.s] W fun e w' => e = .returned (.tuple #[]) ∧ Iw w B b (l ++ hdP 6 (2 + ng t.g) ++ txP o 2 t.s) o #[.int .i64 t.k, .bool t.g, .int .u64 (t.n : Int), .string t.s, C] w') := Lib.hid fun W hW =>
    (wstretch_any B b _ o 2 t.s W hW.wr (by decide) (by rw [List.length_append]; omega) hW.sz).mono fun e w' hs => ⟨hs.1, hW.step hs hb⟩
  have hi : itB o t = hdP 6 (2 + ng t.g) ++ txP o 2 t.s := by rw [itB_mk, hk]; rfl
  rw [hi, ← List.append_assoc]
  have hw1 : wrap64 (2 + (ng t.g : Int)) = 2 + (ng t.g : Int) := by unfold wrap64; omega
  have hw2 : IntKind.i64.wrap (2 + (ng t.g : Int)) = 2 + (ng t.g : Int) := IntWalk.i64_in _ ⟨by omega, by omega⟩
  have hw3 : IntKind.u64.wrap (2 + (ng t.g : Int)) = 2 + (ng t.g : Int) := by rw [IntKind.wrap_u64]; omega
  rw [show ((2 + ng t.g : Nat) : Int) = 2 + (ng t.g : Int) by omega] at H1
  obtain ⟨P, hP⟩ : ∃ P, l ++ hdP 6 (2 + ng t.g) = P := ⟨_, rfl⟩
  rw [hP] at H1 H3 ⊢
  obtain ⟨a, ha⟩ : ∃ a, ng t.g = a := ⟨_, rfl⟩
  rw [ha] at H1 H2 hw1 hw2 hw3 hng
  unfold vv at H2 ⊢
  obtain ⟨k, hkk⟩ : ∃ k, t.k = k := ⟨_, rfl⟩
  rw [hkk] at hk H1 H2 H3 HN ⊢
  obtain ⟨g, hg⟩ : ∃ g, t.g = g := ⟨_, rfl⟩
  obtain ⟨n, hnn⟩ : ∃ n, t.n = n := ⟨_, rfl⟩
  obtain ⟨s, hs⟩ : ∃ s, t.s = s := ⟨_, rfl⟩
  rw [hg, hnn, hs] at H1 H2 H3 HN
  rw [hg, hnn, hs]
  subst hk
  clear h hi hkk ha hg hnn hs hb hP h9 hle
  go_enter Tryz.func36, Tryz.ntmps36
  go_wp2_with fail
  refine (H2.out _ HN.out).mono ?_
  rintro e w2 ⟨rfl, h2⟩
  have HH2 := Lib.hid h2
  clear h2
  go_wp2_with fail
  refine (H1.out _ HH2.out).mono ?_
  rintro e w3 ⟨rfl, h3⟩
  have q3 : w3.cell? ⟨w.heap.size, 3, none⟩ = some (.string s) := h3.cell 3
  have HH3 := Lib.hid h3
  clear h3
  go_wp2_with fail
  refine (H3.out _ HH3.out).mono ?_
  rintro e w4 ⟨rfl, h4⟩
  have HH4 := Lib.hid h4
  clear h4
  go_wp2_with fail
  go_end0
  exact HH4.out.it rfl
set_option maxRecDepth 100000 in
set_option maxHeartbeats 8000000 in
theorem item_ext (B b : Nat) (l L : List UInt8) (o : Bool) (t : VT) (C : Value) (w : World) (h : Wr B b l o w) (hk : t.k = 14) (hBw : B ≤ w.heap.size) :
    Calls Tryz.prog 36 #[.pointer (some ⟨b, 0, none⟩), vv t C] w (ItAns B b L o true w) := by
  have HN := Lib.hid (Iw.new h hBw #[.int .i64 t.k, .bool t.g, .int .u64 (t.n : Int), .string t.s, C])
  unfold vv
  rw [hk] at HN ⊢
  clear h hk
  go_enter Tryz.func36, Tryz.ntmps36
  go_wp2_with fail
  exact ⟨rfl, ⟨HN.out.bl, HN.out.kw⟩, .inr ⟨rfl, rfl⟩⟩
end Go.Proofs.YtpcladdipgchbaaGreatDoor.nn
