/- Joined texts, what is wanted of them: CbJ2. -/
import Derived.Test.YtpcladdipgchbaaGreatDoorProg
import Derived.WalkKit
import Derived.Lib.Hide
import Derived.WalkSpells
import Derived.Deep.QuietTactic
import Derived.BigQuiet
import Derived.Deep.RegionHeld3
import Derived.Laws.BitsAllLaws
import Derived.Test.YtpcladdipgchbaaGreatDoorShelf
import Derived.Deep.RegionWith
import Derived.IntWalk
import Derived.Deep.CutBlock
import Derived.StillTailTactics
import Derived.Test.YtpcladdipgchbaaGreatDoorSp
import Derived.Test.YtpcladdipgchbaaGreatDoorSd
import Derived.Test.YtpcladdipgchbaaGreatDoorSg
import Derived.Test.YtpcladdipgchbaaGreatDoorSo
import Derived.Test.YtpcladdipgchbaaGreatDoorSa
import Derived.Test.YtpcladdipgchbaaGreatDoorSc
namespace Go.Proofs.YtpcladdipgchbaaGreatDoor.nn
open Go.RowKit

set_option maxRecDepth 100000 in
set_option maxHeartbeats 8000000 in
theorem item_f16 (B b : Nat) (l : List UInt8) (o : Bool) (t : VT) (C : Value) (w : World) (h : Wr B b l o w) (hk : t.k = 6) (hn : t.n < 18446744073709551616) (hle : l.length + 9 ≤ 140737488355328) (hBw : B ≤ w.heap.size) :
    Calls Tryz.prog 36 #[.pointer (some ⟨b, 0, none⟩), vv t C] w (ItAns B b (l ++ itB o t) o false w) := by
  have HN := Lib.hid (Iw.new h hBw #[.int .i64 t.k, .bool t.g, .int .u64 (t.n : Int), .string t.s, C])
  have hb := h.lt
  have H1 : Hid (∀ W : World, Iw w B b l o #[.int .i64 t.k, .bool t.g, .int .u64 (t.n : Int), .string t.s, C] W → Calls Tryz.prog 60 #[.pointer (some ⟨b, 0, none⟩), .int .i64 25, .int .u64 (t.n : Int), .int .i64 2] W fun e w' => e = .returned (.tuple #[]) ∧ Iw w B b (l ++ flP (224 + 25) t.n 2) o #[.int .i64 t.k, .bool t.g, .int .u64 (t.n : Int), .string t.s, C] w') := Lib.hid fun W hW =>
    (wfloat_any B b l o 25 t.n 2 W hW.wr (by decide) hn (by decide) (by decide) hle hW.sz).mono fun e w' hs => ⟨hs.1, hW.step hs hb⟩
  have hi := itB_mk o t
  obtain ⟨R, hR⟩ : ∃ R, itB o t = R := ⟨_, rfl⟩
  rw [hR] at hi ⊢
  have HI := Lib.hid hi
  obtain ⟨n, hnn⟩ : ∃ n, t.n = n := ⟨_, rfl⟩
  obtain ⟨k, hkk⟩ : ∃ k, t.k = k := ⟨_, rfl⟩
  unfold vv
  rw [hkk] at hk HI
  rw [hkk, hnn] at HN H1 ⊢
  rw [hnn] at HI
  subst hk
  have HF : Hid (R = flP (224 + 25) n 2) := Lib.hid (by rw [HI.out]; rfl)
  clear hi hR h hkk hnn hb hn HI
  go_enter Tryz.func36, Tryz.ntmps36
  go_wp2_with fail
  refine (H1.out _ HN.out).mono ?_
  rintro e w1 ⟨rfl, h1⟩
  have HH := Lib.hid h1
  clear h1
  go_wp2_with fail
  go_end0
  exact HH.out.it (by rw [HF.out])
set_option maxRecDepth 100000 in
set_option maxHeartbeats 8000000 in
theorem item_f32 (B b : Nat) (l : List UInt8) (o : Bool) (t : VT) (C : Value) (w : World) (h : Wr B b l o w) (hk : t.k = 7) (hn : t.n < 18446744073709551616) (hle : l.length + 9 ≤ 140737488355328) (hBw : B ≤ w.heap.size) :
    Calls Tryz.prog 36 #[.pointer (some ⟨b, 0, none⟩), vv t C] w (ItAns B b (l ++ itB o t) o false w) := by
  have HN := Lib.hid (Iw.new h hBw #[.int .i64 t.k, .bool t.g, .int .u64 (t.n : Int), .string t.s, C])
  have hb := h.lt
  have H1 : Hid (∀ W : World, Iw w B b l o #[.int .i64 t.k, .bool t.g, .int .u64 (t.n : Int), .string t.s, C] W → Calls Tryz.prog 60 #[.pointer (some ⟨b, 0, none⟩), .int .i64 26, .int .u64 (t.n : Int), .int .i64 4] W fun e w' => e = .returned (.tuple #[]) ∧ Iw w B b (l ++ flP (224 + 26) t.n 4) o #[.int .i64 t.k, .bool t.g, .int .u64 (t.n : Int), .string t.s, C] w') := Lib.hid fun W hW =>
    (wfloat_any B b l o 26 t.n 4 W hW.wr (by decide) hn (by decide) (by decide) hle hW.sz).mono fun e w' hs => ⟨hs.1, hW.step hs hb⟩
  have hi := itB_mk o t
  obtain ⟨R, hR⟩ : ∃ R, itB o t = R := ⟨_, rfl⟩
  rw [hR] at hi ⊢
  have HI := Lib.hid hi
  obtain ⟨n, hnn⟩ : ∃ n, t.n = n := ⟨_, rfl⟩
  obtain ⟨k, hkk⟩ : ∃ k, t.k = k := ⟨_, rfl⟩
  unfold vv
  rw [hkk] at hk HI
  rw [hkk, hnn] at HN H1 ⊢
  rw [hnn] at HI
  subst hk
  have HF : Hid (R = flP (224 + 26) n 4) := Lib.hid (by rw [HI.out]; rfl)
  clear hi hR h hkk hnn hb hn HI
  go_enter Tryz.func36, Tryz.ntmps36
  go_wp2_with fail
  refine (H1.out _ HN.out).mono ?_
  rintro e w1 ⟨rfl, h1⟩
  have HH := Lib.hid h1
  clear h1
  go_wp2_with fail
  go_end0
  exact HH.out.it (by rw [HF.out])
set_option maxRecDepth 100000 in
set_option maxHeartbeats 8000000 in
theorem item_f64 (B b : Nat) (l : List UInt8) (o : Bool) (t : VT) (C : Value) (w : World) (h : Wr B b l o w) (hk : t.k = 8) (hn : t.n < 18446744073709551616) (hle : l.length + 9 ≤ 140737488355328) (hBw : B ≤ w.heap.size) :
    Calls Tryz.prog 36 #[.pointer (some ⟨b, 0, none⟩), vv t C] w (ItAns B b (l ++ itB o t) o false w) := by
  have HN := Lib.hid (Iw.new h hBw #[.int .i64 t.k, .bool t.g, .int .u64 (t.n : Int), .string t.s, C])
  have hb := h.lt
  have H1 : Hid (∀ W : World, Iw w B b l o #[.int .i64 t.k, .bool t.g, .int .u64 (t.n : Int), .string t.s, C] W → Calls Tryz.prog 60 #[.pointer (some ⟨b, 0, none⟩), .int .i64 27, .int .u64 (t.n : Int), .int .i64 8] W fun e w' => e = .returned (.tuple #[]) ∧ Iw w B b (l ++ flP (224 + 27) t.n 8) o #[.int .i64 t.k, .bool t.g, .int .u64 (t.n : Int), .string t.s, C] w') := Lib.hid fun W hW =>
    (wfloat_any B b l o 27 t.n 8 W hW.wr (by decide) hn (by decide) (by decide) hle hW.sz).mono fun e w' hs => ⟨hs.1, hW.step hs hb⟩
  have hi := itB_mk o t
  obtain ⟨R, hR⟩ : ∃ R, itB o t = R := ⟨_, rfl⟩
  rw [hR] at hi ⊢
  have HI := Lib.hid hi
  obtain ⟨n, hnn⟩ : ∃ n, t.n = n := ⟨_, rfl⟩
  obtain ⟨k, hkk⟩ : ∃ k, t.k = k := ⟨_, rfl⟩
  unfold vv
  rw [hkk] at hk HI
  rw [hkk, hnn] at HN H1 ⊢
  rw [hnn] at HI
  subst hk
  have HF : Hid (R = flP (224 + 27) n 8) := Lib.hid (by rw [HI.out]; rfl)
  clear hi hR h hkk hnn hb hn HI
  go_enter Tryz.func36, Tryz.ntmps36
  go_wp2_with fail
  refine (H1.out _ HN.out).mono ?_
  rintro e w1 ⟨rfl, h1⟩
  have HH := Lib.hid h1
  clear h1
  go_wp2_with fail
  go_end0
  exact HH.out.it (by rw [HF.out])
end Go.Proofs.YtpcladdipgchbaaGreatDoor.nn
