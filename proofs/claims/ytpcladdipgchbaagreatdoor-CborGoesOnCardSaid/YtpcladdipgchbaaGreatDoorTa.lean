/- Joined texts, what is wanted of them: DrM. -/
import Derived.Test.YtpcladdipgchbaaGreatDoorProg
import Derived.WalkKit
import Derived.Lib.Hide
import Derived.WalkSpells
import Derived.Deep.QuietTactic
import Derived.BigQuiet
import Derived.Deep.RegionHeld3
import Derived.Laws.BitsAllLaws
import Derived.Test.YtpcladdipgchbaaGreatDoorShelf
import Derived.Deep.RegionWith
import Derived.IntWalk
import Derived.Deep.CutBlock
import Derived.StillTailTactics
import Derived.Test.YtpcladdipgchbaaGreatDoorSx
import Derived.Test.YtpcladdipgchbaaGreatDoorSi
import Derived.Test.YtpcladdipgchbaaGreatDoorSe
import Derived.Test.YtpcladdipgchbaaGreatDoorSb
import Derived.Test.YtpcladdipgchbaaGreatDoorSd
import Derived.Test.YtpcladdipgchbaaGreatDoorSv
import Derived.Test.YtpcladdipgchbaaGreatDoorSg
import Derived.Test.YtpcladdipgchbaaGreatDoorSy
import Derived.Test.YtpcladdipgchbaaGreatDoorSa
import Derived.Test.YtpcladdipgchbaaGreatDoorSo
import Derived.Test.YtpcladdipgchbaaGreatDoorTl
import Derived.Test.YtpcladdipgchbaaGreatDoorSn
import Derived.Test.YtpcladdipgchbaaGreatDoorSj
import Derived.Test.YtpcladdipgchbaaGreatDoorSf
import Derived.Test.YtpcladdipgchbaaGreatDoorSw
import Derived.Test.YtpcladdipgchbaaGreatDoorSc
import Derived.Test.YtpcladdipgchbaaGreatDoorSm
import Derived.Test.YtpcladdipgchbaaGreatDoorSt
import Derived.Test.YtpcladdipgchbaaGreatDoorSz
import Derived.Test.YtpcladdipgchbaaGreatDoorSh
import Derived.Test.YtpcladdipgchbaaGreatDoorSs
import Derived.Test.YtpcladdipgchbaaGreatDoorSp
import Derived.Test.YtpcladdipgchbaaGreatDoorSr
import Derived.Test.YtpcladdipgchbaaGreatDoorSq
import Derived.Test.YtpcladdipgchbaaGreatDoorSu
import Derived.Test.YtpcladdipgchbaaGreatDoorSl
import Derived.Test.YtpcladdipgchbaaGreatDoorTk
namespace Go.Proofs.YtpcladdipgchbaaGreatDoor.nn
open Go.RowKit

section
variable {W W' : World} {q : Nat} {A : Option Addr} {n c : Nat} {f : Nat → Nat} {size : Nat} {mo : Bool} {g i i' : Nat} {O O' : Nat → Prop} {S S' : Bst}
theorem oth_ev {d : Nat} (h : Rdw W q A n c f size mo g i O S) (hv : S.v = none) (hd : S.op.length + d = S.most) (s : Hdr) (hp : s.p ≤ i) (k : Int) (m : Nat) (hk : oth s = .mk k false m ⟨#[]⟩ []) (hk2 : k = 0 ∨ k = 1 ∨ k = 2 ∨ k = 3 ∨ k = 6 ∨ k = 7 ∨ k = 8)
    (hx : s.x ≤ 27) (h0 : s.x < 24 → s.v = s.x) (h1 : s.x = 24 → s.v < 256 ∧ 32 ≤ s.v) (h2 : s.x = 25 → s.v < 65536) (h3 : s.x = 26 → s.v < 4294967296) (h4 : s.v < 18446744073709551616) :
    Calls Tryz.prog 110 #[.pointer (some ⟨q, 0, none⟩), stV s, .agg #[.int .i64 k, .bool false, .int .u64 (m : Int), .string ⟨#[]⟩]] W (IAns q A n c f size mo g O (stI S) (lef S.n s.p (oth s) f n i) W) := by
  have ho := (rgt_parts (oth_right (d := 0) (c := 0) hx h0 h1 h2 h3 h4 (by omega)).1.r).1
  have hw := (wfT_mk _).1 (oth_right (d := 0) (c := 0) hx h0 h1 h2 h3 h4 (by omega)).1.w
  rw [hk] at ho hw
  have hm : m < 18446744073709551616 := hw.2.2.1
  have hlf : lf k = true := (lf_iff k).2 ⟨by omega, by omega, by omega⟩
  refine put_leaf (e := ⟨k, false, m, ⟨#[]⟩⟩) h hv hd s hp (wfE_lit (by omega) hm (Nat.zero_le _)) hlf (by show k ≠ 5; omega) (by show k ≠ 15; omega) ?_ (fun hh => by have : k = 9 := hh.2.1; omega) _ hk.symm
  rw [oneB_leaf (show k ≠ 13 by omega)]
  exact ho
set_option maxRecDepth 100000 in
set_option maxHeartbeats 4000000 in
theorem other_any {d : Nat} (h : Rdw W q A n c f size mo g i O S) (hv : S.v = none) (hd : S.op.length + d = S.most) (s : Hdr) (hp : s.p ≤ i)
    (hx : s.x ≤ 27) (h0 : s.x < 24 → s.v = s.x) (h1 : s.x = 24 → s.v < 256 ∧ 32 ≤ s.v) (h2 : s.x = 25 → s.v < 65536) (h3 : s.x = 26 → s.v < 4294967296) (h4 : s.v < 18446744073709551616) :
    Calls Tryz.prog 114 #[.pointer (some ⟨q, 0, none⟩), stV s] W (IAns q A n c f size mo g O (stI S) (lef S.n s.p (oth s) f n i) W) := by
  obtain ⟨W0, hW0⟩ : ∃ W0, W.alloc (.cells #[.int .i64 (s.p : Int), .int .i64 (s.M : Int), .int .i64 (s.x : Int), .int .u64 (s.v : Int)] 156) = W0 := ⟨_, rfl⟩
  obtain ⟨W1, hW1⟩ : ∃ W1, W0.alloc (.cells #[.int .i64 3, .bool false, .int .u64 (s.v : Int), .string ⟨#[]⟩] 159) = W1 := ⟨_, rfl⟩
  have hb0 : Below W.heap.size W W0 := by rw [← hW0]; exact (Below.refl _ _).alloc (Nat.le_refl _) _
  have hz0 : W0.heap.size = W.heap.size + 1 := by rw [← hW0]; simp
  have hk0 : Bk W0 W.heap.size 156 #[.int .i64 (s.p : Int), .int .i64 (s.M : Int), .int .i64 (s.x : Int), .int .u64 (s.v : Int)] := by rw [← hW0]; exact heap_alloc_last _ _
  have hb1 : Below W0.heap.size W0 W1 := by rw [← hW1]; exact (Below.refl _ _).alloc (Nat.le_refl _) _
  have hk1 : Bk W1 W0.heap.size 159 #[.int .i64 3, .bool false, .int .u64 (s.v : Int), .string ⟨#[]⟩] := by rw [← hW1]; exact heap_alloc_last _ _
  have hk2 : Bk W1 W.heap.size 156 #[.int .i64 (s.p : Int), .int .i64 (s.M : Int), .int .i64 (s.x : Int), .int .u64 (s.v : Int)] := hk0.below hb1 hk0.lt
  have hb01 : Below W.heap.size W W1 := hb0.trans (hb1.mono hb0.size)
  -- the event in its box
  have HP : Hid (∀ W' k m, Below W.heap.size W W' → oth s = .mk k false m ⟨#[]⟩ [] → (k = 0 ∨ k = 1 ∨ k = 2 ∨ k = 3 ∨ k = 6 ∨ k = 7 ∨ k = 8) → Calls Tryz.prog 110 #[.pointer (some ⟨q, 0, none⟩), stV s, .agg #[.int .i64 k, .bool false, .int .u64 (m : Int), .string ⟨#[]⟩]] W' (IAns q A n c f size mo g O (stI S) (lef S.n s.p (oth s) f n i) W)) := Lib.hid fun W' k m hb e1 e2 =>
    (oth_ev (h.below hb) hv hd s hp k m e1 e2 hx h0 h1 h2 h3 h4).mono fun r w' hh => hh.from_ (.below hb)
  have HB1 : Hid (Below W.heap.size W W1) := Lib.hid hb01
  have HZ : Hid (W.heap.size ≤ W0.heap.size) := Lib.hid hb0.size
  have hne1 : W.heap.size ≠ W0.heap.size := by omega
  have hne2 : W0.heap.size ≠ W.heap.size := by omega
  obtain ⟨d0, d1, d2, d3⟩ := hk2.c4
  obtain ⟨c0, c1, c2, c3⟩ := hk0.c4
  obtain ⟨y0, y1, y2, y3⟩ := hk1.c4
  have yf0 := hk1.frozen 0
  have yf1 := hk1.frozen 1
  have yf2 := hk1.frozen 2
  have yf3 := hk1.frozen 3
  have HO : Hid ((s.x = 20 ∨ s.x = 21 → oth s = .mk 1 false (s.v - 20) ⟨#[]⟩ []) ∧ (s.x = 22 → oth s = .mk 0 false 0 ⟨#[]⟩ []) ∧ (s.x = 23 → oth s = .mk 2 false 0 ⟨#[]⟩ []) ∧ (s.x = 25 → oth s = .mk 6 false s.v ⟨#[]⟩ []) ∧ (s.x = 26 → oth s = .mk 7 false s.v ⟨#[]⟩ []) ∧ (s.x = 27 → oth s = .mk 8 false s.v ⟨#[]⟩ []) ∧ (¬ (s.x = 20 ∨ s.x = 21) → s.x ≠ 22 → s.x ≠ 23 → s.x ≠ 25 → s.x ≠ 26 → s.x ≠ 27 → oth s = .mk 3 false s.v ⟨#[]⟩ [])) := Lib.hid (by
    unfold oth
    refine ⟨fun e => by rw [if_pos e], fun e => by rw [if_neg (by omega), if_pos e], fun e => by rw [if_neg (by omega), if_neg (by omega), if_pos e], fun e => by rw [if_neg (by omega), if_neg (by omega), if_neg (by omega), if_pos e], fun e => by rw [if_neg (by omega), if_neg (by omega), if_neg (by omega), if_neg (by omega), if_pos e], fun e => by rw [if_neg (by omega), if_neg (by omega), if_neg (by omega), if_neg (by omega), if_neg (by omega), if_pos e], fun e1 e2 e3 e4 e5 e6 => by rw [if_neg e1, if_neg e2, if_neg e3, if_neg e4, if_neg e5, if_neg e6]⟩)
  have HV20 : Hid (s.x = 20 ∨ s.x = 21 → IntKind.u64.wrap ((s.v : Int) - 20) = ((s.v - 20 : Nat) : Int)) := Lib.hid fun e => by
    have := h0 (by omega)
    rw [IntKind.wrap_u64]
    omega
  obtain ⟨R, hR⟩ : ∃ R, lef S.n s.p (oth s) f n i = R := ⟨_, rfl⟩
  obtain ⟨ot, hot⟩ : ∃ ot, oth s = ot := ⟨_, rfl⟩
  rw [hR, hot] at HP
  rw [hR]
  rw [hot] at HO
  obtain ⟨p, M, x, v⟩ := s
  unfold stV at HP ⊢
  dsimp only at hW0 hW1 HP HO HV20 d0 d1 d2 d3 c0 c1 c2 c3 y2 hx ⊢
  have HPz : Hid (∀ W' k, Below W.heap.size W W' → ot = .mk k false 0 ⟨#[]⟩ [] → (k = 0 ∨ k = 1 ∨ k = 2 ∨ k = 3 ∨ k = 6 ∨ k = 7 ∨ k = 8) → Calls Tryz.prog 110 #[.pointer (some ⟨q, 0, none⟩), .agg #[.int .i64 (p : Int), .int .i64 (M : Int), .int .i64 (x : Int), .int .u64 (v : Int)], .agg #[.int .i64 k, .bool false, .int .u64 0, .string ⟨#[]⟩]] W' (IAns q A n c f size mo g O (stI S) R W)) := Lib.hid fun W' k => HP.out W' k 0
  have e31 : (((x : Nat) : Int) == 31) = false := by simp; omega
  clear hR hot h hv hd hp h0 h1 h2 h3 h4 hb0 hz0 hk0 hb1 hk1 hk2 hb01
  by_cases hx0 : x = 20
  · have e20 : (((x : Nat) : Int) == 20) = true := by simp; omega
    have HO2 := Lib.hid (HO.out.1 (.inl hx0))
    have hv20 := HV20.out (by omega)
    obtain ⟨vv_, hvv⟩ : ∃ y, v - 20 = y := ⟨_, rfl⟩
    rw [hvv] at hv20 HO2
    clear HO HV20 hx0
    go_enter Tryz.func114, Tryz.ntmps114
    go_upto_region 1 with fail
    first | rw [hW0] | skip
    go_upto_region 2 with fail
    first | rw [hW1] | skip
    clear hW0 hW1
    go_wp2_with fail
    with_reducible refine Calls.mono (HP.out _ 1 vv_ ?hb HO2.out (by decide)) ?_
    case hb => repeat (first | exact HB1.out | refine Below.setCell ?_ HZ.out _)
    rintro r w2 ⟨O2, hs2, ⟨a, k, hh, rfl, h2⟩ | ⟨p', er, hh, rfl⟩⟩
    · have HF := Lib.hid (And.intro hs2 (And.intro h2 hh))
      clear hs2 h2 hh
      go_wp2_with fail
      go_end0
      exact ⟨O2, HF.out.1, .inl ⟨a, k, HF.out.2.2, rfl, HF.out.2.1⟩⟩
    · have HF := Lib.hid (And.intro hs2 hh)
      clear hs2 hh
      go_wp2_with fail
      exact ⟨rfl, O2, HF.out.1, .inr ⟨p', er, HF.out.2, rfl⟩⟩
  have e20 : (((x : Nat) : Int) == 20) = false := by simp; omega
  by_cases hx0 : x = 21
  · have e21 : (((x : Nat) : Int) == 21) = true := by simp; omega
    have HO2 := Lib.hid (HO.out.1 (.inr hx0))
    have hv20 := HV20.out (by omega)
    obtain ⟨vv_, hvv⟩ : ∃ y, v - 20 = y := ⟨_, rfl⟩
    rw [hvv] at hv20 HO2
    clear HO HV20 hx0
    go_enter Tryz.func114, Tryz.ntmps114
    go_upto_region 1 with fail
    first | rw [hW0] | skip
    go_upto_region 2 with fail
    first | rw [hW1] | skip
    clear hW0 hW1
    go_wp2_with fail
    with_reducible refine Calls.mono (HP.out _ 1 vv_ ?hb HO2.out (by decide)) ?_
    case hb => repeat (first | exact HB1.out | refine Below.setCell ?_ HZ.out _)
    rintro r w2 ⟨O2, hs2, ⟨a, k, hh, rfl, h2⟩ | ⟨p', er, hh, rfl⟩⟩
    · have HF := Lib.hid (And.intro hs2 (And.intro h2 hh))
      clear hs2 h2 hh
      go_wp2_with fail
      go_end0
      exact ⟨O2, HF.out.1, .inl ⟨a, k, HF.out.2.2, rfl, HF.out.2.1⟩⟩
    · have HF := Lib.hid (And.intro hs2 hh)
      clear hs2 hh
      go_wp2_with fail
      exact ⟨rfl, O2, HF.out.1, .inr ⟨p', er, HF.out.2, rfl⟩⟩
  have e21 : (((x : Nat) : Int) == 21) = false := by simp; omega
  by_cases hx0 : x = 22
  · have e22 : (((x : Nat) : Int) == 22) = true := by simp; omega
    have HO2 := Lib.hid (HO.out.2.1 hx0)
    clear HO HV20 hx0
    go_enter Tryz.func114, Tryz.ntmps114
    go_upto_region 1 with fail
    first | rw [hW0] | skip
    go_upto_region 2 with fail
    first | rw [hW1] | skip
    clear hW0 hW1
    go_wp2_with fail
    with_reducible refine Calls.mono (HPz.out _ 0 ?hb HO2.out (by decide)) ?_
    case hb => repeat (first | exact HB1.out | refine Below.setCell ?_ HZ.out _)
    rintro r w2 ⟨O2, hs2, ⟨a, k, hh, rfl, h2⟩ | ⟨p', er, hh, rfl⟩⟩
    · have HF := Lib.hid (And.intro hs2 (And.intro h2 hh))
      clear hs2 h2 hh
      go_wp2_with fail
      go_end0
      exact ⟨O2, HF.out.1, .inl ⟨a, k, HF.out.2.2, rfl, HF.out.2.1⟩⟩
    · have HF := Lib.hid (And.intro hs2 hh)
      clear hs2 hh
      go_wp2_with fail
      exact ⟨rfl, O2, HF.out.1, .inr ⟨p', er, HF.out.2, rfl⟩⟩
  have e22 : (((x : Nat) : Int) == 22) = false := by simp; omega
  by_cases hx0 : x = 23
  · have e23 : (((x : Nat) : Int) == 23) = true := by simp; omega
    have HO2 := Lib.hid (HO.out.2.2.1 hx0)
    clear HO HV20 hx0
    go_enter Tryz.func114, Tryz.ntmps114
    go_upto_region 1 with fail
    first | rw [hW0] | skip
    go_upto_region 2 with fail
    first | rw [hW1] | skip
    clear hW0 hW1
    go_wp2_with fail
    with_reducible refine Calls.mono (HPz.out _ 2 ?hb HO2.out (by decide)) ?_
    case hb => repeat (first | exact HB1.out | refine Below.setCell ?_ HZ.out _)
    rintro r w2 ⟨O2, hs2, ⟨a, k, hh, rfl, h2⟩ | ⟨p', er, hh, rfl⟩⟩
    · have HF := Lib.hid (And.intro hs2 (And.intro h2 hh))
      clear hs2 h2 hh
      go_wp2_with fail
      go_end0
      exact ⟨O2, HF.out.1, .inl ⟨a, k, HF.out.2.2, rfl, HF.out.2.1⟩⟩
    · have HF := Lib.hid (And.intro hs2 hh)
      clear hs2 hh
      go_wp2_with fail
      exact ⟨rfl, O2, HF.out.1, .inr ⟨p', er, HF.out.2, rfl⟩⟩
  have e23 : (((x : Nat) : Int) == 23) = false := by simp; omega
  by_cases hx0 : x = 25
  · have e25 : (((x : Nat) : Int) == 25) = true := by simp; omega
    have HO2 := Lib.hid (HO.out.2.2.2.1 hx0)
    clear HO HV20 hx0
    go_enter Tryz.func114, Tryz.ntmps114
    go_upto_region 1 with fail
    first | rw [hW0] | skip
    go_upto_region 2 with fail
    first | rw [hW1] | skip
    clear hW0 hW1
    go_wp2_with fail
    with_reducible refine Calls.mono (HP.out _ 6 v ?hb HO2.out (by decide)) ?_
    case hb => repeat (first | exact HB1.out | refine Below.setCell ?_ HZ.out _)
    rintro r w2 ⟨O2, hs2, ⟨a, k, hh, rfl, h2⟩ | ⟨p', er, hh, rfl⟩⟩
    · have HF := Lib.hid (And.intro hs2 (And.intro h2 hh))
      clear hs2 h2 hh
      go_wp2_with fail
      go_end0
      exact ⟨O2, HF.out.1, .inl ⟨a, k, HF.out.2.2, rfl, HF.out.2.1⟩⟩
    · have HF := Lib.hid (And.intro hs2 hh)
      clear hs2 hh
      go_wp2_with fail
      exact ⟨rfl, O2, HF.out.1, .inr ⟨p', er, HF.out.2, rfl⟩⟩
  have e25 : (((x : Nat) : Int) == 25) = false := by simp; omega
  by_cases hx0 : x = 26
  · have e26 : (((x : Nat) : Int) == 26) = true := by simp; omega
    have HO2 := Lib.hid (HO.out.2.2.2.2.1 hx0)
    clear HO HV20 hx0
    go_enter Tryz.func114, Tryz.ntmps114
    go_upto_region 1 with fail
    first | rw [hW0] | skip
    go_upto_region 2 with fail
    first | rw [hW1] | skip
    clear hW0 hW1
    go_wp2_with fail
    with_reducible refine Calls.mono (HP.out _ 7 v ?hb HO2.out (by decide)) ?_
    case hb => repeat (first | exact HB1.out | refine Below.setCell ?_ HZ.out _)
    rintro r w2 ⟨O2, hs2, ⟨a, k, hh, rfl, h2⟩ | ⟨p', er, hh, rfl⟩⟩
    · have HF := Lib.hid (And.intro hs2 (And.intro h2 hh))
      clear hs2 h2 hh
      go_wp2_with fail
      go_end0
      exact ⟨O2, HF.out.1, .inl ⟨a, k, HF.out.2.2, rfl, HF.out.2.1⟩⟩
    · have HF := Lib.hid (And.intro hs2 hh)
      clear hs2 hh
      go_wp2_with fail
      exact ⟨rfl, O2, HF.out.1, .inr ⟨p', er, HF.out.2, rfl⟩⟩
  have e26 : (((x : Nat) : Int) == 26) = false := by simp; omega
  by_cases hx0 : x = 27
  · have e27 : (((x : Nat) : Int) == 27) = true := by simp; omega
    have HO2 := Lib.hid (HO.out.2.2.2.2.2.1 hx0)
    clear HO HV20 hx0
    go_enter Tryz.func114, Tryz.ntmps114
    go_upto_region 1 with fail
    first | rw [hW0] | skip
    go_upto_region 2 with fail
    first | rw [hW1] | skip
    clear hW0 hW1
    go_wp2_with fail
    with_reducible refine Calls.mono (HP.out _ 8 v ?hb HO2.out (by decide)) ?_
    case hb => repeat (first | exact HB1.out | refine Below.setCell ?_ HZ.out _)
    rintro r w2 ⟨O2, hs2, ⟨a, k, hh, rfl, h2⟩ | ⟨p', er, hh, rfl⟩⟩
    · have HF := Lib.hid (And.intro hs2 (And.intro h2 hh))
      clear hs2 h2 hh
      go_wp2_with fail
      go_end0
      exact ⟨O2, HF.out.1, .inl ⟨a, k, HF.out.2.2, rfl, HF.out.2.1⟩⟩
    · have HF := Lib.hid (And.intro hs2 hh)
      clear hs2 hh
      go_wp2_with fail
      exact ⟨rfl, O2, HF.out.1, .inr ⟨p', er, HF.out.2, rfl⟩⟩
  have e27 : (((x : Nat) : Int) == 27) = false := by simp; omega
  have HO2 := Lib.hid (HO.out.2.2.2.2.2.2 (by omega) (by omega) (by omega) (by omega) (by omega) (by omega))
  clear HO HV20
  go_enter Tryz.func114, Tryz.ntmps114
  go_upto_region 1 with fail
  first | rw [hW0] | skip
  go_upto_region 2 with fail
  first | rw [hW1] | skip
  clear hW0 hW1
  go_wp2_with fail
  with_reducible refine Calls.mono (HP.out _ 3 v ?hb HO2.out (by decide)) ?_
  case hb => repeat (first | exact HB1.out | refine Below.setCell ?_ HZ.out _)
  rintro r w2 ⟨O2, hs2, ⟨a, k, hh, rfl, h2⟩ | ⟨p', er, hh, rfl⟩⟩
  · have HF := Lib.hid (And.intro hs2 (And.intro h2 hh))
    clear hs2 h2 hh
    go_wp2_with fail
    go_end0
    exact ⟨O2, HF.out.1, .inl ⟨a, k, HF.out.2.2, rfl, HF.out.2.1⟩⟩
  · have HF := Lib.hid (And.intro hs2 hh)
    clear hs2 hh
    go_wp2_with fail
    exact ⟨rfl, O2, HF.out.1, .inr ⟨p', er, HF.out.2, rfl⟩⟩
end
end Go.Proofs.YtpcladdipgchbaaGreatDoor.nn
