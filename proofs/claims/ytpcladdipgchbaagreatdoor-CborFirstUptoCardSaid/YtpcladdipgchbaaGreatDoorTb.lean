/- Joined texts, what is wanted of them: DrO, DrP. -/
import Derived.Test.YtpcladdipgchbaaGreatDoorProg
import Derived.WalkKit
import Derived.Lib.Hide
import Derived.WalkSpells
import Derived.Deep.QuietTactic
import Derived.BigQuiet
import Derived.Deep.RegionHeld3
import Derived.Laws.BitsAllLaws
import Derived.Test.YtpcladdipgchbaaGreatDoorShelf
import Derived.Deep.RegionWith
import Derived.IntWalk
import Derived.Deep.CutBlock
import Derived.StillTailTactics
import Derived.Test.YtpcladdipgchbaaGreatDoorSx
import Derived.Test.YtpcladdipgchbaaGreatDoorSi
import Derived.Test.YtpcladdipgchbaaGreatDoorSe
import Derived.Test.YtpcladdipgchbaaGreatDoorSb
import Derived.Test.YtpcladdipgchbaaGreatDoorSd
import Derived.Test.YtpcladdipgchbaaGreatDoorSv
import Derived.Test.YtpcladdipgchbaaGreatDoorSg
import Derived.Test.YtpcladdipgchbaaGreatDoorSy
import Derived.Test.YtpcladdipgchbaaGreatDoorSa
import Derived.Test.YtpcladdipgchbaaGreatDoorSo
import Derived.Test.YtpcladdipgchbaaGreatDoorTl
import Derived.Test.YtpcladdipgchbaaGreatDoorSn
import Derived.Test.YtpcladdipgchbaaGreatDoorSj
import Derived.Test.YtpcladdipgchbaaGreatDoorTa
import Derived.Test.YtpcladdipgchbaaGreatDoorSf
import Derived.Test.YtpcladdipgchbaaGreatDoorSw
import Derived.Test.YtpcladdipgchbaaGreatDoorSc
import Derived.Test.YtpcladdipgchbaaGreatDoorSm
import Derived.Test.YtpcladdipgchbaaGreatDoorSt
import Derived.Test.YtpcladdipgchbaaGreatDoorSz
import Derived.Test.YtpcladdipgchbaaGreatDoorSh
import Derived.Test.YtpcladdipgchbaaGreatDoorSs
import Derived.Test.YtpcladdipgchbaaGreatDoorSp
import Derived.Test.YtpcladdipgchbaaGreatDoorSr
import Derived.Test.YtpcladdipgchbaaGreatDoorSq
import Derived.Test.YtpcladdipgchbaaGreatDoorSu
import Derived.Test.YtpcladdipgchbaaGreatDoorSl
import Derived.Test.YtpcladdipgchbaaGreatDoorTk
namespace Go.Proofs.YtpcladdipgchbaaGreatDoor.nn
open Go.RowKit

section
variable {W W' : World} {q : Nat} {A : Option Addr} {n c : Nat} {f : Nat → Nat} {size : Nat} {mo : Bool} {g i i' : Nat} {O O' : Nat → Prop} {S S' : Bst}
set_option maxRecDepth 100000 in
set_option maxHeartbeats 2000000 in
theorem other_bad {G : Value} (h : Rdb W q A n c f size mo G i) (s : Hdr) (hx : s.x = 31) :
    Calls Tryz.prog 114 #[.pointer (some ⟨q, 0, none⟩), stV s] W fun r W' => Stp q W W' ∧ r = .panicked [{ v := rfV (s.p : Int) (adj mo 4 : Int), recovered := false }] := by
  obtain ⟨W0, hW0⟩ : ∃ W0, W.alloc (.cells #[.int .i64 (s.p : Int), .int .i64 (s.M : Int), .int .i64 (s.x : Int), .int .u64 (s.v : Int)] 156) = W0 := ⟨_, rfl⟩
  have hb0 : Below W.heap.size W W0 := by rw [← hW0]; exact (Below.refl _ _).alloc (Nat.le_refl _) _
  have hk0 : Bk W0 W.heap.size 156 #[.int .i64 (s.p : Int), .int .i64 (s.M : Int), .int .i64 (s.x : Int), .int .u64 (s.v : Int)] := by rw [← hW0]; exact heap_alloc_last _ _
  have hz0 : W.heap.size ≠ W0.heap.size := by rw [← hW0]; simp
  have HB0 := Lib.hid hb0
  have HZ : Hid (W.heap.size ≤ W0.heap.size) := Lib.hid hb0.size
  have HR : Hid (∀ W', Below W.heap.size W W' → Calls Tryz.prog 70 #[.pointer (some ⟨q, 0, none⟩), .int .i64 (s.p : Int), .int .i64 4] W' fun r w' => r = .panicked [{ v := rfV (s.p : Int) (adj mo 4 : Int), recovered := false }] ∧ Stp q W w') := Lib.hid fun W' hb => (refuse_any (h.below hb) s.p 4).mono fun r w' ⟨e1, e2⟩ => ⟨e1, by rw [e2]; exact .of_below hb⟩
  obtain ⟨c0, c1, c2, c3⟩ := hk0.c4
  obtain ⟨p, M, x, v⟩ := s
  unfold stV
  dsimp only at hx hW0 HR c0 c1 c2 c3 ⊢
  have e31 : (((x : Nat) : Int) == 31) = true := by simp; omega
  obtain ⟨W1, hW1⟩ : ∃ W1, W0.alloc (.cells #[.int .i64 3, .bool false, .int .u64 (v : Int), .string ⟨#[]⟩] 159) = W1 := ⟨_, rfl⟩
  have hb1 : Below W0.heap.size W0 W1 := by rw [← hW1]; exact (Below.refl _ _).alloc (Nat.le_refl _) _
  have hk2 := hk0.below hb1 hk0.lt
  obtain ⟨d0, d1, d2, d3⟩ := hk2.c4
  have hk3 : Bk W1 W0.heap.size 159 #[.int .i64 3, .bool false, .int .u64 (v : Int), .string ⟨#[]⟩] := by rw [← hW1]; exact heap_alloc_last _ _
  obtain ⟨y0, y1, y2, y3⟩ := hk3.c4
  have yf0 := hk3.frozen 0
  have yf1 := hk3.frozen 1
  have yf2 := hk3.frozen 2
  have yf3 := hk3.frozen 3
  have hz1 : W0.heap.size ≠ W.heap.size := fun e => hz0 e.symm
  have HB1 := Lib.hid (hb0.trans (hb1.mono hb0.size))
  clear h hb0 hk0 hx hb1 hk2 hk3
  go_enter Tryz.func114, Tryz.ntmps114
  go_upto_region 1 with fail
  first | rw [hW0] | skip
  go_upto_region 2 with fail
  first | rw [hW1] | skip
  clear hW0 hW1
  go_wp2_with fail
  with_reducible refine Calls.mono (HR.out _ ?hb) ?_
  case hb => repeat (first | exact HB1.out | refine Below.setCell ?_ HZ.out _)
  rintro r w2 ⟨rfl, hs⟩
  go_wp2_with fail
  exact ⟨rfl, hs, rfl⟩
set_option maxRecDepth 100000 in
set_option maxHeartbeats 8000000 in
theorem item_any {d : Nat} (hI : ∀ e, d = e + 1 → Itm q A n c f size mo g e) : Itm q A n c f size mo g d := by
  intro W i O S h hv hd ht
  have hin := h.r.i
  have hsz := h.r.sz
  cases hh : hdr f n i with
  | no p' e' =>
    have hR : rdI size d S.n f n i = .no p' e' := by
      rw [rdI_itm]
      by_cases hlt : i < n
      · by_cases hb : f i = 255
        · have : hdr f n i = .ok ⟨i, 7, 31, 0⟩ (i + 1) := by
            have e1 : gtR (sh f i) (n - i) = (7, 31, 0, 1, 0) := by
              unfold gtR
              have e0 : sh f i 0 = 255 := hb
              rw [e0, if_neg (by omega)]
              rfl
            unfold hdr
            rw [e1]
            rfl
          rw [this] at hh
          cases hh
        · rw [itm_at hlt hb]
          exact bind_no hh
      · obtain rfl : i = n := by omega
        rw [itm_end]
        rw [hdr_end] at hh
        injection hh with t1 t2
        subst t1 t2
        rfl
    rw [hR]
    have HST : Hid (Calls Tryz.prog 109 #[.pointer (some ⟨q, 0, none⟩)] W fun r W' => r = .panicked [{ v := rfV (p' : Int) (adj mo e' : Int), recovered := false }] ∧ Stp q W W') := Lib.hid ((start_any h.r).mono fun r W' ⟨a1, a2⟩ => by
      rcases a2 with ⟨a, k, b1, _, _⟩ | ⟨p2, e2, b1, b2⟩
      · rw [hh] at b1; cases b1
      · rw [hh] at b1
        injection b1 with t1 t2
        subst t1 t2
        exact ⟨b2, a1⟩)
    clear h hv hd ht hI hR hh
    go_enter Tryz.func69, Tryz.ntmps69
    go_wp2_with fail
    with_reducible refine HST.out.mono ?_
    rintro r w2 ⟨rfl, hs⟩
    have HF := Lib.hid (Stb.of (O := O) hs)
    clear hs
    go_wp2_with fail
    exact ⟨rfl, O, HF.out, .inr ⟨p', e', rfl, rfl⟩⟩
  | ok s k =>
    obtain ⟨g0, g1, hp, hM, hx, hgv, hlt, hik, hkn, hx2⟩ := hdr_ok hh
    obtain ⟨hM7, hsv, n0, n1, n2, n3⟩ := hdr_num (fun j _ => h.r.hf j) hh
    have HST : Hid (Calls Tryz.prog 109 #[.pointer (some ⟨q, 0, none⟩)] W fun r W' => r = .returned (stV s) ∧ Stp q W W' ∧ Rdw W' q A n c f size mo g k O S) := Lib.hid ((start_any h.r).mono fun r W' ⟨a1, a2⟩ => by
      rcases a2 with ⟨a, k2, b1, b2, b3⟩ | ⟨p2, e2, b1, _⟩
      · rw [hh] at b1
        injection b1 with t1 t2
        subst t1 t2
        exact ⟨b2, a1, h.stp a1 b3⟩
      · rw [hh] at b1; cases b1)
    have hps : s.p ≤ k := by omega
    have hR : f i ≠ 255 → rdI size d S.n f n i = bod size d (sub size d) S.n s f n k := fun hb => rdI_yes hh hb
    have hRb : f i = 255 → rdI size d S.n f n i = .no i 4 := fun hb => by rw [rdI_itm, itm_bad hlt hb]
    have hS7 : s.M = 7 → s.x ≠ 31 → s.x ≤ 27 := fun _ _ => by omega
    have hb255 : f i = 255 ↔ (s.M = 7 ∧ s.x = 31) := by
      have := h.r.hf i
      constructor
      · intro hb; omega
      · rintro ⟨h1, h2⟩; omega
    obtain ⟨R, hRR⟩ : ∃ R, rdI size d S.n f n i = R := ⟨_, rfl⟩
    rw [hRR] at hR hRb ⊢
    -- what each major goes on with, in any world that is as it was behind the head
    have P01 : Hid (s.M ≤ 1 → ∀ W2 W', Stp q W W2 → Rdw W2 q A n c f size mo g k O S → Below W2.heap.size W2 W' → Calls Tryz.prog 110 #[.pointer (some ⟨q, 0, none⟩), stV s, .agg #[.int .i64 4, .bool (decide (s.M = 1)), .int .u64 (s.v : Int), .string ⟨#[]⟩]] W' (IAns q A n c f size mo g O (stI S) R W)) := Lib.hid fun hM1 W2 W' hs hr hb => by
      rw [hR (by omega)]
      unfold bod
      rw [if_pos hM1]
      refine (put_leaf (e := ⟨4, decide (s.M = 1), s.v, ⟨#[]⟩⟩) (hr.below hb) hv hd s hps (wfE_lit (by omega) hsv (Nat.zero_le _)) rfl (show (4 : Int) ≠ 5 by decide) (show (4 : Int) ≠ 15 by decide) one4 (fun hh => absurd hh.2.1 (show (4 : Int) ≠ 9 by decide)) _ rfl).mono fun r w' hz => hz.from_ ((Stb.of hs).trans (.below hb))
    have P45 : Hid (∀ kk w, (s.M = 4 ∧ kk = 11 ∧ w = 1) ∨ (s.M = 5 ∧ kk = 12 ∧ w = 2) → ∀ W2 W', Stp q W W2 → Rdw W2 q A n c f size mo g k O S → Below W2.heap.size W2 W' → Calls Tryz.prog 112 #[.pointer (some ⟨q, 0, none⟩), stV s, .int .i64 kk, .int .i64 ((w : Nat) : Int)] W' (IAns q A n c f size mo g O (stI S) R W)) := Lib.hid fun kk w hm W2 W' hs hr hb => by
      have e1 : bod size d (sub size d) S.n s = mnR size d kk w S.n s := by
        unfold bod mnR
        rw [if_neg (by omega), if_neg (by omega), if_pos (by omega)]
        rcases hm with ⟨h4, rfl, rfl⟩ | ⟨h5, rfl, rfl⟩
        · rw [h4]; rfl
        · rw [h5]; rfl
      rw [hR (by omega), e1]
      exact (many_any hI (hr.below hb) hv hd s hps hsv hx2 kk w (by omega)).mono fun r w' hz => hz.from_ ((Stb.of hs).trans (.below hb))
    have P6 : Hid (s.M = 6 → ∀ W2 W', Stp q W W2 → Rdw W2 q A n c f size mo g k O S → Below W2.heap.size W2 W' → Calls Tryz.prog 113 #[.pointer (some ⟨q, 0, none⟩), stV s] W' (IAns q A n c f size mo g O (stI S) R W)) := Lib.hid fun hM6 W2 W' hs hr hb => by
      have e1 : bod size d (sub size d) S.n s = tgR size d S.n s := by
        unfold bod tgR
        rw [if_neg (by omega), if_neg (by omega), if_neg (by omega), if_pos hM6]
      rw [hR (by omega), e1]
      exact (tag_any hI (hr.below hb) hv hd s hps hsv).mono fun r w' hz => hz.from_ ((Stb.of hs).trans (.below hb))
    have P7 : Hid (s.M = 7 → ∀ W2 W', Stp q W W2 → Rdw W2 q A n c f size mo g k O S → Below W2.heap.size W2 W' → Calls Tryz.prog 114 #[.pointer (some ⟨q, 0, none⟩), stV s] W' (IAns q A n c f size mo g O (stI S) R W)) := Lib.hid fun hM7' W2 W' hs hr hb => by
      by_cases h31 : s.x = 31
      · have hRi := hRb (hb255.2 ⟨hM7', h31⟩)
        refine (other_bad (hr.below hb).r s h31).mono fun r w' ⟨a1, a2⟩ => ⟨O, ((Stb.of hs).trans (.below hb)).trans (.of a1), .inr ⟨i, 4, hRi, ?_⟩⟩
        rw [a2, hp]
      · have e1 : bod size d (sub size d) S.n s = lef S.n s.p (oth s) := by
          unfold bod
          rw [if_neg (by omega), if_neg (by omega), if_neg (by omega), if_neg (by omega)]
        rw [hR (fun hb => h31 (hb255.1 hb).2), e1]
        exact (other_any (hr.below hb) hv hd s hps (by omega) n0 (fun hx => ⟨(n1 hx).1, (n1 hx).2 hM7'⟩) n2 n3 hsv).mono fun r w' hz => hz.from_ ((Stb.of hs).trans (.below hb))
    -- bytes and texts
    have P23 : Hid ((s.M = 2 ∨ s.M = 3) → ∀ W2 W', Stp q W W2 → Rdw W2 q A n c f size mo g k O S → Below W2.heap.size W2 W' → (∀ b k2, str size s f n k = .ok b k2 → Calls Tryz.prog 111 #[.pointer (some ⟨q, 0, none⟩), stV s] W' fun r w' => r = .returned (.string b) ∧ Stp q W' w' ∧ ∀ W3, Below w'.heap.size w' W3 → Calls Tryz.prog 110 #[.pointer (some ⟨q, 0, none⟩), stV s, .agg #[.int .i64 (if s.M = 2 then 9 else 10), .bool false, .int .u64 0, .string b]] W3 (IAns q A n c f size mo g O (stI S) R W)) ∧ (∀ p' e', str size s f n k = .no p' e' → Calls Tryz.prog 111 #[.pointer (some ⟨q, 0, none⟩), stV s] W' fun r w' => r = .panicked [{ v := rfV (p' : Int) (adj mo e' : Int), recovered := false }] ∧ IAns q A n c f size mo g O (stI S) R W r w')) := Lib.hid fun hM23 W2 W' hs hr hb => by
      have e1 : bod size d (sub size d) S.n s = (str size s).bind fun b => lef S.n s.p (.mk (if s.M = 2 then 9 else 10) false 0 b []) := by
        unfold bod
        rw [if_neg (by omega), if_pos (by omega)]
      have hRs := hR (by omega)
      rw [e1] at hRs
      have hst := stretch_any (hr.below hb).r s hps hM23 hsv hx2
      refine ⟨fun b k2 hb2 => hst.mono fun r w' ⟨a1, a2⟩ => ?_, fun p' e' hb2 => hst.mono fun r w' ⟨a1, a2⟩ => ?_⟩
      · rcases a2 with ⟨a, k3, b1, b2, b3⟩ | ⟨p2, e2, b1, _⟩
        · rw [hb2] at b1
          injection b1 with t1 t2
          subst t1 t2
          refine ⟨b2, a1, fun W3 hb3 => ?_⟩
          rw [bind_ok hb2] at hRs
          rw [hRs]
          have hsb := str_size hkn hb2
          have hk2 := ((dt_str size s).ok hkn hb2).2.1
          have hr3 : Rdw W3 q A n c f size mo g k2 O S := ((hr.below hb).stp a1 b3).below hb3
          have hk2p : s.p ≤ k2 := by omega
          by_cases h2 : s.M = 2
          · rw [if_pos h2]
            refine (put_leaf (e := ⟨9, false, 0, b⟩) hr3 hv hd s hk2p (wfE_lit (by omega) (by omega) (by unfold maxLen; omega)) rfl (show (9 : Int) ≠ 5 by decide) (show (9 : Int) ≠ 15 by decide) one9 (fun hz => ?_) _ rfl).mono fun r w' hz => hz.from_ ((((Stb.of hs).trans (.below hb)).trans (.of a1)).trans (.below hb3))
            have hby : byi size f n i = .ok b k2 := by
              unfold byi
              rw [bind_ok hh]
              exact hb2
            have hbf := ht hz.1 hlt (by omega) b k2 hby
            have hbt : big b = true := hz.2.2
            rw [hbf] at hbt
            cases hbt
          · rw [if_neg h2]
            exact (put_leaf (e := ⟨10, false, 0, b⟩) hr3 hv hd s hk2p (wfE_lit (by omega) (by omega) (by unfold maxLen; omega)) rfl (show (10 : Int) ≠ 5 by decide) (show (10 : Int) ≠ 15 by decide) (one10 (str_right (fun j _ => h.r.hf j) hkn hb2 (by omega))) (fun hz => absurd hz.2.1 (show (10 : Int) ≠ 9 by decide)) _ rfl).mono fun r w' hz => hz.from_ ((((Stb.of hs).trans (.below hb)).trans (.of a1)).trans (.below hb3))
        · rw [hb2] at b1; cases b1
      · rcases a2 with ⟨a, k3, b1, _, _⟩ | ⟨p2, e2, b1, b2⟩
        · rw [hb2] at b1; cases b1
        · rw [hb2] at b1
          injection b1 with t1 t2
          subst t1 t2
          rw [bind_no hb2] at hRs
          exact ⟨b2, O, ((Stb.of hs).trans (.below hb)).trans (.of a1), .inr ⟨p', e', hRs, b2⟩⟩
    have P4 : Hid (s.M = 4 → ∀ W2 W', Stp q W W2 → Rdw W2 q A n c f size mo g k O S → Below W2.heap.size W2 W' → Calls Tryz.prog 112 #[.pointer (some ⟨q, 0, none⟩), stV s, .int .i64 11, .int .i64 1] W' (IAns q A n c f size mo g O (stI S) R W)) := Lib.hid fun h4 => P45.out 11 1 (.inl ⟨h4, rfl, rfl⟩)
    have P5 : Hid (s.M = 5 → ∀ W2 W', Stp q W W2 → Rdw W2 q A n c f size mo g k O S → Below W2.heap.size W2 W' → Calls Tryz.prog 112 #[.pointer (some ⟨q, 0, none⟩), stV s, .int .i64 12, .int .i64 2] W' (IAns q A n c f size mo g O (stI S) R W)) := Lib.hid fun h5 => P45.out 12 2 (.inr ⟨h5, rfl, rfl⟩)
    have HSTR : Hid (∀ Z : Prop, ((∃ b k2, str size s f n k = .ok b k2) → Z) → ((∃ p' e', str size s f n k = .no p' e') → Z) → Z) := Lib.hid fun Z z1 z2 => by
      cases hz : str size s f n k with
      | ok b k2 => exact z1 ⟨b, k2, hz⟩
      | no p' e' => exact z2 ⟨p', e', hz⟩
    have hM7' : s.M = 0 ∨ s.M = 1 ∨ s.M = 2 ∨ s.M = 3 ∨ s.M = 4 ∨ s.M = 5 ∨ s.M = 6 ∨ s.M = 7 := by omega
    obtain ⟨p, M, x, v⟩ := s
    unfold stV at HST P01 P4 P5 P6 P7 P23
    dsimp only at HST P01 P4 P5 P6 P7 P23 HSTR hM7'
    clear P45 hI h hv hd ht hR hRb hRR hS7 hb255 g0 g1 hgv hp hM hx hx2 hM7 hsv n0 n1 n2 n3 hh hlt hik hkn hps hin hsz
    go_enter Tryz.func69, Tryz.ntmps69
    go_wp2_with fail
    with_reducible refine HST.out.mono ?_
    rintro r w2 ⟨rfl, hs2, h2⟩
    obtain ⟨W3, hW3⟩ : ∃ W3, w2.alloc (.cells #[.int .i64 (p : Int), .int .i64 (M : Int), .int .i64 (x : Int), .int .u64 (v : Int)] 156) = W3 := ⟨_, rfl⟩
    obtain ⟨W4, hW4⟩ : ∃ W4, W3.alloc (.cells #[.int .i64 4, .bool false, .int .u64 (v : Int), .string ⟨#[]⟩] 159) = W4 := ⟨_, rfl⟩
    have hb3 : Below w2.heap.size w2 W3 := by rw [← hW3]; exact (Below.refl _ _).alloc (Nat.le_refl _) _
    have hk3 : Bk W3 w2.heap.size 156 #[.int .i64 (p : Int), .int .i64 (M : Int), .int .i64 (x : Int), .int .u64 (v : Int)] := by rw [← hW3]; exact heap_alloc_last _ _
    have hb4 : Below W3.heap.size W3 W4 := by rw [← hW4]; exact (Below.refl _ _).alloc (Nat.le_refl _) _
    have hk4 : Bk W4 W3.heap.size 159 #[.int .i64 4, .bool false, .int .u64 (v : Int), .string ⟨#[]⟩] := by rw [← hW4]; exact heap_alloc_last _ _
    have hk5 := hk3.below hb4 hk3.lt
    have HB4 := Lib.hid (hb3.trans (hb4.mono hb3.size))
    have HZ : Hid (w2.heap.size ≤ W3.heap.size) := Lib.hid hb3.size
    have hz1 : w2.heap.size ≠ W3.heap.size := by have := hk3.lt; omega
    have hz2 : W3.heap.size ≠ w2.heap.size := fun e => hz1 e.symm
    obtain ⟨c0, c1, c2, c3⟩ := hk3.c4
    obtain ⟨d0, d1, d2, d3⟩ := hk5.c4
    obtain ⟨y0, y1, y2, y3⟩ := hk4.c4
    have yf0 := hk4.frozen 0
    have yf1 := hk4.frozen 1
    have yf2 := hk4.frozen 2
    have yf3 := hk4.frozen 3
    have HK5 := Lib.hid hk5
    have HLT : Hid (w2.heap.size < W3.heap.size) := Lib.hid hk3.lt
    have H2 := Lib.hid (And.intro hs2 h2)
    clear hs2 h2 hb3 hk3 hb4 hk4 hk5 HST
    go_upto_region 1 with fail
    first | rw [hW3] | skip
    go_upto_region 2 with fail
    first | rw [hW4] | skip
    clear hW3 hW4
    rcases hM7' with hM0 | hM0 | hM0 | hM0 | hM0 | hM0 | hM0 | hM0
    · have e1 : (((M : Nat) : Int) == 1) = false := by simp; omega
      have e0 : (((M : Nat) : Int) == 0) = true := by simp; omega
      have hdec : decide (M = 1) = false := by simp; omega
      rw [hdec] at P01
      have HM := Lib.hid (P01.out (by omega))
      clear P01 P4 P5 P6 P7 P23 HSTR hM0 hdec
      go_wp2_with fail
      with_reducible refine Calls.mono (HM.out _ _ H2.out.1 H2.out.2 ?hb0) ?_
      case hb0 => repeat (first | exact HB4.out | refine Below.setCell ?_ HZ.out _)
      rintro r w5 ⟨O5, hs5, ⟨a, k5, hh5, rfl, h5⟩ | ⟨p', e', hh5, rfl⟩⟩
      · have HF := Lib.hid (And.intro hs5 (And.intro h5 hh5))
        clear hs5 h5 hh5
        go_wp2_with fail
        go_end0
        exact ⟨O5, HF.out.1, .inl ⟨a, k5, HF.out.2.2, rfl, HF.out.2.1⟩⟩
      · have HF := Lib.hid (And.intro hs5 hh5)
        clear hs5 hh5
        go_wp2_with fail
        exact ⟨rfl, O5, HF.out.1, .inr ⟨p', e', HF.out.2, rfl⟩⟩
    · have e1 : (((M : Nat) : Int) == 1) = true := by simp; omega
      have hdec : decide (M = 1) = true := by simp; omega
      rw [hdec] at P01
      have HM := Lib.hid (P01.out (by omega))
      clear P01 P4 P5 P6 P7 P23 HSTR hM0 hdec
      go_wp2_with fail
      with_reducible refine Calls.mono (HM.out _ _ H2.out.1 H2.out.2 ?hb1) ?_
      case hb1 => repeat (first | exact HB4.out | refine Below.setCell ?_ HZ.out _)
      rintro r w5 ⟨O5, hs5, ⟨a, k5, hh5, rfl, h5⟩ | ⟨p', e', hh5, rfl⟩⟩
      · have HF := Lib.hid (And.intro hs5 (And.intro h5 hh5))
        clear hs5 h5 hh5
        go_wp2_with fail
        go_end0
        exact ⟨O5, HF.out.1, .inl ⟨a, k5, HF.out.2.2, rfl, HF.out.2.1⟩⟩
      · have HF := Lib.hid (And.intro hs5 hh5)
        clear hs5 hh5
        go_wp2_with fail
        exact ⟨rfl, O5, HF.out.1, .inr ⟨p', e', HF.out.2, rfl⟩⟩
    · have e1 : (((M : Nat) : Int) == 1) = false := by simp; omega
      have e0 : (((M : Nat) : Int) == 0) = false := by simp; omega
      have e2 : (((M : Nat) : Int) == 2) = true := by simp; omega
      have hif : (if M = 2 then (9 : Int) else 10) = 9 := by rw [if_pos hM0]
      rw [hif] at P23
      have HM := Lib.hid (P23.out (by omega))
      have HD4 : Hid (Below w2.heap.size w2 (W4.setCell ⟨W3.heap.size, 3, none⟩ (.string ⟨#[]⟩)).drew) := Lib.hid (Below.drew (Below.setCell HB4.out HZ.out _))
      have HQ := Lib.hid (HM.out _ _ H2.out.1 H2.out.2 HD4.out)
      have HK6 : Hid (Bk (W4.setCell ⟨W3.heap.size, 3, none⟩ (.string ⟨#[]⟩)).drew w2.heap.size 156 #[.int .i64 (p : Int), .int .i64 (M : Int), .int .i64 (x : Int), .int .u64 (v : Int)]) := Lib.hid (HK5.out.below (Below.drew (Below.setCell (Below.refl _ _) (Nat.le_refl _) _)) HLT.out)
      have HKK : Hid (∀ w', Stp q (W4.setCell ⟨W3.heap.size, 3, none⟩ (.string ⟨#[]⟩)).drew w' → w'.cell? ⟨w2.heap.size, 0, none⟩ = some (.int .i64 (p : Int)) ∧ w'.cell? ⟨w2.heap.size, 1, none⟩ = some (.int .i64 (M : Int)) ∧ w'.cell? ⟨w2.heap.size, 2, none⟩ = some (.int .i64 (x : Int)) ∧ w'.cell? ⟨w2.heap.size, 3, none⟩ = some (.int .u64 (v : Int))) := Lib.hid fun w' hs => by
        have hq : w2.heap.size ≠ q := by have := H2.out.2.r.b.lt; omega
        have hkk : Bk w' w2.heap.size 156 #[.int .i64 (p : Int), .int .i64 (M : Int), .int .i64 (x : Int), .int .u64 (v : Int)] := (hs.block (b := w2.heap.size) HK6.out.lt hq).trans HK6.out
        exact hkk.c4
      clear P01 P4 P5 P6 P7 P23 hM0 hif HM
      refine HSTR.out _ ?_ ?_
      · rintro ⟨b, k2, hst⟩
        have HQ1 := Lib.hid (HQ.out.1 b k2 hst)
        clear HQ hst HSTR
        go_upto_region 13 with fail
        all_goals
          go_region_with (first
              | (go_at_call 111; (with_reducible refine HQ1.out.mono ?_); rintro r w6 ⟨rfl, hs6, hput⟩; obtain ⟨u0, u1, u2, u3⟩ := HKK.out w6 hs6)
              | (go_at_call 110; (with_reducible refine (hput _ (Below.refl _ _)).mono ?_); rintro r w7 ⟨O5, hs5, hor⟩; rcases hor with ⟨a, k5, hh5, rfl, h5⟩ | ⟨p', e', hh5, rfl⟩; rotate_left; (· exact And.intro rfl ⟨O5, hs5, .inr ⟨p', e', hh5, rfl⟩⟩)))
        all_goals
          have HF := Lib.hid (And.intro hs5 (And.intro h5 hh5))
          clear hs5 h5 hh5
          go_wp2_with fail
          go_end0
          exact ⟨O5, HF.out.1, .inl ⟨a, k5, HF.out.2.2, rfl, HF.out.2.1⟩⟩
      · rintro ⟨p', e', hst⟩
        have HQ2 := Lib.hid (HQ.out.2 p' e' hst)
        clear HQ hst HSTR
        go_upto_region 13 with fail
        all_goals
          go_region_with (go_at_call 111; (with_reducible refine HQ2.out.mono ?_); rintro r w6 ⟨rfl, hz6⟩; refine (fun (_ : wpAny Tryz.prog .any #[] (fun _ _ _ => True) 0 #[] { tmps := #[], defers := [] } w6) => And.intro rfl hz6) ?_)
        all_goals trivial
    · have e1 : (((M : Nat) : Int) == 1) = false := by simp; omega
      have e0 : (((M : Nat) : Int) == 0) = false := by simp; omega
      have e2 : (((M : Nat) : Int) == 2) = false := by simp; omega
      have e3 : (((M : Nat) : Int) == 3) = true := by simp; omega
      have hif : (if M = 2 then (9 : Int) else 10) = 10 := by rw [if_neg (by omega)]
      rw [hif] at P23
      have HM := Lib.hid (P23.out (by omega))
      have HD4 : Hid (Below w2.heap.size w2 (W4.setCell ⟨W3.heap.size, 3, none⟩ (.string ⟨#[]⟩)).drew) := Lib.hid (Below.drew (Below.setCell HB4.out HZ.out _))
      have HQ := Lib.hid (HM.out _ _ H2.out.1 H2.out.2 HD4.out)
      have HK6 : Hid (Bk (W4.setCell ⟨W3.heap.size, 3, none⟩ (.string ⟨#[]⟩)).drew w2.heap.size 156 #[.int .i64 (p : Int), .int .i64 (M : Int), .int .i64 (x : Int), .int .u64 (v : Int)]) := Lib.hid (HK5.out.below (Below.drew (Below.setCell (Below.refl _ _) (Nat.le_refl _) _)) HLT.out)
      have HKK : Hid (∀ w', Stp q (W4.setCell ⟨W3.heap.size, 3, none⟩ (.string ⟨#[]⟩)).drew w' → w'.cell? ⟨w2.heap.size, 0, none⟩ = some (.int .i64 (p : Int)) ∧ w'.cell? ⟨w2.heap.size, 1, none⟩ = some (.int .i64 (M : Int)) ∧ w'.cell? ⟨w2.heap.size, 2, none⟩ = some (.int .i64 (x : Int)) ∧ w'.cell? ⟨w2.heap.size, 3, none⟩ = some (.int .u64 (v : Int))) := Lib.hid fun w' hs => by
        have hq : w2.heap.size ≠ q := by have := H2.out.2.r.b.lt; omega
        have hkk : Bk w' w2.heap.size 156 #[.int .i64 (p : Int), .int .i64 (M : Int), .int .i64 (x : Int), .int .u64 (v : Int)] := (hs.block (b := w2.heap.size) HK6.out.lt hq).trans HK6.out
        exact hkk.c4
      clear P01 P4 P5 P6 P7 P23 hM0 hif HM
      refine HSTR.out _ ?_ ?_
      · rintro ⟨b, k2, hst⟩
        have HQ1 := Lib.hid (HQ.out.1 b k2 hst)
        clear HQ hst HSTR
        go_upto_region 14 with fail
        all_goals
          go_region_with (first
              | (go_at_call 111; (with_reducible refine HQ1.out.mono ?_); rintro r w6 ⟨rfl, hs6, hput⟩; obtain ⟨u0, u1, u2, u3⟩ := HKK.out w6 hs6)
              | (go_at_call 110; (with_reducible refine (hput _ (Below.refl _ _)).mono ?_); rintro r w7 ⟨O5, hs5, hor⟩; rcases hor with ⟨a, k5, hh5, rfl, h5⟩ | ⟨p', e', hh5, rfl⟩; rotate_left; (· exact And.intro rfl ⟨O5, hs5, .inr ⟨p', e', hh5, rfl⟩⟩)))
        all_goals
          have HF := Lib.hid (And.intro hs5 (And.intro h5 hh5))
          clear hs5 h5 hh5
          go_wp2_with fail
          go_end0
          exact ⟨O5, HF.out.1, .inl ⟨a, k5, HF.out.2.2, rfl, HF.out.2.1⟩⟩
      · rintro ⟨p', e', hst⟩
        have HQ2 := Lib.hid (HQ.out.2 p' e' hst)
        clear HQ hst HSTR
        go_upto_region 14 with fail
        all_goals
          go_region_with (go_at_call 111; (with_reducible refine HQ2.out.mono ?_); rintro r w6 ⟨rfl, hz6⟩; refine (fun (_ : wpAny Tryz.prog .any #[] (fun _ _ _ => True) 0 #[] { tmps := #[], defers := [] } w6) => And.intro rfl hz6) ?_)
        all_goals trivial
    · have e1 : (((M : Nat) : Int) == 1) = false := by simp; omega
      have e0 : (((M : Nat) : Int) == 0) = false := by simp; omega
      have e2 : (((M : Nat) : Int) == 2) = false := by simp; omega
      have e3 : (((M : Nat) : Int) == 3) = false := by simp; omega
      have e4 : (((M : Nat) : Int) == 4) = true := by simp; omega
      have HM := Lib.hid (P4.out hM0)
      clear P01 P4 P5 P6 P7 P23 HSTR hM0
      go_wp2_with fail
      with_reducible refine Calls.mono (HM.out _ _ H2.out.1 H2.out.2 ?hb2) ?_
      case hb2 => repeat (first | exact HB4.out | refine Below.setCell ?_ HZ.out _)
      rintro r w5 ⟨O5, hs5, ⟨a, k5, hh5, rfl, h5⟩ | ⟨p', e', hh5, rfl⟩⟩
      · have HF := Lib.hid (And.intro hs5 (And.intro h5 hh5))
        clear hs5 h5 hh5
        go_wp2_with fail
        go_end0
        exact ⟨O5, HF.out.1, .inl ⟨a, k5, HF.out.2.2, rfl, HF.out.2.1⟩⟩
      · have HF := Lib.hid (And.intro hs5 hh5)
        clear hs5 hh5
        go_wp2_with fail
        exact ⟨rfl, O5, HF.out.1, .inr ⟨p', e', HF.out.2, rfl⟩⟩
    · have e1 : (((M : Nat) : Int) == 1) = false := by simp; omega
      have e0 : (((M : Nat) : Int) == 0) = false := by simp; omega
      have e2 : (((M : Nat) : Int) == 2) = false := by simp; omega
      have e3 : (((M : Nat) : Int) == 3) = false := by simp; omega
      have e4 : (((M : Nat) : Int) == 4) = false := by simp; omega
      have e5 : (((M : Nat) : Int) == 5) = true := by simp; omega
      have HM := Lib.hid (P5.out hM0)
      clear P01 P4 P5 P6 P7 P23 HSTR hM0
      go_wp2_with fail
      with_reducible refine Calls.mono (HM.out _ _ H2.out.1 H2.out.2 ?hb3) ?_
      case hb3 => repeat (first | exact HB4.out | refine Below.setCell ?_ HZ.out _)
      rintro r w5 ⟨O5, hs5, ⟨a, k5, hh5, rfl, h5⟩ | ⟨p', e', hh5, rfl⟩⟩
      · have HF := Lib.hid (And.intro hs5 (And.intro h5 hh5))
        clear hs5 h5 hh5
        go_wp2_with fail
        go_end0
        exact ⟨O5, HF.out.1, .inl ⟨a, k5, HF.out.2.2, rfl, HF.out.2.1⟩⟩
      · have HF := Lib.hid (And.intro hs5 hh5)
        clear hs5 hh5
        go_wp2_with fail
        exact ⟨rfl, O5, HF.out.1, .inr ⟨p', e', HF.out.2, rfl⟩⟩
    · have e1 : (((M : Nat) : Int) == 1) = false := by simp; omega
      have e0 : (((M : Nat) : Int) == 0) = false := by simp; omega
      have e2 : (((M : Nat) : Int) == 2) = false := by simp; omega
      have e3 : (((M : Nat) : Int) == 3) = false := by simp; omega
      have e4 : (((M : Nat) : Int) == 4) = false := by simp; omega
      have e5 : (((M : Nat) : Int) == 5) = false := by simp; omega
      have e6 : (((M : Nat) : Int) == 6) = true := by simp; omega
      have HM := Lib.hid (P6.out hM0)
      clear P01 P4 P5 P6 P7 P23 HSTR hM0
      go_wp2_with fail
      with_reducible refine Calls.mono (HM.out _ _ H2.out.1 H2.out.2 ?hb4) ?_
      case hb4 => repeat (first | exact HB4.out | refine Below.setCell ?_ HZ.out _)
      rintro r w5 ⟨O5, hs5, ⟨a, k5, hh5, rfl, h5⟩ | ⟨p', e', hh5, rfl⟩⟩
      · have HF := Lib.hid (And.intro hs5 (And.intro h5 hh5))
        clear hs5 h5 hh5
        go_wp2_with fail
        go_end0
        exact ⟨O5, HF.out.1, .inl ⟨a, k5, HF.out.2.2, rfl, HF.out.2.1⟩⟩
      · have HF := Lib.hid (And.intro hs5 hh5)
        clear hs5 hh5
        go_wp2_with fail
        exact ⟨rfl, O5, HF.out.1, .inr ⟨p', e', HF.out.2, rfl⟩⟩
    · have e1 : (((M : Nat) : Int) == 1) = false := by simp; omega
      have e0 : (((M : Nat) : Int) == 0) = false := by simp; omega
      have e2 : (((M : Nat) : Int) == 2) = false := by simp; omega
      have e3 : (((M : Nat) : Int) == 3) = false := by simp; omega
      have e4 : (((M : Nat) : Int) == 4) = false := by simp; omega
      have e5 : (((M : Nat) : Int) == 5) = false := by simp; omega
      have e6 : (((M : Nat) : Int) == 6) = false := by simp; omega
      have e7 : (((M : Nat) : Int) == 7) = true := by simp; omega
      have HM := Lib.hid (P7.out hM0)
      clear P01 P4 P5 P6 P7 P23 HSTR hM0
      go_wp2_with fail
      with_reducible refine Calls.mono (HM.out _ _ H2.out.1 H2.out.2 ?hb5) ?_
      case hb5 => repeat (first | exact HB4.out | refine Below.setCell ?_ HZ.out _)
      rintro r w5 ⟨O5, hs5, ⟨a, k5, hh5, rfl, h5⟩ | ⟨p', e', hh5, rfl⟩⟩
      · have HF := Lib.hid (And.intro hs5 (And.intro h5 hh5))
        clear hs5 h5 hh5
        go_wp2_with fail
        go_end0
        exact ⟨O5, HF.out.1, .inl ⟨a, k5, HF.out.2.2, rfl, HF.out.2.1⟩⟩
      · have HF := Lib.hid (And.intro hs5 hh5)
        clear hs5 hh5
        go_wp2_with fail
        exact ⟨rfl, O5, HF.out.1, .inr ⟨p', e', HF.out.2, rfl⟩⟩
end
end Go.Proofs.YtpcladdipgchbaaGreatDoor.nn
namespace Go.Proofs.YtpcladdipgchbaaGreatDoor.nn
open Go.RowKit

section
variable {W W' : World} {q : Nat} {A : Option Addr} {n c : Nat} {f : Nat → Nat} {size : Nat} {mo : Bool} {g i i' : Nat} {O O' : Nat → Prop} {S S' : Bst}
theorem itm_all : ∀ d, Itm q A n c f size mo g d
  | 0 => item_any fun _ he => by omega
  | d + 1 => item_any fun e he => by
    obtain rfl : d = e := by omega
    exact itm_all d
/-- what whole ends with, of what an item has come to -/
def whR (mo : Bool) (n : Nat) : Rs Vc → Option (Nat × Nat)
  | .no p e => some (p, adj mo e)
  | .ok _ k => if k < n then some (k, 4) else if mo = true then some (k, 8) else none
/-- what whole answers -/
def WhAns (q : Nat) (A : Option Addr) (n c : Nat) (f : Nat → Nat) (size : Nat) (mo : Bool) (g : Nat) (O : Nat → Prop) (S : Bst) (R : Rs Vc) (W : World) (r : Ending) (W' : World) : Prop :=
  ∃ O', Stb q O W O' W' ∧ ((∃ a, whR mo n R = none ∧ R = .ok a n ∧ r = .returned (.tuple #[]) ∧ Rdw W' q A n c f size mo g n O' (stI S a)) ∨ (∃ p e, whR mo n R = some (p, e) ∧ r = .panicked [{ v := rfV (p : Int) (e : Int), recovered := false }]))
set_option maxRecDepth 100000 in
set_option maxHeartbeats 4000000 in
theorem whole_any {d : Nat} (h : Rdw W q A n c f size mo g 0 O S) (hv : S.v = none) (hop : S.op = []) (hd : S.op.length + d = S.most) :
    Calls Tryz.prog 40 #[.pointer (some ⟨q, 0, none⟩)] W (WhAns q A n c f size mo g O S (rdI size d S.n f n 0) W) := by
  have HI := Lib.hid (itm_all d W 0 O S h hv hd (fun hh => by rw [hop] at hh; cases hh))
  obtain ⟨R, hR⟩ : ∃ R, rdI size d S.n f n 0 = R := ⟨_, rfl⟩
  rw [hR] at HI ⊢
  clear h hv hop hd hR
  go_enter Tryz.func40, Tryz.ntmps40
  go_wp2_with fail
  with_reducible refine HI.out.mono ?_
  rintro r w2 ⟨O2, hs2, ⟨a, k, hRR, rfl, h2⟩ | ⟨p', e', hRR, rfl⟩⟩
  · obtain ⟨c0, c1, c2, c3, c4⟩ := h2.r.b.c5
    have hkn := h2.r.i
    have hsz := h2.r.sz
    have HR4 : Hid (∀ W', Below w2.heap.size w2 W' → Calls Tryz.prog 70 #[.pointer (some ⟨q, 0, none⟩), .int .i64 (k : Int), .int .i64 4] W' fun r w' => r = .panicked [{ v := rfV (k : Int) 4, recovered := false }] ∧ Stb q O W O2 w') := Lib.hid fun W' hb => (refuse_any (h2.r.below hb) k 4).mono fun r w' ⟨e1, e2⟩ => ⟨by rw [e1]; rfl, by rw [e2]; exact hs2.trans (.below hb)⟩
    have HR8 : Hid (∀ W', Below w2.heap.size w2 W' → Calls Tryz.prog 70 #[.pointer (some ⟨q, 0, none⟩), .int .i64 (k : Int), .int .i64 8] W' fun r w' => r = .panicked [{ v := rfV (k : Int) 8, recovered := false }] ∧ Stb q O W O2 w') := Lib.hid fun W' hb => (refuse_any (h2.r.below hb) k 8).mono fun r w' ⟨e1, e2⟩ => ⟨by rw [e1]; rfl, by rw [e2]; exact hs2.trans (.below hb)⟩
    have HD : Hid (∀ k, Below w2.heap.size w2 (w2.drewN k)) := Lib.hid fun k => dnB (Below.refl _ _) k
    have HF := Lib.hid (And.intro hs2 h2)
    have HRR := Lib.hid hRR
    clear HI hs2 h2 hRR
    by_cases hk : k < n
    · have HK := Lib.hid hk
      have e1 : decide ((k : Int) < (n : Int)) = true := decide_eq_true (by omega)
      clear hk hkn hsz
      go_upto_region 1 with fail
      go_quiet (fail)
      go_wp2_with fail
      refine (HR4.out _ (HD.out _)).mono ?_
      rintro r w' ⟨rfl, hz⟩
      have HZ := Lib.hid hz
      clear hz
      go_wp2_with fail
      exact ⟨rfl, O2, HZ.out, .inr ⟨k, 4, by rw [HRR.out]; exact if_pos HK.out, rfl⟩⟩
    · obtain rfl : k = n := by omega
      have e1 : decide ((k : Int) < (k : Int)) = false := decide_eq_false (by omega)
      clear hk hkn hsz
      cases mo
      · go_upto_region 1 with fail
        go_quiet (fail)
        go_wp2_with fail
        go_end0
        exact ⟨O2, HF.out.1.trans (.below (HD.out _)), .inl ⟨a, by rw [HRR.out]; exact (if_neg (Nat.lt_irrefl _)).trans rfl, HRR.out, rfl, HF.out.2.below (HD.out _)⟩⟩
      · go_upto_region 1 with fail
        go_quiet (fail)
        go_wp2_with fail
        refine (HR8.out _ (HD.out _)).mono ?_
        rintro r w' ⟨rfl, hz⟩
        have HZ := Lib.hid hz
        clear hz
        go_wp2_with fail
        exact ⟨rfl, O2, HZ.out, .inr ⟨k, 8, by rw [HRR.out]; exact (if_neg (Nat.lt_irrefl _)).trans rfl, rfl⟩⟩
  · have HF := Lib.hid (And.intro hs2 hRR)
    clear HI hs2 hRR
    go_wp2_with fail
    exact ⟨rfl, O2, HF.out.1, .inr ⟨p', adj mo e', by rw [HF.out.2]; rfl, rfl⟩⟩
end
end Go.Proofs.YtpcladdipgchbaaGreatDoor.nn
