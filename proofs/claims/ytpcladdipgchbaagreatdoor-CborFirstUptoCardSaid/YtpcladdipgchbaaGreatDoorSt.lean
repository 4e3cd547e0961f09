/- Joined texts, what is wanted of them: CbL, CbM, CbN. -/
import Derived.Deep.DeepCutAuto
import Derived.Test.YtpcladdipgchbaaGreatDoorProg
import Derived.WalkKit
import Derived.Lib.Hide
import Derived.WalkSpells
import Derived.Deep.QuietTactic
import Derived.BigQuiet
import Derived.Deep.RegionHeld3
import Derived.Laws.BitsAllLaws
import Derived.Test.YtpcladdipgchbaaGreatDoorShelf
import Derived.Deep.RegionWith
import Derived.IntWalk
import Derived.Deep.CutBlock
import Derived.StillTailTactics
import Derived.Test.YtpcladdipgchbaaGreatDoorSp
import Derived.Test.YtpcladdipgchbaaGreatDoorSd
import Derived.Test.YtpcladdipgchbaaGreatDoorSg
import Derived.Test.YtpcladdipgchbaaGreatDoorSo
import Derived.Test.YtpcladdipgchbaaGreatDoorSa
import Derived.Test.YtpcladdipgchbaaGreatDoorSc
namespace Go.Proofs.YtpcladdipgchbaaGreatDoor.nn
open Go.RowKit

/-- items of less than a bound are written -/
def Its (w0 : World) (b : Nat) (o : Bool) (t : VT) : Prop := ∀ (C : Value) (l : List UInt8) (W : World), Lst w0 C t.l → Below w0.heap.size w0 W → Wr w0.heap.size b l o W → l.length + (itB o t).length + 20 ≤ 140737488355328 →
  Calls Tryz.prog 36 #[.pointer (some ⟨b, 0, none⟩), vv t C] W (ItAns w0.heap.size b (l ++ itB o t) o (ext t) W)
theorem extL_take {L : List VT} {i : Nat} (h : i < L.length) (hx : ext L[i] = true) : extL L = true := by
  have h1 := extL_take_succ h
  rw [hx, Bool.or_true] at h1
  have h2 := extL_app (L.take (i + 1)) (L.drop (i + 1))
  rw [List.take_append_drop, h1, Bool.true_or] at h2
  exact h2
theorem itL_take_le {o : Bool} {L : List VT} {i : Nat} (h : i < L.length) : (itL o (L.take i)).length + (itB o L[i]).length ≤ (itL o L).length := by
  have h1 := congrArg List.length (itL_take_succ (o := o) h)
  have h2 := congrArg List.length (itL_app o (L.take (i + 1)) (L.drop (i + 1)))
  rw [List.take_append_drop] at h2
  simp only [List.length_append] at h1 h2
  omega
set_option maxRecDepth 100000 in
set_option maxHeartbeats 8000000 in
theorem wmany_any (w0 : World) (b : Nat) (o : Bool) (M c : Nat) (L : List VT) (V : Value) (l : List UInt8) (w : World) (hL : Lst w0 V L) (hw : Below w0.heap.size w0 w) (h : Wr w0.heap.size b l o w) (hM : M ≤ 6) (hc : c < 9223372036854775808)
    (hLn : L.length ≤ 1099511627776) (hle : l.length + (hdO o M c).length + (itL o L).length + 20 ≤ 140737488355328) (ih : ∀ t, t ∈ L → Its w0 b o t) :
    Calls Tryz.prog 62 #[.pointer (some ⟨b, 0, none⟩), .int .i64 (M : Int), .int .i64 (c : Int), V] w (ItAns w0.heap.size b (l ++ (hdO o M c ++ (itL o L ++ enO o))) o (extL L) w) := by
  have hBw := hw.size
  obtain ⟨A, cc, rfl, hlc, hA⟩ := hL.out
  have hb := h.lt
  have HB := Lib.hid h.choose_spec.1
  have h9 := hdO_le o M c
  have H1 : Hid (WrAns w0.heap.size b (l ++ hdO o M c) o w = WrAns w0.heap.size b (l ++ hdO o M c) o w) := Lib.hid rfl
  clear H1
  have c1 := h.choose_spec.c1
  obtain ⟨l1, hl1⟩ : ∃ l1, l ++ hdO o M c = l1 := ⟨_, rfl⟩
  have hll : l1.length = l.length + (hdO o M c).length := by rw [← hl1, List.length_append]
  have HF1 : Hid (o = true → Calls Tryz.prog 102 #[.pointer (some ⟨b, 0, none⟩), .int .i64 (M : Int), .int .i64 31] w (WrAns w0.heap.size b l1 o w)) := Lib.hid fun ho => by
    rw [← hl1]
    subst ho
    exact wfirst_any w0.heap.size b l true M 31 w h (by omega) (by decide) (by omega) hBw
  have HF0 : Hid (o = false → Calls Tryz.prog 58 #[.pointer (some ⟨b, 0, none⟩), .int .i64 (M : Int), .int .u64 (c : Int)] w (WrAns w0.heap.size b l1 o w)) := Lib.hid fun ho => by
    rw [← hl1]
    subst ho
    exact whead_any w0.heap.size b l false M c w h (by omega) (hd_ok6 c hM) (by omega) (by omega) hBw
  have HT : Hid (l ++ (hdO o M c ++ (itL o L ++ enO o)) = l1 ++ itL o L ++ enO o) := Lib.hid (by rw [← hl1]; simp only [List.append_assoc])
  have hwr : IntKind.u64.wrap (c : Int) = (c : Int) := by rw [IntKind.wrap_u64]; omega
  rw [HT.out]
  obtain ⟨X, hX⟩ : ∃ X, extL L = X := ⟨_, rfl⟩
  rw [hX]
  have HX := Lib.hid hX
  have hlen2 := len_cntL L
  have hIH := Lib.hid ih
  have HW0 := Lib.hid hw
  have hLl : L.length ≤ maxLen ∨ True := .inr trivial
  clear hLl hL h hX hl1 HT ih hlen2 hw
  have LOOP : Hid (∀ w1, Wr w0.heap.size b l1 o w1 → Below w0.heap.size w w1 → Kw b w w1 → Below w0.heap.size w0 w1) := Lib.hid fun w1 _ h2 _ => HW0.out.trans h2
  go_enter Tryz.func62, Tryz.ntmps62
  go_upto_if 13 with fail
  go_cut [24] (fun s24 wx => Hid (Wr w0.heap.size b l1 o wx ∧ Below w0.heap.size w wx ∧ Kw b w wx))
  case first =>
    cases o with
    | true =>
      have HF := Lib.hid (HF1.out rfl)
      clear HF0 HF1
      go_wp2_with fail
      refine HF.out.mono ?_
      rintro e w1 ⟨rfl, h1⟩
      have HH := Lib.hid h1
      clear h1
      go_wp2_with fail
      go_meet
      exact HH
    | false =>
      have HF := Lib.hid (HF0.out rfl)
      clear HF0 HF1
      go_wp2_with fail
      refine HF.out.mono ?_
      rintro e w1 ⟨rfl, h1⟩
      have HH := Lib.hid h1
      clear h1
      go_wp2_with fail
      go_meet
      exact HH
  case rest =>
    clear HF0 HF1 LOOP
    go_wp2_with fail
    go_loopw [24] (fun s24 wr => ∃ i : Nat, i ≤ L.length ∧ s24 = .int .i64 (i : Int) ∧ Hid (extL (L.take i) = false) ∧ Hid (Wr w0.heap.size b (l1 ++ itL o (L.take i)) o wr ∧ Below w0.heap.size w wr ∧ Kw b w wr)) (fun s24 _ => L.length - (intOf s24).toNat)
    case atStart => exact ⟨0, Nat.zero_le _, rfl, Lib.hid rfl, Lib.hid ⟨by rw [List.take_zero]; show Wr _ _ (l1 ++ []) _ _; rw [List.append_nil]; exact hcut.out.1, hcut.out.2⟩⟩
    case round =>
      obtain ⟨i, hi, rfl, he, hO⟩ := hrel
      by_cases hlt : i < L.length
      · rcases hA with ⟨_, h0, _⟩ | ⟨b1, off, D, rfl, hb1, hrow, hkid⟩
        · rw [h0] at hlt; exact absurd hlt (by simp)
        have hmem : L[i] ∈ L := List.getElem_mem hlt
        obtain ⟨t', ht'⟩ : ∃ t', L[i] = t' := ⟨_, rfl⟩
        obtain ⟨C', hC'⟩ : ∃ C', D i = C' := ⟨_, rfl⟩
        have hr := hrow i hlt
        have hkl := hkid i hlt
        have hxs := extL_take_succ hlt
        have hxt := fun h => extL_take (L := L) hlt h
        have hts := itL_take_succ (o := o) hlt
        have htl := itL_take_le (o := o) hlt
        rw [ht', hC'] at hr hkl
        rw [ht'] at hmem hxs hts htl
        rw [ht', HX.out] at hxt
        rw [he.out, Bool.false_or] at hxs
        obtain ⟨A', c', hC2, _⟩ := hkl.out
        obtain ⟨n', hn'⟩ : ∃ n', t'.l.length = n' := ⟨_, rfl⟩
        rw [hn'] at hC2
        subst hC2
        have hbw := HW0.out.trans hO.out.2.1
        have hr2 := hr.below hbw hb1
        have r0 := hr2.k
        have r1 := hr2.g
        have r2 := hr2.n
        have r3 := hr2.s
        have r4 := hr2.l
        have hszr := hbw.size
        have HI := Lib.hid (fun ob : Obj => hIH.out t' hmem (.slice A' n' c') (l1 ++ itL o (L.take i)) (wr.alloc ob) hkl (hbw.alloc hszr ob) (hO.out.1.below ((Below.refl _ _).alloc (Nat.le_refl _) ob)) (by rw [List.length_append]; omega))
        have HTS : Hid (l1 ++ itL o (L.take i) ++ itB o t' = l1 ++ itL o (L.take (i + 1))) := Lib.hid (by rw [hts, List.append_assoc])
        unfold ItAns vv at HI
        rw [HTS.out] at HI
        have HXS := Lib.hid hxs
        have HXT := Lib.hid hxt
        have HAL : Hid (∀ ob : Obj, Below w0.heap.size w (wr.alloc ob) ∧ Kw b w (wr.alloc ob)) := Lib.hid fun ob => ⟨hO.out.2.1.alloc hszr ob, hO.out.2.2.alloc ob⟩
        clear hr hr2 hkl hrow hkid ht' hC' hn' hxs hxt hts htl hbw hszr hmem
        go_wp2_with fail
        refine (HI.out _).mono ?_
        rintro e w2 ⟨⟨h2a, h2b⟩, ⟨hx, rfl, h2c⟩ | ⟨hx, rfl⟩⟩
        · have H2 := Lib.hid (And.intro h2c (And.intro ((HAL.out _).1.trans h2a) ((HAL.out _).2.trans h2b)))
          clear h2a h2b h2c r0 r1 r2 r3 r4 HI HAL
          go_wp2_with fail
          go_roundw
          case rel => exact ⟨i + 1, hlt, by go_num, Lib.hid (by rw [HXS.out]; exact hx), H2⟩
          case measure => simp [intOf]; omega
        · have H2 := Lib.hid (And.intro ((HAL.out _).1.trans h2a) ((HAL.out _).2.trans h2b))
          have HX1 := Lib.hid (HXT.out hx)
          clear h2a h2b r0 r1 r2 r3 r4 HI HAL
          go_wp2_with fail
          exact ⟨rfl, H2.out, .inr ⟨HX1.out, rfl⟩⟩
      · obtain rfl : i = L.length := by omega
        have hO2 := hO
        have he2 := he
        rw [List.take_length] at hO2 he2
        have HE : Hid (X = false) := Lib.hid (by rw [← HX.out]; exact he2.out)
        obtain ⟨v, hv⟩ := hO2.out.1
        have c0 := hv.c0
        have c2 := hv.c1
        have HV := Lib.hid hv
        clear hv hO he he2
        cases o with
        | false =>
          go_wp2_with fail
          go_end0
          exact ⟨⟨hO2.out.2.1, hO2.out.2.2⟩, .inl ⟨HE.out, rfl, by rw [show enO false = [] from rfl, List.append_nil]; exact hO2.out.1⟩⟩
        | true =>
          have hszr := (HW0.out.trans hO2.out.2.1).size
          have HR : Hid (Rd (wr.alloc (.cells #[.int .u8 255] 5)) .u8 (some ⟨wr.heap.size, 0, none⟩) 1 (gL [255])) := Lib.hid (rd_b1 wr (d := 255) (by decide) _)
          have HA := Lib.hid (HV.out.below ((Below.refl _ _).alloc (Nat.le_refl _) (.cells #[.int .u8 255] 5)))
          have hsz : w0.heap.size ≤ (wr.alloc (.cells #[.int .u8 255] 5)).heap.size := by simp; omega
          have HAL : Hid (Below w0.heap.size w (wr.alloc (.cells #[.int .u8 255] 5)) ∧ Kw b w (wr.alloc (.cells #[.int .u8 255] 5))) := Lib.hid ⟨hO2.out.2.1.alloc hszr _, hO2.out.2.2.alloc _⟩
          have hln : (l1 ++ itL true L).length + 1 ≤ 140737488355328 := by rw [List.length_append]; omega
          clear hszr
          go_wp2_with (at_builtin; refine wpList_appW rfl _ _ rfl w0.heap.size b v (l1 ++ itL true L) [255] true rfl HA.out (some ⟨wr.heap.size, 0, none⟩) 1 1 rfl rfl HR.out hln hsz ?_; intro v' w3 h3 hb3 hk3; have d0 := h3.c0; have f0 := h3.f0; have HB3 := Lib.hid h3; have HL3 := Lib.hid hb3; have HK3 := Lib.hid hk3; obtain ⟨A2, n2, c2, rfl⟩ := h3.form; clear h3 hb3 hk3 c0)
          go_end0
          exact ⟨⟨(HAL.out.1.trans HL3.out).setCell (p := ⟨b, 0, none⟩) HB.out _, (HAL.out.2.trans HK3.out).set 0 _⟩, .inl ⟨HE.out, rfl, HB3.out.put⟩⟩
end Go.Proofs.YtpcladdipgchbaaGreatDoor.nn
namespace Go.Proofs.YtpcladdipgchbaaGreatDoor.nn
open Go.RowKit

theorem ItAns.behind {w W : World} {B b : Nat} {l : List UInt8} {o x : Bool} {cs : Array Value} {e : Ending} {w' : World} {l0 : List UInt8} (h : Iw w B b l0 o cs W) (ha : ItAns B b l o x W e w') : ItAns B b l o x w e w' :=
  ⟨⟨h.bl.trans ha.1.1, h.kw.trans ha.1.2⟩, ha.2⟩
set_option maxRecDepth 100000 in
set_option maxHeartbeats 8000000 in
theorem item_many (w0 : World) (b : Nat) (l : List UInt8) (o : Bool) (t : VT) (C : Value) (w : World) (K M : Int) (hKM : (K = 11 ∧ M = 4) ∨ (K = 12 ∧ M = 5)) (h : Wr w0.heap.size b l o w) (hk : t.k = K) (hBw : w0.heap.size ≤ w.heap.size) (hC : ∃ A c, C = .slice A t.l.length c) (hLn : t.l.length ≤ 1099511627776)
    (hm : ∀ W, Below w0.heap.size w W → Wr w0.heap.size b l o W → Calls Tryz.prog 62 #[.pointer (some ⟨b, 0, none⟩), .int .i64 M, .int .i64 ((if K = 11 then t.l.length else t.l.length / 2 : Nat) : Int), C] W (ItAns w0.heap.size b (l ++ itB o t) o (extL t.l) W)) :
    Calls Tryz.prog 36 #[.pointer (some ⟨b, 0, none⟩), vv t C] w (ItAns w0.heap.size b (l ++ itB o t) o (extL t.l) w) := by
  obtain ⟨A, c, rfl⟩ := hC
  have HN := Lib.hid (Iw.new h hBw #[.int .i64 t.k, .bool t.g, .int .u64 (t.n : Int), .string t.s, .slice A t.l.length c])
  have H1 : Hid (∀ W, Iw w w0.heap.size b l o #[.int .i64 t.k, .bool t.g, .int .u64 (t.n : Int), .string t.s, .slice A t.l.length c] W → Calls Tryz.prog 62 #[.pointer (some ⟨b, 0, none⟩), .int .i64 M, .int .i64 ((if K = 11 then t.l.length else t.l.length / 2 : Nat) : Int), .slice A t.l.length c] W (ItAns w0.heap.size b (l ++ itB o t) o (extL t.l) w)) := Lib.hid fun W hW => (hm W hW.bl hW.wr).mono fun e w' ha => ItAns.behind hW ha
  obtain ⟨T, hT⟩ : ∃ T, l ++ itB o t = T := ⟨_, rfl⟩
  obtain ⟨X, hX⟩ : ∃ X, extL t.l = X := ⟨_, rfl⟩
  rw [hT, hX] at H1 ⊢
  unfold vv
  obtain ⟨n, hn⟩ : ∃ n, t.l.length = n := ⟨_, rfl⟩
  rw [hk, hn] at HN H1
  rw [hn] at hLn
  rw [hk, hn]
  clear hm hT hX hk hn h
  rcases hKM with ⟨rfl, rfl⟩ | ⟨rfl, rfl⟩
  · rw [if_pos rfl] at H1
    go_enter Tryz.func36, Tryz.ntmps36
    go_wp2_with fail
    refine (H1.out _ HN.out).mono ?_
    rintro e w2 ⟨⟨h2a, h2b⟩, ⟨hx, rfl, h2c⟩ | ⟨hx, rfl⟩⟩
    · have H2 := Lib.hid (And.intro (And.intro h2a h2b) (And.intro hx h2c))
      clear h2a h2b h2c hx
      go_wp2_with fail
      go_end0
      exact ⟨H2.out.1, .inl ⟨H2.out.2.1, rfl, H2.out.2.2⟩⟩
    · have H2 := Lib.hid (And.intro (And.intro h2a h2b) hx)
      clear h2a h2b hx
      go_wp2_with fail
      exact ⟨rfl, H2.out.1, .inr ⟨H2.out.2, rfl⟩⟩
  · rw [if_neg (by decide)] at H1
    have q2 : (n : Int) / 2 = ((n / 2 : Nat) : Int) := by omega
    have q3 : (n : Int).tdiv 2 = ((n / 2 : Nat) : Int) := by rw [Int.tdiv_eq_ediv_of_nonneg (by omega)]; omega
    obtain ⟨m, hm⟩ : ∃ m, n / 2 = m := ⟨_, rfl⟩
    rw [hm] at H1 q2 q3
    clear hm
    go_enter Tryz.func36, Tryz.ntmps36
    go_wp2_with fail
    refine (H1.out _ HN.out).mono ?_
    rintro e w2 ⟨⟨h2a, h2b⟩, ⟨hx, rfl, h2c⟩ | ⟨hx, rfl⟩⟩
    · have H2 := Lib.hid (And.intro (And.intro h2a h2b) (And.intro hx h2c))
      clear h2a h2b h2c hx
      go_wp2_with fail
      go_end0
      exact ⟨H2.out.1, .inl ⟨H2.out.2.1, rfl, H2.out.2.2⟩⟩
    · have H2 := Lib.hid (And.intro (And.intro h2a h2b) hx)
      clear h2a h2b hx
      go_wp2_with fail
      exact ⟨rfl, H2.out.1, .inr ⟨H2.out.2, rfl⟩⟩
end Go.Proofs.YtpcladdipgchbaaGreatDoor.nn
namespace Go.Proofs.YtpcladdipgchbaaGreatDoor.nn
open Go.RowKit

set_option maxRecDepth 100000 in
set_option maxHeartbeats 8000000 in
theorem item_tag (w0 : World) (b : Nat) (l : List UInt8) (o : Bool) (t u : VT) (C : Value) (w : World) (hl : t.l = [u]) (hC : Lst w0 C t.l) (hw : Below w0.heap.size w0 w) (h : Wr w0.heap.size b l o w) (hk : t.k = 13) (hn : t.n < 18446744073709551616)
    (hle : l.length + (itB o t).length + 20 ≤ 140737488355328) (ih : Its w0 b o u) :
    Calls Tryz.prog 36 #[.pointer (some ⟨b, 0, none⟩), vv t C] w (ItAns w0.heap.size b (l ++ itB o t) o (ext u) w) := by
  have hBw := hw.size
  obtain ⟨A, c, rfl, hlc, hA⟩ := hC.out
  rw [hl] at hA hlc
  rcases hA with ⟨_, h0, _⟩ | ⟨b1, off, D, rfl, hb1, hrow, hkid⟩
  · cases h0
  have hr := hrow 0 (by simp)
  have hkl := hkid 0 (by simp)
  rw [show ([u] : List VT)[0] = u from rfl, Nat.zero_mul, Nat.add_zero] at hr
  rw [show ([u] : List VT)[0] = u from rfl] at hkl
  obtain ⟨A', c', hC2, _⟩ := hkl.out
  obtain ⟨C', hC'⟩ : ∃ C', D 0 = C' := ⟨_, rfl⟩
  rw [hC'] at hr hkl hC2
  obtain ⟨n', hn'⟩ : ∃ n', u.l.length = n' := ⟨_, rfl⟩
  rw [hn'] at hC2
  subst hC2
  have h9 := hdP_le 6 t.n
  have hb := h.lt
  rw [hl, show ([u] : List VT).length = 1 from rfl]
  have hlc1 : 1 ≤ c := hlc
  have HN := Lib.hid (Iw.new h hBw #[.int .i64 t.k, .bool t.g, .int .u64 (t.n : Int), .string t.s, .slice (some ⟨b1, off, none⟩) 1 c])
  have H1 : Hid (∀ W, Iw w w0.heap.size b l o #[.int .i64 t.k, .bool t.g, .int .u64 (t.n : Int), .string t.s, .slice (some ⟨b1, off, none⟩) 1 c] W → Calls Tryz.prog 58 #[.pointer (some ⟨b, 0, none⟩), .int .i64 6, .int .u64 (t.n : Int)] W fun e w' => e = .returned (.tuple #[]) ∧ Iw w w0.heap.size b (l ++ hdP 6 t.n) o #[.int .i64 t.k, .bool t.g, .int .u64 (t.n : Int), .string t.s, .slice (some ⟨b1, off, none⟩) 1 c] w') := Lib.hid fun W hW =>
    (whead_any w0.heap.size b l o 6 t.n W hW.wr (by decide) (hd_ok6 _ (by decide)) hn (by omega) hW.sz).mono fun e w' hs => ⟨hs.1, hW.step hs hb⟩
  have hi : itB o t = hdP 6 t.n ++ itB o u := by
    rw [itB_mk, hk, hl]
    show hdP 6 t.n ++ (itB o u ++ []) = _
    rw [List.append_nil]
  rw [hi, List.length_append] at hle
  rw [hi, ← List.append_assoc]
  have H2 : Hid (∀ W, Iw w w0.heap.size b (l ++ hdP 6 t.n) o #[.int .i64 t.k, .bool t.g, .int .u64 (t.n : Int), .string t.s, .slice (some ⟨b1, off, none⟩) 1 c] W → Calls Tryz.prog 36 #[.pointer (some ⟨b, 0, none⟩), vv u (.slice A' n' c')] W (ItAns w0.heap.size b (l ++ hdP 6 t.n ++ itB o u) o (ext u) w)) := Lib.hid fun W hW =>
    (ih (.slice A' n' c') _ W hkl (hw.trans hW.bl) hW.wr (by rw [List.length_append]; omega)).mono fun e w' ha => ItAns.behind hW ha
  have HR : Hid (∀ W, Below w0.heap.size w W → Row W b1 off u (.slice A' n' c')) := Lib.hid fun W hW => hr.below (hw.trans hW) hb1
  obtain ⟨T, hT⟩ : ∃ T, l ++ hdP 6 t.n ++ itB o u = T := ⟨_, rfl⟩
  obtain ⟨P, hP⟩ : ∃ P, l ++ hdP 6 t.n = P := ⟨_, rfl⟩
  rw [hT, hP] at H2
  rw [hT]
  rw [hP] at H1
  obtain ⟨X, hX⟩ : ∃ X, ext u = X := ⟨_, rfl⟩
  rw [hX] at H2 ⊢
  unfold vv at H2 ⊢
  rw [hk] at HN H1 H2 ⊢
  clear h hb hi hT hP hX hk hl hrow hkid hr hkl hC' hn' ih hC h9
  go_enter Tryz.func36, Tryz.ntmps36
  go_wp2_with fail
  refine (H1.out _ HN.out).mono ?_
  rintro e w2 ⟨rfl, h2⟩
  have q4 : w2.cell? ⟨w.heap.size, 4, none⟩ = some (.slice (some ⟨b1, off, none⟩) 1 c) := h2.cell 4
  have hrw := HR.out w2 h2.bl
  have r0 := hrw.k
  have r1 := hrw.g
  have r2 := hrw.n
  have r3 := hrw.s
  have r4 := hrw.l
  have HH := Lib.hid h2
  clear h2 hrw
  go_wp2_with fail
  refine (H2.out _ HH.out).mono ?_
  rintro e w3 ⟨⟨h3a, h3b⟩, ⟨hx, rfl, h3c⟩ | ⟨hx, rfl⟩⟩
  · have H3 := Lib.hid (And.intro (And.intro h3a h3b) (And.intro hx h3c))
    clear h3a h3b h3c hx q4 r0 r1 r2 r3 r4
    go_wp2_with fail
    go_end0
    exact ⟨H3.out.1, .inl ⟨H3.out.2.1, rfl, H3.out.2.2⟩⟩
  · have H3 := Lib.hid (And.intro (And.intro h3a h3b) hx)
    clear h3a h3b hx q4 r0 r1 r2 r3 r4
    go_wp2_with fail
    exact ⟨rfl, H3.out.1, .inr ⟨H3.out.2, rfl⟩⟩
end Go.Proofs.YtpcladdipgchbaaGreatDoor.nn
