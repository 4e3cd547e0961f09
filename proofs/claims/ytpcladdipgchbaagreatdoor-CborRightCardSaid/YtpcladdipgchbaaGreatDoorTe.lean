/- Joined texts, what is wanted of them: RefEqual, Same11. -/
import Derived.Lib.Hide
import Derived.Deep.QuietTactic
import Derived.BigQuiet
import Derived.IntWalk
import Derived.Deep.RegionHeld3
import Derived.Test.YtpcladdipgchbaaGreatDoorProg
import Derived.WalkKit
import Derived.WalkSpells
import Derived.Laws.BitsAllLaws
import Derived.Test.YtpcladdipgchbaaGreatDoorShelf
import Derived.Deep.RegionWith
import Derived.Deep.CutBlock
import Derived.StillTailTactics
import Derived.Test.YtpcladdipgchbaaGreatDoorSa
namespace Go.Proofs.YtpcladdipgchbaaGreatDoor.nn
open Go.RowKit

theorem toList_inj {s t : ByteArray} (h : s.toList = t.toList) : s = t := by
  rw [ByteArray.toList_eq, ByteArray.toList_eq] at h
  exact ByteArray.ext (Array.toList_inj.1 h)
end Go.Proofs.YtpcladdipgchbaaGreatDoor.nn
namespace Go.Proofs.YtpcladdipgchbaaGreatDoor.nn
open Go.RowKit

set_option maxRecDepth 100000 in
set_option maxHeartbeats 2000000 in
theorem same11_any (N : Nat) : ∀ (t u : VT) (C D : Value) (w : World), cnt t ≤ N → N ≤ 4611686018427387904 → cnt u ≤ 4611686018427387904 → Lst w C t.l → Lst w D u.l →
    Calls Tryz.prog 19 #[vv t C, vv u D] w fun e w' => e = .returned (.bool (eqv t u)) ∧ Below w.heap.size w w' := by
  induction N with
  | zero => intro t u C D w h _ _ _ _; have := cnt_mk t; omega
  | succ N ih =>
    intro t u C D w hN hM hM2 hC hD
    have hcm := cnt_mk t
    have hll := len_cntL t.l
    have hcm2 := cnt_mk u
    have hll2 := len_cntL u.l
    have HB0 := Lib.hid (Box2.new w t C u D 25)
    have HE := Lib.hid (eqv_parts t u)
    obtain ⟨E, hE⟩ : ∃ E, eqv t u = E := ⟨_, rfl⟩
    rw [hE] at HE ⊢
    obtain ⟨A, c, rfl, hlc, hA⟩ := hC.out
    obtain ⟨A2, c2, rfl, hlc2, hA2⟩ := hD.out
    obtain ⟨l, hl⟩ : ∃ l, t.l = l := ⟨_, rfl⟩
    obtain ⟨l2, hl2⟩ : ∃ l, u.l = l := ⟨_, rfl⟩
    rw [hl] at hlc hA hcm hll HE HB0 ⊢
    rw [hl2] at hlc2 hA2 hcm2 hll2 HE HB0 ⊢
    obtain ⟨k, hk⟩ : ∃ k, t.k = k := ⟨_, rfl⟩
    obtain ⟨g, hg⟩ : ∃ k, t.g = k := ⟨_, rfl⟩
    obtain ⟨n, hn⟩ : ∃ k, t.n = k := ⟨_, rfl⟩
    obtain ⟨s, hs⟩ : ∃ k, t.s = k := ⟨_, rfl⟩
    obtain ⟨k2, hk2⟩ : ∃ k, u.k = k := ⟨_, rfl⟩
    obtain ⟨g2, hg2⟩ : ∃ k, u.g = k := ⟨_, rfl⟩
    obtain ⟨n2, hn2⟩ : ∃ k, u.n = k := ⟨_, rfl⟩
    obtain ⟨s2, hs2⟩ : ∃ k, u.s = k := ⟨_, rfl⟩
    unfold vv
    rw [hk, hg, hn, hs, hk2, hg2, hn2, hs2] at HE HB0 ⊢
    clear hE hC hD hl hl2 hk hg hn hs hk2 hg2 hn2 hs2
    have HF : Hid (k ≠ k2 ∨ g ≠ g2 ∨ n ≠ n2 ∨ s ≠ s2 ∨ l ≠ l2 → E = false) := Lib.hid fun h => by
      cases E with
      | false => rfl
      | true =>
        obtain ⟨e1, e2, e3, e4, e5⟩ := HE.out.1 rfl
        rcases h with h | h | h | h | h
        · exact absurd e1 h
        · exact absurd e2 h
        · exact absurd e3 h
        · exact absurd e4 h
        · exact absurd e5 h
    by_cases h1 : k = k2
    · subst h1
      by_cases h2 : g = g2
      · subst h2
        by_cases h3 : n = n2
        · subst h3
          by_cases h4 : s = s2
          · subst h4
            by_cases h5 : l.length = l2.length
            · have HT : Hid (E = true ↔ l = l2) := Lib.hid ⟨fun h => (HE.out.1 h).2.2.2.2, fun h => HE.out.2 ⟨rfl, rfl, rfl, rfl, h⟩⟩
              have H5 := Lib.hid h5
              rw [h5] at hlc hll HB0 ⊢
              clear h5 HE HF
              go_enter Tryz.func19, Tryz.ntmps19
              go_wp2_with fail
              go_loopw [5] (fun s5 wr => ∃ i : Nat, i ≤ l2.length ∧ s5 = .int .i64 (i : Int) ∧ Hid (l.take i = l2.take i) ∧ Hid (Box2 w t (.slice A l2.length c) u (.slice A2 l2.length c2) wr)) (fun s5 _ => l2.length - (intOf s5).toNat)
              case atStart => exact ⟨0, Nat.zero_le _, rfl, Lib.hid rfl, HB0⟩
              case round =>
                obtain ⟨i, hi, rfl, hm, hk⟩ := hrel
                have h4 : wr.cell? ⟨w.heap.size, 4, none⟩ = some (.slice A l2.length c) := hk.out.r.l
                have h4' : wr.cell? ⟨w.heap.size + 1, 4, none⟩ = some (.slice A2 l2.length c2) := hk.out.r2.l
                by_cases hlt : i < l2.length
                · have hlt1 : i < l.length := by rw [H5.out]; exact hlt
                  rcases hA with ⟨_, h0, _⟩ | ⟨b, off, DD, rfl, hb, hrow, hkid⟩
                  · rw [h0] at hlt1; exact absurd hlt1 (by simp)
                  rcases hA2 with ⟨_, h0, _⟩ | ⟨b2, off2, DD2, rfl, hb2, hrow2, hkid2⟩
                  · rw [h0] at hlt; exact absurd hlt (by simp)
                  obtain ⟨t', ht'⟩ : ∃ t', l[i] = t' := ⟨_, rfl⟩
                  obtain ⟨C', hC'⟩ : ∃ C', DD i = C' := ⟨_, rfl⟩
                  obtain ⟨u', hu'⟩ : ∃ t', l2[i] = t' := ⟨_, rfl⟩
                  obtain ⟨D', hD'⟩ : ∃ C', DD2 i = C' := ⟨_, rfl⟩
                  have hr := hrow i hlt1
                  have hkl := hkid i hlt1
                  have hr2 := hrow2 i hlt
                  have hkl2 := hkid2 i hlt
                  rw [ht', hC'] at hr hkl
                  rw [hu', hD'] at hr2 hkl2
                  have hcn := cnt_at hlt1
                  have hcn2 := cnt_at hlt
                  have ht1 := List.take_succ_eq_append_getElem hlt1
                  have ht2 := List.take_succ_eq_append_getElem hlt
                  rw [ht'] at hcn ht1
                  rw [hu'] at hcn2 ht2
                  have HX : Hid (∀ W, Box2 w t (.slice (some ⟨b, off, none⟩) l2.length c) u (.slice (some ⟨b2, off2, none⟩) l2.length c2) W → W.cell? ⟨w.heap.size, 4, none⟩ = some (.slice (some ⟨b, off, none⟩) l2.length c) ∧ W.cell? ⟨w.heap.size + 1, 4, none⟩ = some (.slice (some ⟨b2, off2, none⟩) l2.length c2) ∧
                      W.cell? ⟨b, off + i * 5, none⟩ = some (.int .i64 t'.k) ∧ W.cell? ⟨b, off + i * 5 + 1, none⟩ = some (.bool t'.g) ∧ W.cell? ⟨b, off + i * 5 + 2, none⟩ = some (.int .u64 (t'.n : Int)) ∧ W.cell? ⟨b, off + i * 5 + 3, none⟩ = some (.string t'.s) ∧ W.cell? ⟨b, off + i * 5 + 4, none⟩ = some C' ∧
                      W.cell? ⟨b2, off2 + i * 5, none⟩ = some (.int .i64 u'.k) ∧ W.cell? ⟨b2, off2 + i * 5 + 1, none⟩ = some (.bool u'.g) ∧ W.cell? ⟨b2, off2 + i * 5 + 2, none⟩ = some (.int .u64 (u'.n : Int)) ∧ W.cell? ⟨b2, off2 + i * 5 + 3, none⟩ = some (.string u'.s) ∧ W.cell? ⟨b2, off2 + i * 5 + 4, none⟩ = some D' ∧ Box2 w t (.slice (some ⟨b, off, none⟩) l2.length c) u (.slice (some ⟨b2, off2, none⟩) l2.length c2) W) := Lib.hid fun W hW =>
                    have r1 := hr.below hW.b hb
                    have r2 := hr2.below hW.b hb2
                    ⟨hW.r.l, hW.r2.l, r1.k, r1.g, r1.n, r1.s, r1.l, r2.k, r2.g, r2.n, r2.s, r2.l, hW⟩
                  have HI : Hid (∀ W, Box2 w t (.slice (some ⟨b, off, none⟩) l2.length c) u (.slice (some ⟨b2, off2, none⟩) l2.length c2) W → Calls Tryz.prog 19 #[vv t' C', vv u' D'] W fun e w' => e = .returned (.bool (eqv t' u')) ∧ Box2 w t (.slice (some ⟨b, off, none⟩) l2.length c) u (.slice (some ⟨b2, off2, none⟩) l2.length c2) w') := Lib.hid fun W hW =>
                    (ih t' u' C' D' W (by omega) (by omega) (by omega) (hkl.keep hW.b (Nat.le_refl _)) (hkl2.keep hW.b (Nat.le_refl _))).mono fun e w' ⟨he, hb⟩ => ⟨he, hW.on hb⟩
                  have HQ := Lib.hid (eqv_iff t' u')
                  obtain ⟨Q, hQ⟩ : ∃ Q, eqv t' u' = Q := ⟨_, rfl⟩
                  rw [hQ] at HI HQ
                  have HT1 := Lib.hid ht1
                  have HT2 := Lib.hid ht2
                  unfold vv at HI
                  clear hr hr2 hkl hkl2 hrow hrow2 hkid hkid2 ht' hC' hu' hD' hcn hcn2 ht1 ht2 ih hQ
                  cases Q with
                  | false =>
                    have HN : Hid (E = false) := Lib.hid (by
                      cases E with
                      | false => rfl
                      | true =>
                        have hll := HT.out.1 rfl
                        have h1 := HT1.out
                        rw [hll, HT2.out] at h1
                        have h2 : [u'] = [t'] := List.append_cancel_left h1
                        injection h2 with h3 _
                        exact absurd (HQ.out.2 h3.symm) (by decide))
                    have hk0 := hk.out.drew
                    have hx0 := HX.out _ hk0
                    go_wp2_with fail
                    go_region_held3 (fun W => W.cell? ⟨w.heap.size, 4, none⟩ = some (.slice (some ⟨b, off, none⟩) l2.length c) ∧ W.cell? ⟨w.heap.size + 1, 4, none⟩ = some (.slice (some ⟨b2, off2, none⟩) l2.length c2) ∧
                        W.cell? ⟨b, off + i * 5, none⟩ = some (.int .i64 t'.k) ∧ W.cell? ⟨b, off + i * 5 + 1, none⟩ = some (.bool t'.g) ∧ W.cell? ⟨b, off + i * 5 + 2, none⟩ = some (.int .u64 (t'.n : Int)) ∧ W.cell? ⟨b, off + i * 5 + 3, none⟩ = some (.string t'.s) ∧ W.cell? ⟨b, off + i * 5 + 4, none⟩ = some C' ∧
                        W.cell? ⟨b2, off2 + i * 5, none⟩ = some (.int .i64 u'.k) ∧ W.cell? ⟨b2, off2 + i * 5 + 1, none⟩ = some (.bool u'.g) ∧ W.cell? ⟨b2, off2 + i * 5 + 2, none⟩ = some (.int .u64 (u'.n : Int)) ∧ W.cell? ⟨b2, off2 + i * 5 + 3, none⟩ = some (.string u'.s) ∧ W.cell? ⟨b2, off2 + i * 5 + 4, none⟩ = some D' ∧ Box2 w t (.slice (some ⟨b, off, none⟩) l2.length c) u (.slice (some ⟨b2, off2, none⟩) l2.length c2) W) (first | exact HX.out _ ‹_› | exact HX.out _ (And.right ‹_›))
                      (first | (go_at_call 19; refine (HI.out _ ?_).mono ?_; (first | assumption | exact And.right ‹_›); rintro e w' ⟨rfl, hk5⟩))
                    clear h4 h4' hx0
                    go_wp2_with fail
                    go_ret
                    exact ⟨by rw [HN.out]; rfl, hk5.b⟩
                  | true =>
                    have hm2 : Hid (l.take (i + 1) = l2.take (i + 1)) := Lib.hid (by rw [HT1.out, HT2.out, hm.out, HQ.out.1 rfl])
                    have hk0 := hk.out.drew
                    have hx0 := HX.out _ hk0
                    go_wp2_with fail
                    go_region_held3 (fun W => W.cell? ⟨w.heap.size, 4, none⟩ = some (.slice (some ⟨b, off, none⟩) l2.length c) ∧ W.cell? ⟨w.heap.size + 1, 4, none⟩ = some (.slice (some ⟨b2, off2, none⟩) l2.length c2) ∧
                        W.cell? ⟨b, off + i * 5, none⟩ = some (.int .i64 t'.k) ∧ W.cell? ⟨b, off + i * 5 + 1, none⟩ = some (.bool t'.g) ∧ W.cell? ⟨b, off + i * 5 + 2, none⟩ = some (.int .u64 (t'.n : Int)) ∧ W.cell? ⟨b, off + i * 5 + 3, none⟩ = some (.string t'.s) ∧ W.cell? ⟨b, off + i * 5 + 4, none⟩ = some C' ∧
                        W.cell? ⟨b2, off2 + i * 5, none⟩ = some (.int .i64 u'.k) ∧ W.cell? ⟨b2, off2 + i * 5 + 1, none⟩ = some (.bool u'.g) ∧ W.cell? ⟨b2, off2 + i * 5 + 2, none⟩ = some (.int .u64 (u'.n : Int)) ∧ W.cell? ⟨b2, off2 + i * 5 + 3, none⟩ = some (.string u'.s) ∧ W.cell? ⟨b2, off2 + i * 5 + 4, none⟩ = some D' ∧ Box2 w t (.slice (some ⟨b, off, none⟩) l2.length c) u (.slice (some ⟨b2, off2, none⟩) l2.length c2) W) (first | exact HX.out _ ‹_› | exact HX.out _ (And.right ‹_›))
                      (first | (go_at_call 19; refine (HI.out _ ?_).mono ?_; (first | assumption | exact And.right ‹_›); rintro e w' ⟨rfl, hk5⟩))
                    clear h4 h4' hx0
                    go_wp2_with fail
                    go_roundw
                    case rel => exact ⟨i + 1, hlt, by go_num, hm2, Lib.hid hk5⟩
                    case measure => simp [intOf]; omega
                · obtain rfl : i = l2.length := by omega
                  have HN : Hid (E = true) := Lib.hid (HT.out.2 (by have := hm.out; rwa [List.take_length, ← H5.out, List.take_length] at this))
                  go_wp2_with fail
                  go_ret
                  exact ⟨by rw [HN.out]; rfl, hk.out.b⟩
            · have HN : Hid (E = false) := Lib.hid (HF.out (.inr (.inr (.inr (.inr fun h => h5 (by rw [h]))))))
              have q5 : ((l.length : Int) != (l2.length : Int)) = true := by simp; omega
              clear h5
              go_enter Tryz.func19, Tryz.ntmps19
              go_wp2_with fail
              go_ret
              exact ⟨by rw [HN.out]; rfl, HB0.out.b⟩
          · have HN : Hid (E = false) := Lib.hid (HF.out (.inr (.inr (.inr (.inl h4)))))
            have q4 : ¬ s.toList = s2.toList := fun h => h4 (toList_inj h)
            have q4' : (s.toList == s2.toList) = false := by simpa using q4
            have q4'' : (s.toList != s2.toList) = true := by simpa using q4
            clear h4
            go_enter Tryz.func19, Tryz.ntmps19
            go_wp2_with fail
            go_ret
            exact ⟨by rw [HN.out]; rfl, HB0.out.b⟩
        · have HN : Hid (E = false) := Lib.hid (HF.out (.inr (.inr (.inl h3))))
          have q3 : ((n : Int) != (n2 : Int)) = true := by simp; omega
          clear h3
          go_enter Tryz.func19, Tryz.ntmps19
          go_wp2_with fail
          go_ret
          exact ⟨by rw [HN.out]; rfl, HB0.out.b⟩
      · have HN : Hid (E = false) := Lib.hid (HF.out (.inr (.inl h2)))
        have hgg : (g = true ∧ g2 = false) ∨ (g = false ∧ g2 = true) := by cases g <;> cases g2 <;> simp_all
        clear h2 HE HF
        rcases hgg with ⟨rfl, rfl⟩ | ⟨rfl, rfl⟩
        all_goals
          go_enter Tryz.func19, Tryz.ntmps19
          go_wp2_with fail
          go_ret
          exact ⟨by rw [HN.out]; rfl, HB0.out.b⟩
    · have HN : Hid (E = false) := Lib.hid (HF.out (.inl h1))
      have q1 : (k != k2) = true := by simp [h1]
      clear h1
      go_enter Tryz.func19, Tryz.ntmps19
      go_wp2_with fail
      go_ret
      exact ⟨by rw [HN.out]; rfl, HB0.out.b⟩
end Go.Proofs.YtpcladdipgchbaaGreatDoor.nn
