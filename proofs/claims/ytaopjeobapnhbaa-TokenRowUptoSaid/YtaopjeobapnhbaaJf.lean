/- The document's List of tokens, and the walks of TokenLists and TokenRow. -/
import Derived.Test.YtaopjeobapnhbaaJe
import Derived.WalkKit
import Derived.Lib.Hide
import Derived.Deep.CutBlock
import Derived.BigQuiet
import Derived.Deep.QuietTactic
import Derived.Deep.DeepCutAuto
import Derived.KernelRfl
import Derived.Below
import Derived.Deep.WholeRow
import Derived.Great.Walk
import Derived.Laws.BitsAllLaws
import Derived.RowKit
import Derived.IntWalk
import Derived.Lib.MinMax
import Derived.Laws.BytesArg
import Derived.Laws.OwnMore
import Derived.Deep.AppendLies
import Derived.Deep.Draws
import Derived.Maps.AppendAt
import Derived.RegionTactic
import Derived.OwnWalk
import Derived.Deep.RegionLaw
import Derived.Lib.UnsafeStr
import Derived.Lib.AppendStr
import Derived.Lib.BitFns
import Derived.WalkSpells
import Derived.Laws.Rows
import Derived.Laws.Externs
import Derived.Deep.RegionHeld3
import Derived.Deep.RegionWith
import Derived.Deep.CutRange
import Derived.Deep.LoopGhost
import Derived.Laws.BitsLemmas
import Derived.Shelf.Spec.BitsCarry
import Derived.Laws.Bits64
import Derived.Laws.CopyOwn
import Derived.StillTailTactics
import Derived.Lib.Builder
import Derived.Lib.MakeNoZero
import Derived.OneCell
import Derived.BigRegion
import Derived.RangeFuncNested
import Derived.RangeFuncBound
import Derived.RangeFuncCalls
import Derived.RangeFuncLeaves
import Derived.Shelf.Abstract
import Derived.Shelf.RegionOpen
import Derived.OwnWalkIn
import Derived.TacticsInMore
import Derived.Laws.AppendOwn
import Derived.Maps.OwnIn
import Derived.RangeFuncBox
import Derived.ProofKit
import Derived.SizedLaws
import Derived.ChangeMaps5
namespace Go.Proofs.Ytaopjeobapnhbaa.nn
theorem tkL_one (t : Tk) : tkL [t] = tkC t := by simp [tkL]
end Go.Proofs.Ytaopjeobapnhbaa.nn
namespace Go.Proofs.Ytaopjeobapnhbaa.nn
open Go.RowKit

theorem info_tkR : (Try.prog.info? 27).map (fun i => (i.zero, i.size, i.bytes)) = some (some (.agg #[.int .u8 0, .int .i64 0, .int .i64 0, .string ⟨#[]⟩]), 4, 40) := by kernel_rfl
def LrAns (R : Rs (List Tk)) (w : World) (e : Ending) (w' : World) : Prop :=
  (match R with
  | .ok L n => ∃ v, e = .returned (.tuple #[v, .int .i64 (n : Int), .int .i64 0]) ∧ w'.ownsRow w.heap.size 27 4 v L.length (tkL L)
  | .no q er => e = .returned (.tuple #[.slice none 0 0, .int .i64 (q : Int), .int .i64 (er : Int)])) ∧ Below w.heap.size w w'
section
variable {w : World}
set_option maxRecDepth 100000 in
set_option maxHeartbeats 8000000 in
theorem rtlist_any (s : ByteArray) (hs : s.size ≤ 4194304) (R : Rs (List Tk)) (hR : Ls s 0 [] R) : Calls Try.prog 12 #[.string s] w (LrAns R w) := by
  obtain ⟨i0, hi0, hz0, hz1, hz2⟩ := info_out info_tkR
  have HR := Lib.hid hR
  clear hR
  go_enter Try.func12, Try.ntmps12
  go_wp2_with fail
  go_loopw [5, 6] (fun s5 s6 wr => ∃ (i : Nat) (L : List Tk), s6 = .int .i64 (i : Int) ∧ i ≤ s.size ∧ L.length ≤ i ∧ Hid (Ls s i L R ∧ wr.ownsRow w.heap.size 27 4 s5 L.length (tkL L)) ∧ Hid (Below w.heap.size w wr)) (fun _ s6 _ => s.size - (intOf s6).toNat)
  case atStart => exact ⟨0, [], rfl, Nat.zero_le _, Nat.le_refl _, Lib.hid ⟨HR.out, World.ownsRow_nil _ _ _ _⟩, Lib.hid (Below.refl _ _)⟩
  case round =>
    obtain ⟨i, L, rfl, hi, hL, HS, HB⟩ := hrel
    obtain ⟨A, c, hv⟩ := own_form_tk HS.out.2
    have hown := HS.out.2
    rw [hv] at hown
    have HN := Lib.hid (rtnext_any (w := wr) s i (by omega) hi)
    have HLS := Lib.hid HS.out.1
    clear HS
    cases hr : nxR s i with
    | no q e =>
      have he := rd_noz hr
      have hV : R = .no q e := HLS.out.at_no hr
      subst hV
      have k1 : ((e : Int) != 0) = true := by simp; omega
      rw [hr] at HN
      unfold nxV at HN
      simp only at HN
      unfold TkV at HN
      clear hr he hown HLS HR
      go_wp2_with fail
      refine HN.out.mono ?_
      rintro r w2 ⟨rfl, b2⟩
      have HB2 := Lib.hid ((HB.out.trans (b2.mono HB.out.size)).alloc (HB.out.trans (b2.mono HB.out.size)).size (.cells #[.int .u8 0, .int .i64 0, .int .i64 0, .string ⟨#[]⟩] 27))
      clear b2 HN
      go_wp2_with fail
      exact bodyPost_ret (v := .tuple #[.slice none 0 0, .int .i64 (q : Int), .int .i64 (e : Int)]) (by simp [results, Try.results12, go_sem]) rfl ⟨rfl, HB2.out⟩
    | ok t p =>
      obtain ⟨k, a, b, tt⟩ := t
      have hno := nx_ok hi hr
      simp only at hno
      rw [hr] at HN
      unfold nxV at HN
      simp only at HN
      unfold TkV at HN
      by_cases hk : k = 0
      · subst hk
        have hV : R = .ok L s.size := HLS.out.at_end hr rfl
        rw [show ((0 : Nat) : Int) = 0 from rfl] at HN
        have HV := Lib.hid hV
        clear hr hno HLS hV
        subst hv
        have HO := Lib.hid hown
        clear hown
        go_wp2_with fail
        refine HN.out.mono ?_
        rintro r w2 ⟨rfl, b2⟩
        have hbb := b2.alloc b2.size (.cells #[.int .u8 0, .int .i64 (a : Int), .int .i64 (b : Int), .string tt] 27)
        have HB2 := Lib.hid (HB.out.trans (hbb.mono HB.out.size))
        have HO2 := Lib.hid (own_below HO.out hbb)
        clear b2 HN hbb
        go_wp2_with fail
        exact bodyPost_ret (v := .tuple #[.slice A L.length c, .int .i64 (s.size : Int), .int .i64 0]) (by simp [results, Try.results12, go_sem]) rfl (by rw [HV.out]; exact ⟨⟨_, rfl, HO2.out⟩, HB2.out⟩)
      · have HM := Lib.hid (HLS.out.at_more hr hk)
        have hp : p ≤ s.size := hno.2.2.2.1
        have hip : i < p := by have := hno.1; have := hno.2.2.2.2.1 hk; omega
        have k3 : ((k : Int) == 0) = false := by simp; omega
        clear hr hno HLS hk
        subst hv
        have HO := Lib.hid hown
        clear hown
        go_wp2_with fail
        refine HN.out.mono ?_
        rintro r w2 ⟨rfl, b2⟩
        have HB2 := Lib.hid (HB.out.trans (b2.mono HB.out.size))
        have HO2 := Lib.hid (own_below HO.out b2)
        clear b2 HN
        go_upto_region 4 with fail
        obtain ⟨W2, hW2⟩ : ∃ W2, w2.alloc (.cells #[.int .u8 (k : Int), .int .i64 (a : Int), .int .i64 (b : Int), .string tt] 27) = W2 := ⟨_, rfl⟩
        have bb : Below w2.heap.size w2 W2 := by rw [← hW2]; exact (Below.refl _ _).alloc (Nat.le_refl _) _
        have k0 : W2.heap[w2.heap.size]? = some (.cells #[.int .u8 (k : Int), .int .i64 (a : Int), .int .i64 (b : Int), .string tt] 27 (0, 0)) := by rw [← hW2]; exact heap_alloc_last _ _
        have t0 := cell_of_row _ _ 0 _ _ _ k0
        have t1 := cell_of_row _ _ 1 _ _ _ k0
        have t2 := cell_of_row _ _ 2 _ _ _ k0
        have t3 := cell_of_row _ _ 3 _ _ _ k0
        rw [hW2]
        have hown3 := own_below HO2.out bb
        have HB3 := Lib.hid (HB2.out.trans (bb.mono HB2.out.size))
        have hsz : w.heap.size ≤ W2.heap.size := HB3.out.size
        clear hW2 bb k0 HB2 HO2 HO
        go_wp2_with (at_builtin; refine wpList_append_own_at _ rfl _ _ 36 rfl w.heap.size 27 i0 _ 4 40 Try.underlying36 hi0 hz0 hz1 hz2 rfl (by decide) (.slice A L.length c) L.length _ rfl (hown3.alloc _) ⟨W2.heap.size, 0, none⟩ 1 1 (tkC ⟨k, a, b, tt⟩) rfl rfl (tk_news W2 ⟨k, a, b, tt⟩ _) (fun y hy => by simp [tkC] at hy; rcases hy with rfl | rfl | rfl | rfl <;> rfl) (by unfold maxLen; omega) (by omega) (by simp; omega) ?_)
        intro v' w7 h7 hg7 _ hat
        have hbl : Below w.heap.size w w7 := (HB3.out.alloc HB3.out.size (.cells #[.int .u8 (k : Int), .int .i64 (a : Int), .int .i64 (b : Int), .string tt] 27)).grown hg7 (by simp; omega) (fun kk hk => (hown3.lt kk hk).1)
        have HF := Lib.hid (And.intro h7 hbl)
        clear h7 hg7 hat hbl hown3
        go_wp2_with fail
        go_roundw
        case rel => exact ⟨p, L ++ [⟨k, a, b, tt⟩], rfl, hp, by rw [List.length_append]; simp; omega, Lib.hid ⟨HM.out, by rw [List.length_append, tkL_app, tkL_one]; exact HF.out.1⟩, Lib.hid HF.out.2⟩
        case measure => exact esmeas rfl (by omega)
end
end Go.Proofs.Ytaopjeobapnhbaa.nn
namespace Go.Proofs.Ytaopjeobapnhbaa.nn
open Go.RowKit

theorem tkL_at : ∀ {L : List Tk} {i : Nat} (h : i < L.length) (k : Nat), k < 4 → (tkL L)[i * 4 + k]? = (tkC L[i])[k]?
  | t :: L, 0, _, k, hk => by
    show (tkC t ++ tkL L)[0 * 4 + k]? = _
    rw [Nat.zero_mul, Nat.zero_add, List.getElem?_append_left (by simpa [tkC] using hk)]
    rfl
  | t :: L, i + 1, h, k, hk => by
    show (tkC t ++ tkL L)[(i + 1) * 4 + k]? = _
    have hl : (tkC t).length = 4 := rfl
    rw [List.getElem?_append_right (by omega), hl, show (i + 1) * 4 + k - 4 = i * 4 + k by omega]
    exact tkL_at (Nat.lt_of_succ_lt_succ h) k hk
theorem own_head {w : World} {base n : Nat} {e : TypeId} {A : Option Addr} {m c : Nat} {xs : List Value} (h : w.ownsRow base e 4 (.slice A m c) n xs) (h0 : 0 < n) : ∃ g, A = some ⟨g, 0, none⟩ := by
  rcases h.2 with ⟨h1, h2⟩ | ⟨g, cap, cur, h1, _⟩
  · omega
  · injection h1 with h2; exact ⟨g, h2⟩
theorem own_tk {w : World} {base g c : Nat} {e : TypeId} {L : List Tk} (h : w.ownsRow base e 4 (.slice (some ⟨g, 0, none⟩) L.length c) L.length (tkL L)) {i : Nat} (hi : i < L.length) :
    w.cell? ⟨g, i * 4, none⟩ = some (.int .u8 ((L[i]).k : Int)) ∧ w.cell? ⟨g, i * 4 + 1, none⟩ = some (.int .i64 ((L[i]).a : Int)) ∧ w.cell? ⟨g, i * 4 + 2, none⟩ = some (.int .i64 ((L[i]).b : Int)) ∧ w.cell? ⟨g, i * 4 + 3, none⟩ = some (.string (L[i]).t) := by
  have key : ∀ k, k < 4 → w.cell? ⟨g, i * 4 + k, none⟩ = (tkC L[i])[k]? := fun k hk => (h.cellAt (i * 4 + k) (by omega)).trans (tkL_at hi k hk)
  exact ⟨key 0 (by decide), key 1 (by decide), key 2 (by decide), key 3 (by decide)⟩
theorem ls_len {s : ByteArray} {i : Nat} {L : List Tk} {R : Rs (List Tk)} (h : Ls s i L R) : i ≤ s.size → L.length ≤ i → ∀ M n, R = .ok M n → M.length ≤ s.size ∧ n = s.size := by
  induction h with
  | no _ => intro _ _ M n h; cases h
  | fin _ _ => intro hi hl M n h; injection h with h1 h2; subst h1 h2; exact ⟨by omega, rfl⟩
  | more h1 h2 h3 ih =>
    intro hi hl M n h
    have hn := nx_ok hi h1
    have h4 := hn.2.2.2.2.1 h2
    exact ih hn.2.2.2.1 (by rw [List.length_append]; have := hn.1; simp; omega) M n h
section
variable {w : World}
set_option maxRecDepth 100000 in
set_option maxHeartbeats 8000000 in
theorem tlists_any (s : ByteArray) (hs : s.size ≤ 1048576) (w : World) : Calls Try.prog 4 #[.string s] w fun e w' => e = .returned (.bool true) ∧ Below w.heap.size w w' := by
  obtain ⟨R, hR⟩ := Ls.ex s s.size 0 [] (Nat.zero_le _) (Nat.le_refl _)
  have h1 := tlist_any (w := w) s (by omega) R hR
  have h2 := fun W => rtlist_any (w := W) s (by omega) R hR
  have H4 := Lib.hid (fun W => awake14 (w := W))
  have HT := Lib.hid (fun (t : Tk) W => twin_any (w := W) t.k t.a t.b t.t)
  unfold LsAns at h1
  unfold LrAns at h2
  have hlen := ls_len hR (Nat.zero_le _) (Nat.le_refl _)
  clear hR
  cases R with
  | no q e =>
    clear hlen
    have H1 := Lib.hid h1
    have H2 := Lib.hid h2
    clear h1 h2 HT
    go_enter Try.func4, Try.ntmps4
    go_wp2_with fail
    refine H1.out.mono ?_
    rintro r w1 ⟨rfl, b1⟩
    have HB1 := Lib.hid b1
    clear b1 H1
    go_wp2_with fail
    refine (H2.out _).mono ?_
    rintro r w2 ⟨rfl, b2⟩
    have HB2 := Lib.hid (HB1.out.trans (b2.mono HB1.out.size))
    clear b2 H2 HB1
    go_wp2_with fail
    go_loopw [9] (fun s9 wr => s9 = .int .i64 0 ∧ Hid (Below w.heap.size w wr)) (fun _ _ => 0)
    case atStart => exact ⟨rfl, HB2⟩
    case round =>
      obtain ⟨rfl, HB⟩ := hrel
      go_wp2_with fail
      refine (H4.out _).mono ?_
      rintro r w3 ⟨rfl, b3⟩
      have HB3 := Lib.hid (HB.out.trans (b3.mono HB.out.size))
      clear b3 H4
      go_wp2_with fail
      go_ret
      exact ⟨rfl, HB3.out⟩
  | ok L n =>
    have hLn : L.length ≤ 1048576 := Nat.le_trans (hlen L n rfl).1 hs
    clear hlen
    have H1 := Lib.hid h1
    have H2 := Lib.hid h2
    clear h1 h2
    go_enter Try.func4, Try.ntmps4
    go_wp2_with fail
    refine H1.out.mono ?_
    rintro r w1 ⟨⟨v, rfl, o1⟩, b1⟩
    obtain ⟨A1, c1, rfl⟩ := own_form_tk o1
    have HO1 := Lib.hid o1
    have HB1 := Lib.hid b1
    clear b1 o1 H1
    go_wp2_with fail
    refine (H2.out _).mono ?_
    rintro r w2 ⟨⟨v2, rfl, o2⟩, b2⟩
    obtain ⟨A2, c2, rfl⟩ := own_form_tk o2
    have HB2 := Lib.hid (HB1.out.trans (b2.mono HB1.out.size))
    have HO2 := Lib.hid (And.intro (own_below HO1.out b2) o2)
    clear b2 o2 H2 HB1 HO1
    go_wp2_with fail
    go_loopw [9] (fun s9 wr => ∃ i : Nat, i ≤ L.length ∧ s9 = .int .i64 (i : Int) ∧ Hid (wr.ownsRow w.heap.size 23 4 (.slice A1 L.length c1) L.length (tkL L) ∧ wr.ownsRow w1.heap.size 27 4 (.slice A2 L.length c2) L.length (tkL L)) ∧ Hid (Below w.heap.size w wr)) (fun s9 _ => L.length - (intOf s9).toNat)
    case atStart => exact ⟨0, Nat.zero_le _, rfl, HO2, HB2⟩
    case round =>
      obtain ⟨i, hi, rfl, HO, HB⟩ := hrel
      by_cases hlt : i < L.length
      · obtain ⟨g1, rfl⟩ := own_head HO.out.1 (by omega)
        obtain ⟨g2, rfl⟩ := own_head HO.out.2 (by omega)
        obtain ⟨y0, y1, y2, y3⟩ := own_tk HO.out.1 hlt
        obtain ⟨z0, z1, z2, z3⟩ := own_tk HO.out.2 hlt
        have HT2 := Lib.hid (fun W => HT.out L[i] W)
        obtain ⟨t, ht⟩ : ∃ t, L[i] = t := ⟨_, rfl⟩
        rw [ht] at y0 y1 y2 y3 z0 z1 z2 z3 HT2
        unfold TkV at HT2
        have l1 : g1 < wr.heap.size := (HO.out.1.lt g1 rfl).2
        have l2 : g2 < wr.heap.size := (HO.out.2.lt g2 rfl).2
        have HX : Hid (∀ W, Below wr.heap.size wr W → W.cell? ⟨g1, i * 4, none⟩ = some (.int .u8 (t.k : Int)) ∧ W.cell? ⟨g1, i * 4 + 1, none⟩ = some (.int .i64 (t.a : Int)) ∧ W.cell? ⟨g1, i * 4 + 2, none⟩ = some (.int .i64 (t.b : Int)) ∧ W.cell? ⟨g1, i * 4 + 3, none⟩ = some (.string t.t) ∧ W.cell? ⟨g2, i * 4, none⟩ = some (.int .u8 (t.k : Int)) ∧ W.cell? ⟨g2, i * 4 + 1, none⟩ = some (.int .i64 (t.a : Int)) ∧ W.cell? ⟨g2, i * 4 + 2, none⟩ = some (.int .i64 (t.b : Int)) ∧ W.cell? ⟨g2, i * 4 + 3, none⟩ = some (.string t.t) ∧ Below wr.heap.size wr W) := Lib.hid fun W h => ⟨(h.cell (p := ⟨g1, i * 4, none⟩) l1).trans y0, (h.cell (p := ⟨g1, i * 4 + 1, none⟩) l1).trans y1, (h.cell (p := ⟨g1, i * 4 + 2, none⟩) l1).trans y2, (h.cell (p := ⟨g1, i * 4 + 3, none⟩) l1).trans y3, (h.cell (p := ⟨g2, i * 4, none⟩) l2).trans z0, (h.cell (p := ⟨g2, i * 4 + 1, none⟩) l2).trans z1, (h.cell (p := ⟨g2, i * 4 + 2, none⟩) l2).trans z2, (h.cell (p := ⟨g2, i * 4 + 3, none⟩) l2).trans z3, h⟩
        have HI : Hid (∀ W, Below wr.heap.size wr W → Calls Try.prog 9 #[.agg #[.int .u8 (t.k : Int), .int .i64 (t.a : Int), .int .i64 (t.b : Int), .string t.t], .agg #[.int .u8 (t.k : Int), .int .i64 (t.a : Int), .int .i64 (t.b : Int), .string t.t]] W fun e w' => e = .returned (.bool true) ∧ Below wr.heap.size wr w') := Lib.hid fun W h => (HT2.out W).mono fun e w' ⟨h1, h2⟩ => ⟨h1, h.trans (h2.mono h.size)⟩
        have hk0 : Below wr.heap.size wr wr.drew := (Below.refl _ _).drew
        have hx0 := HX.out _ hk0
        clear ht HT H4 HT2 y0 y1 y2 y3 z0 z1 z2 z3 l1 l2
        go_wp2_with fail
        go_region_held3 (fun W => W.cell? ⟨g1, i * 4, none⟩ = some (.int .u8 (t.k : Int)) ∧ W.cell? ⟨g1, i * 4 + 1, none⟩ = some (.int .i64 (t.a : Int)) ∧ W.cell? ⟨g1, i * 4 + 2, none⟩ = some (.int .i64 (t.b : Int)) ∧ W.cell? ⟨g1, i * 4 + 3, none⟩ = some (.string t.t) ∧ W.cell? ⟨g2, i * 4, none⟩ = some (.int .u8 (t.k : Int)) ∧ W.cell? ⟨g2, i * 4 + 1, none⟩ = some (.int .i64 (t.a : Int)) ∧ W.cell? ⟨g2, i * 4 + 2, none⟩ = some (.int .i64 (t.b : Int)) ∧ W.cell? ⟨g2, i * 4 + 3, none⟩ = some (.string t.t) ∧ Below wr.heap.size wr W) (first | exact HX.out _ ‹_› | exact HX.out _ (And.right ‹_›))
          (first | (go_at_call 9; refine (HI.out _ ?_).mono ?_; (first | assumption | exact And.right ‹_›); rintro e w' ⟨rfl, hk5⟩))
        clear hx0
        go_wp2_with fail
        go_roundw
        case rel => exact ⟨i + 1, hlt, by go_num, Lib.hid ⟨own_below HO.out.1 hk5, own_below HO.out.2 hk5⟩, Lib.hid (HB.out.trans (hk5.mono HB.out.size))⟩
        case measure => simp [intOf]; omega
      · obtain rfl : i = L.length := by omega
        clear hlt HT
        go_wp2_with fail
        refine (H4.out _).mono ?_
        rintro r w3 ⟨rfl, b3⟩
        have HB3 := Lib.hid (HB.out.trans (b3.mono HB.out.size))
        clear b3 H4
        go_wp2_with fail
        go_ret
        exact ⟨rfl, HB3.out⟩
end
end Go.Proofs.Ytaopjeobapnhbaa.nn
namespace Go.Proofs.Ytaopjeobapnhbaa.nn

theorem skf_blank {f : Nat → Nat} {n : Nat} : ∀ {u i k : Nat}, i ≤ k → k < skf f n u i → blnk (f k) = true
  | 0, i, k, h1, h2 => by rw [skf] at h2; omega
  | u + 1, i, k, h1, h2 => by
    rw [skf] at h2
    split at h2
    · rename_i h3
      by_cases e : k = i
      · rw [e]; exact h3.2
      · exact skf_blank (show i + 1 ≤ k by omega) h2
    · omega
theorem nx_blank {s : ByteArray} {i p : Nat} {t : Tk} (h : nxR s i = .ok t p) {k : Nat} (h1 : i ≤ k) (h2 : k < t.a) : blnk (bt s k) = true := by
  unfold nxR at h
  split at h
  · injection h with h3 h4
    subst h3
    exact skf_blank h1 h2
  · cases h
/-- tokens that stand one behind the other from i on, with blanks between -/
def Rowp (s : ByteArray) : Nat → List Tk → Prop
  | i, [] => i ≤ s.size ∧ ∀ k, i ≤ k → k < s.size → blnk (bt s k) = true
  | i, t :: T => i ≤ t.a ∧ (∀ k, i ≤ k → k < t.a → blnk (bt s k) = true) ∧ t.a < t.b ∧ t.b ≤ s.size ∧ Rowp s t.b T
theorem ls_row {s : ByteArray} {i : Nat} {L : List Tk} {R : Rs (List Tk)} (h : Ls s i L R) : i ≤ s.size → ∀ M n, R = .ok M n → ∃ T, M = L ++ T ∧ Rowp s i T := by
  induction h with
  | no _ => intro _ M n h; cases h
  | @fin i L t p h1 h2 =>
    intro hi M n h
    injection h with h3 h4
    have hn := nx_ok hi h1
    refine ⟨[], by rw [← h3, List.append_nil], hi, fun k hk hkn => nx_blank h1 hk (by rw [(hn.2.2.2.2.2.1 h2).1]; exact hkn)⟩
  | @more i L t p R h1 h2 h3 ih =>
    intro hi M n h
    have hn := nx_ok hi h1
    obtain ⟨T, h4, h5⟩ := ih hn.2.2.2.1 M n h
    refine ⟨t :: T, by rw [h4, List.append_assoc]; rfl, hn.1, fun k hk hkt => nx_blank h1 hk hkt, ?_, ?_, ?_⟩
    · rw [hn.2.1]; exact hn.2.2.2.2.1 h2
    · rw [hn.2.1]; exact hn.2.2.2.1
    · rw [hn.2.1]; exact h5
/-- the places of an error lie within the text -/
theorem nx_no {s : ByteArray} {i q e : Nat} (hi : i ≤ s.size) (hrd : ∀ {t : ByteArray} {q e : Nat}, rdR t = .no q e → e ≠ 0 ∧ q ≤ t.size) (h : nxR s i = .no q e) : q ≤ s.size := by
  unfold nxR at h
  obtain ⟨h1, h2⟩ := sk_le (f := bt s) hi
  split at h
  · cases h
  · rename_i h3
    injection h with h4 h5
    have := (hrd h3).2
    rw [ByteArray.size_extract] at this
    omega
theorem ls_no {s : ByteArray} {i : Nat} {L : List Tk} {R : Rs (List Tk)} (hrd : ∀ {t : ByteArray} {q e : Nat}, rdR t = .no q e → e ≠ 0 ∧ q ≤ t.size) (h : Ls s i L R) : i ≤ s.size → ∀ q e, R = .no q e → q ≤ s.size := by
  induction h with
  | no h1 => intro hi q e h; injection h with h3 h4; subst h3; exact nx_no hi hrd h1
  | fin _ _ => intro _ q e h; cases h
  | more h1 h2 h3 ih => intro hi q e h; exact ih (nx_ok hi h1).2.2.2.1 q e h
theorem ls_noz {s : ByteArray} {i : Nat} {L : List Tk} {R : Rs (List Tk)} (hrd : ∀ {t : ByteArray} {q e : Nat}, rdR t = .no q e → e ≠ 0 ∧ q ≤ t.size) (h : Ls s i L R) : ∀ q e, R = .no q e → e ≠ 0 := by
  induction h with
  | no h1 =>
    intro q e h
    injection h with h3 h4
    subst h3 h4
    unfold nxR at h1
    split at h1
    · cases h1
    · rename_i h5
      injection h1 with h6 h7
      rw [← h7]
      exact (hrd h5).1
  | fin _ _ => intro q e h; cases h
  | more _ _ _ ih => exact ih
end Go.Proofs.Ytaopjeobapnhbaa.nn
namespace Go.Proofs.Ytaopjeobapnhbaa.nn
open Go.RowKit

set_option maxRecDepth 100000 in
set_option maxHeartbeats 8000000 in
theorem trow_any (s : ByteArray) (hs : s.size ≤ 1048576) (w : World) : Calls Try.prog 5 #[.string s] w fun e w' => e = .returned (.bool true) ∧ Below w.heap.size w w' := by
  obtain ⟨R, hR⟩ := Ls.ex s s.size 0 [] (Nat.zero_le _) (Nat.le_refl _)
  have h1 := tlist_any (w := w) s (by omega) R hR
  have H4 := Lib.hid (fun W => awake14 (w := W))
  have hlen := ls_len hR (Nat.zero_le _) (Nat.le_refl _)
  have hrow := ls_row hR (Nat.zero_le _)
  have hno := ls_no (fun h => rd_no h) hR (Nat.zero_le _)
  unfold LsAns at h1
  cases R with
  | no q e =>
    have hq := hno q e rfl
    have he : e ≠ 0 := ls_noz (fun h => rd_no h) hR q e rfl
    have k1 : ((e : Int) != 0) = true := by simp; omega
    have k2 : decide ((q : Int) ≤ (s.size : Int)) = true := decide_eq_true (by omega)
    have k3 : decide ((0 : Int) ≤ (q : Int)) = true := decide_eq_true (by omega)
    have H1 := Lib.hid h1
    clear h1 hlen hrow hno hR he
    go_enter Try.func5, Try.ntmps5
    go_wp2_with fail
    refine H1.out.mono ?_
    rintro r w1 ⟨rfl, b1⟩
    have HB1 := Lib.hid b1
    clear b1 H1
    go_wp2_with fail
    refine (H4.out _).mono ?_
    rintro r w3 ⟨rfl, b3⟩
    have HB3 := Lib.hid (HB1.out.trans (b3.mono HB1.out.size))
    clear b3 H4
    go_wp2_with fail
    go_ret
    exact ⟨rfl, HB3.out⟩
  | ok L n =>
    have hn : n = s.size := (hlen L n rfl).2
    have hLn : L.length ≤ 1048576 := Nat.le_trans (hlen L n rfl).1 hs
    subst hn
    obtain ⟨T, hT, hrw⟩ := hrow L s.size rfl
    rw [List.nil_append] at hT
    subst hT
    have HR0 := Lib.hid hrw
    have H1 := Lib.hid h1
    clear h1 hlen hrow hno hR hrw
    go_enter Try.func5, Try.ntmps5
    go_wp2_with fail
    refine H1.out.mono ?_
    rintro r w1 ⟨⟨v, rfl, o1⟩, b1⟩
    obtain ⟨A1, c1, rfl⟩ := own_form_tk o1
    have HO1 := Lib.hid o1
    have HB1 := Lib.hid b1
    clear b1 o1 H1
    go_wp2_with fail
    go_loopw [6, 7] (fun s6 s7 wr => ∃ i at_ : Nat, i ≤ L.length + 1 ∧ at_ ≤ s.size ∧ s6 = .int .i64 (at_ : Int) ∧ s7 = .int .i64 (i : Int) ∧ Hid (i ≤ L.length → Rowp s at_ (L.drop i)) ∧ Hid (wr.ownsRow w.heap.size 23 4 (.slice A1 L.length c1) L.length (tkL L)) ∧ Hid (Below w.heap.size w wr)) (fun _ s7 _ => L.length + 1 - (intOf s7).toNat)
    case atStart => exact ⟨0, 0, Nat.zero_le _, Nat.zero_le _, rfl, rfl, Lib.hid fun _ => HR0.out, HO1, HB1⟩
    case round =>
      obtain ⟨i, at_, hi, has, rfl, rfl, HRW, HO, HB⟩ := hrel
      by_cases hlt : i < L.length
      · have hr := HRW.out (Nat.le_of_lt hlt)
        rw [List.drop_eq_getElem_cons hlt] at hr
        obtain ⟨g1, rfl⟩ := own_head HO.out (by omega)
        obtain ⟨y0, y1, y2, y3⟩ := own_tk HO.out hlt
        obtain ⟨t, ht⟩ : ∃ t, L[i] = t := ⟨_, rfl⟩
        rw [ht] at y0 y1 y2 y3 hr
        obtain ⟨hat, hbl, hab, hbn, hrest⟩ := hr
        obtain ⟨a, ha⟩ : ∃ a, t.a = a := ⟨_, rfl⟩
        obtain ⟨b, hb⟩ : ∃ b, t.b = b := ⟨_, rfl⟩
        rw [ha] at hat hbl hab y1
        rw [hb] at hab hbn hrest y2
        have HBL := Lib.hid hbl
        have HRE := Lib.hid hrest
        have k0 : decide ((i : Int) ≤ (L.length : Int)) = true := decide_eq_true (by omega)
        have k1 : decide ((i : Int) < (L.length : Int)) = true := decide_eq_true (by omega)
        have k2 : decide ((b : Int) ≤ (a : Int)) = false := decide_eq_false (by omega)
        have k3 : decide ((a : Int) < (at_ : Int)) = false := decide_eq_false (by omega)
        have k4 : decide ((s.size : Int) < (a : Int)) = false := decide_eq_false (by omega)
        have HTI := Lib.hid (And.intro ht hb)
        clear hbl hrest ht ha hb HRW y0 y3 H4
        go_wp2_with fail
        go_loopw [9] (fun s9 wi => ∃ k : Nat, at_ ≤ k ∧ k ≤ a ∧ s9 = .int .i64 (k : Int) ∧ Hid (wi.ownsRow w.heap.size 23 4 (.slice (some ⟨g1, 0, none⟩) L.length c1) L.length (tkL L)) ∧ Hid (Below w.heap.size w wi)) (fun s9 _ => a - (intOf s9).toNat)
        case atStart => exact ⟨at_, Nat.le_refl _, hat, rfl, by first | exact HO | exact Lib.hid (own_below HO.out (drew_below (Below.refl _ _) _)), by first | exact HB | exact Lib.hid (drew_below HB.out _)⟩
        case round =>
          obtain ⟨k, hk1, hk2, rfl, HO5, HB5⟩ := hrel
          by_cases hk : k < a
          · have hkn : k < s.size := by omega
            have hx := bt_at hkn
            obtain ⟨x, hxx⟩ : ∃ x, (s[k]).toNat = x := ⟨_, rfl⟩
            have hb7 := HBL.out k hk1 hk
            rw [hx, hxx] at hb7
            unfold blnk at hb7
            have hb7 := of_decide_eq_true hb7
            have hk3 : k + 1 ≤ a := hk
            clear hx
            rcases hb7 with rfl | rfl | rfl | rfl
            all_goals
              go_wp2_with fail
              go_roundw
              case rel => exact ⟨k + 1, by omega, hk3, by go_num, by first | exact HO5 | exact Lib.hid (own_below HO5.out (drew_below (Below.refl _ _) _)), by first | exact HB5 | exact Lib.hid (drew_below HB5.out _)⟩
              case measure => simp [intOf]; omega
          · obtain rfl : k = a := by omega
            clear hk hk1 hk2
            obtain ⟨z0, z1, z2, z3⟩ := own_tk HO5.out hlt
            rw [HTI.out.1, HTI.out.2] at z2
            clear z0 z1 z3
            go_wp2_with fail
            go_roundw
            case rel => exact ⟨i + 1, b, by omega, hbn, rfl, by go_num, Lib.hid fun _ => HRE.out, HO5, HB5⟩
            case measure => simp [intOf]; omega
      · by_cases hie : i = L.length
        · have hr := HRW.out (Nat.le_of_eq hie)
          rw [hie, List.drop_length] at hr
          obtain ⟨hat, hbl⟩ := hr
          have HBL := Lib.hid hbl
          have k0 : decide ((i : Int) ≤ (L.length : Int)) = true := decide_eq_true (by omega)
          have k1 : decide ((i : Int) < (L.length : Int)) = false := decide_eq_false (by omega)
          have k3 : decide ((s.size : Int) < (at_ : Int)) = false := decide_eq_false (by omega)
          clear hbl HRW H4
          go_wp2_with fail
          go_loopw [9] (fun s9 wi => ∃ k : Nat, at_ ≤ k ∧ k ≤ s.size ∧ s9 = .int .i64 (k : Int) ∧ Hid (wi.ownsRow w.heap.size 23 4 (.slice A1 L.length c1) L.length (tkL L)) ∧ Hid (Below w.heap.size w wi)) (fun s9 _ => s.size - (intOf s9).toNat)
          case atStart => exact ⟨at_, Nat.le_refl _, hat, rfl, by first | exact HO | exact Lib.hid (own_below HO.out (drew_below (Below.refl _ _) _)), by first | exact HB | exact Lib.hid (drew_below HB.out _)⟩
          case round =>
            obtain ⟨k, hk1, hk2, rfl, HO5, HB5⟩ := hrel
            by_cases hk : k < s.size
            · have hkn : k < s.size := by omega
              have hx := bt_at hkn
              obtain ⟨x, hxx⟩ : ∃ x, (s[k]).toNat = x := ⟨_, rfl⟩
              have hb7 := HBL.out k hk1 hk
              rw [hx, hxx] at hb7
              unfold blnk at hb7
              have hb7 := of_decide_eq_true hb7
              have hk3 : k + 1 ≤ s.size := hk
              clear hx
              rcases hb7 with rfl | rfl | rfl | rfl
              all_goals
                go_wp2_with fail
                go_roundw
                case rel => exact ⟨k + 1, by omega, hk3, by go_num, by first | exact HO5 | exact Lib.hid (own_below HO5.out (drew_below (Below.refl _ _) _)), by first | exact HB5 | exact Lib.hid (drew_below HB5.out _)⟩
                case measure => simp [intOf]; omega
            · obtain rfl : k = s.size := by omega
              clear hk hk1 hk2
              go_wp2_with fail
              go_roundw
              case rel => exact ⟨i + 1, at_, by omega, has, rfl, by go_num, Lib.hid fun h => absurd h (by omega), HO5, HB5⟩
              case measure => simp [intOf]; omega
        · have hgt : ¬ i ≤ L.length := by omega
          clear HRW hie hlt
          go_wp2_with fail
          refine (H4.out _).mono ?_
          rintro r w3 ⟨rfl, b3⟩
          have HB3 := Lib.hid (HB.out.trans (b3.mono HB.out.size))
          clear b3 H4
          go_wp2_with fail
          go_ret
          exact ⟨rfl, HB3.out⟩
end Go.Proofs.Ytaopjeobapnhbaa.nn
