/- Joined texts, what is wanted of them: CbRm, CbRi. -/
import Derived.Deep.RegionLaw
import Derived.Deep.DeepCutAuto
import Derived.Deep.RegionWith
import Derived.Test.YtlmabhpfmbebjaaDoorProg
import Derived.WalkKit
import Derived.Lib.Hide
import Derived.WalkSpells
import Derived.Deep.QuietTactic
import Derived.BigQuiet
import Derived.Deep.RegionHeld3
import Derived.Laws.BitsAllLaws
import Derived.Test.YtlmabhpfmbebjaaDoorShelf
import Derived.IntWalk
import Derived.Test.YtlmabhpfmbebjaaDoorQc
import Derived.Test.YtlmabhpfmbebjaaDoorQa
import Derived.Test.YtlmabhpfmbebjaaDoorQl
import Derived.Test.YtlmabhpfmbebjaaDoorQe
import Derived.Test.YtlmabhpfmbebjaaDoorQq
import Derived.Test.YtlmabhpfmbebjaaDoorQm
import Derived.Test.YtlmabhpfmbebjaaDoorQk
import Derived.Test.YtlmabhpfmbebjaaDoorQw
namespace Go.Proofs.YtlmabhpfmbebjaaDoor.nn
open Go.RowKit

/-- behind the boxes of a value and an option -/
structure Bo2 (w : World) (t : VT) (C : Value) (o : Bool) (x : Int) (y : Bool) (W : World) : Prop where
  b : Box w t C W
  v : W.heap[w.heap.size]? = some (.cells #[.int .i64 t.k, .bool t.g, .int .u64 (t.n : Int), .string t.s, C] 25 (0, 0))
  r : W.heap[w.heap.size + 1]? = some (.cells #[.bool o, .int .i64 x, .bool y] 27 (0, 0))
section
variable {w W W' : World} {t : VT} {C : Value} {o : Bool} {x : Int} {y : Bool}
theorem row_of5 {w : World} {b : Nat} {t : VT} {C : Value} {T : TypeId} (h : w.heap[b]? = some (.cells #[.int .i64 t.k, .bool t.g, .int .u64 (t.n : Int), .string t.s, C] T (0, 0))) : Row w b 0 t C :=
  ⟨cell_of_row _ _ 0 _ _ _ h, cell_of_row _ _ 1 _ _ _ h, cell_of_row _ _ 2 _ _ _ h, cell_of_row _ _ 3 _ _ _ h, cell_of_row _ _ 4 _ _ _ h⟩
theorem Bo2.on (h : Bo2 w t C o x y W) (hB : Below W.heap.size W W') : Bo2 w t C o x y W' := ⟨h.b.on hB, (hB.block _ (lt_of_block h.v)).trans h.v, (hB.block _ (lt_of_block h.r)).trans h.r⟩
theorem Bo2.kx (h : Bo2 w t C o x y W) (hB : Below w.heap.size W W') (hk : Kx W W') : Bo2 w t C o x y W' := by
  have hv := hk _ _ _ (by decide) h.v
  exact ⟨⟨h.b.b.trans hB, lt_of_block hv, row_of5 hv⟩, hv, hk _ _ _ (by decide) h.r⟩
theorem Bo2.new (w : World) (t : VT) (C : Value) (o : Bool) (x : Int) (y : Bool) : Bo2 w t C o x y ((w.alloc (.cells #[.int .i64 t.k, .bool t.g, .int .u64 (t.n : Int), .string t.s, C] 25)).alloc (.cells #[.bool o, .int .i64 x, .bool y] 27)) := by
  have h := Box.new w t C 25
  have hB : Below (w.alloc (.cells #[.int .i64 t.k, .bool t.g, .int .u64 (t.n : Int), .string t.s, C] 25)).heap.size (w.alloc (.cells #[.int .i64 t.k, .bool t.g, .int .u64 (t.n : Int), .string t.s, C] 25)) ((w.alloc (.cells #[.int .i64 t.k, .bool t.g, .int .u64 (t.n : Int), .string t.s, C] 25)).alloc (.cells #[.bool o, .int .i64 x, .bool y] 27)) := (Below.refl _ _).alloc (Nat.le_refl _) _
  have hv := heap_alloc_last w (.cells #[.int .i64 t.k, .bool t.g, .int .u64 (t.n : Int), .string t.s, C] 25)
  refine ⟨h.on hB, (hB.block _ (lt_of_block hv)).trans hv, ?_⟩
  have h2 := heap_alloc_last (w.alloc (.cells #[.int .i64 t.k, .bool t.g, .int .u64 (t.n : Int), .string t.s, C] 25)) (.cells #[.bool o, .int .i64 x, .bool y] 27)
  rw [show (w.alloc (.cells #[.int .i64 t.k, .bool t.g, .int .u64 (t.n : Int), .string t.s, C] 25)).heap.size = w.heap.size + 1 by simp] at h2
  exact h2
theorem Bo2.c (h : Bo2 w t C o x y W) : W.cell? ⟨w.heap.size + 1, 0, none⟩ = some (.bool o) ∧ W.cell? ⟨w.heap.size + 1, 1, none⟩ = some (.int .i64 x) ∧ W.cell? ⟨w.heap.size + 1, 2, none⟩ = some (.bool y) :=
  ⟨cell_of_row _ _ 0 _ _ _ h.r, cell_of_row _ _ 1 _ _ _ h.r, cell_of_row _ _ 2 _ _ _ h.r⟩
end
/-- the document writes an item -/
def Rts (w0 : World) (o : Bool) (x : Int) (y : Bool) (t : VT) : Prop := ∀ (C : Value) (W : World), Lst w0 C t.l → Below w0.heap.size w0 W → (itB o t).length + 20 ≤ 140737488355328 →
  Calls Tryd.prog 15 #[vv t C, .agg #[.bool o, .int .i64 x, .bool y]] W (RwAns (itB o t) W)
/-- the head of a list or a map, or the first byte of an open one, as bytes of the call's own -/
theorem hdO_lit (M : Nat) (hM : M ≤ 6) (w : World) (c : Nat) : (w.alloc (.cells #[.int .u8 ((M * 32 + 31 : Nat) : Int)] 5)).ownsRow w.heap.size 5 1 (.slice (some ⟨w.heap.size, 0, none⟩) 1 1) (hdO true M c).length (Lib.byteCells (hdO true M c)) := own_lit8 w (M * 32 + 31) (by omega)
set_option maxRecDepth 100000 in
set_option maxHeartbeats 8000000 in
theorem rmany_any (w0 : World) (M : Nat) (t : VT) (C : Value) (o : Bool) (x : Int) (y : Bool) (w : World) (hM : M = 4 ∨ M = 5) (hC : Lst w0 C t.l) (hw : Below w0.heap.size w0 w) (hLn : t.l.length ≤ 1099511627776) (ih : ∀ u, u ∈ t.l → Rts w0 o x y u)
    (hle : (hdO o M (if M = 5 then t.l.length / 2 else t.l.length)).length + (itL o t.l).length + 20 ≤ 140737488355328) :
    Calls Tryd.prog 33 #[.int .i64 (M : Int), vv t C, .agg #[.bool o, .int .i64 x, .bool y]] w (RwAns (hdO o M (if M = 5 then t.l.length / 2 else t.l.length) ++ (itL o t.l ++ enO o)) w) := by
  obtain ⟨i0, hi, hz0, hz1, hz2⟩ := info_parts infoW8
  obtain ⟨A0, cc, rfl, hlc, hA⟩ := hC.out
  obtain ⟨c, hc⟩ : ∃ c, (if M = 5 then t.l.length / 2 else t.l.length) = c := ⟨_, rfl⟩
  rw [hc] at hle ⊢
  obtain ⟨W2, hW2⟩ : ∃ W2, (w.alloc (.cells #[.int .i64 t.k, .bool t.g, .int .u64 (t.n : Int), .string t.s, .slice A0 t.l.length cc] 25)).alloc (.cells #[.bool o, .int .i64 x, .bool y] 27) = W2 := ⟨_, rfl⟩
  have hx0 : Bo2 w t (.slice A0 t.l.length cc) o x y W2 := by rw [← hW2]; exact Bo2.new w t _ o x y
  have HX0 := Lib.hid hx0
  have hcM : c < 9223372036854775808 := by rw [← hc]; split <;> omega
  have HPUT := Lib.hid (fun W => rput_any' M c W (by omega) (by omega))
  have HW := Lib.hid hw
  have hIH := Lib.hid ih
  have h9 := hdO_le o M c
  have HHO0 : Hid (o = false → hdO o M c = hdP M c) := Lib.hid fun h => by subst h; rfl
  have HHO1 : Hid (o = true → hdO o M c = [UInt8.ofNat (M * 32 + 31)]) := Lib.hid fun h => by subst h; rfl
  have hwr : IntKind.u64.wrap (c : Int) = (c : Int) := by rw [IntKind.wrap_u64]; omega
  have HBC : Hid (∀ W, Bo2 w t (.slice A0 t.l.length cc) o x y W → W.cell? ⟨w.heap.size, 4, none⟩ = some (.slice A0 t.l.length cc) ∧ W.cell? ⟨w.heap.size + 1, 0, none⟩ = some (.bool o) ∧ W.cell? ⟨w.heap.size + 1, 1, none⟩ = some (.int .i64 x) ∧ W.cell? ⟨w.heap.size + 1, 2, none⟩ = some (.bool y)) := Lib.hid fun W hW => ⟨hW.b.r.l, hW.c⟩
  have hor := int_first (m := M) (x := 31) (by omega) (by decide)
  have hw1 : wrap64 ((M : Int) * 32) = (M : Int) * 32 := by unfold wrap64; omega
  have HLIT := Lib.hid (fun W => hdO_lit M (by omega) W c)
  obtain ⟨d, hd⟩ : ∃ d, M * 32 + 31 = d := ⟨_, rfl⟩
  have hd256 : d < 256 := by omega
  rw [hd] at hor HLIT
  have hor' : bits .or .i64 ((M : Int) * 32) 31 = (d : Int) := hor
  have hm : (d : Int) % 256 = (d : Int) := by omega
  have hb8 : IntKind.u8.wrap (d : Int) = (d : Int) := by rw [IntKind.wrap_u8]; omega
  have HON : Hid (∀ W W', Bo2 w t (.slice A0 t.l.length cc) o x y W → Below W.heap.size W W' → Bo2 w t (.slice A0 t.l.length cc) o x y W') := Lib.hid fun W W' h hb => h.on hb
  have HDV : Hid (M = 5 → (t.l.length : Int).tdiv 2 = (c : Int)) := Lib.hid fun h => by rw [← hc, if_pos h, Int.tdiv_eq_ediv_of_nonneg (by omega)]; omega
  have HDN : Hid (M = 4 → t.l.length = c) := Lib.hid fun h => by rw [← hc, if_neg (by omega)]
  have HOW : Hid (∀ (W W' : World) (v : Value) (L : Nat), Below w.heap.size w W → W'.ownsRow W.heap.size 5 1 v L (Lib.byteCells (hdO o M c)) → W'.ownsRow w.heap.size 5 1 v L (Lib.byteCells (hdO o M c))) := Lib.hid fun W W' v L hb h => own_low h hb.size
  have h0c := hx0.b.r.l
  obtain ⟨l1, hl1⟩ : ∃ l1, hdO o M c = l1 := ⟨_, rfl⟩
  have HL1 := Lib.hid hl1
  obtain ⟨T, hT⟩ : ∃ T, hdO o M c ++ (itL o t.l ++ enO o) = T := ⟨_, rfl⟩
  have HT : Hid (T = l1 ++ itL o t.l ++ enO o) := Lib.hid (by rw [← hT, ← hl1, List.append_assoc])
  rw [hT]
  clear hd hc hC hw ih hx0 hT hl1
  unfold vv
  -- the head: the call's own bytes
  have HN7 : Hid (M = 4 ∨ M = 5) := Lib.hid hM
  go_enter Tryd.func33, Tryd.ntmps33
  go_upto_region 1 with fail
  first | rw [hW2] | skip
  clear hW2
  go_upto_if 14 with fail
  go_cut [7] (fun s7 wx => s7 = .int .i64 (c : Int) ∧ Hid (Bo2 w t (.slice A0 t.l.length cc) o x y wx))
  case first =>
    rcases HN7.out with h4 | h5
    · have k5 : ((M : Int) == 5) = false := by simp; omega
      have HC := Lib.hid (HDN.out h4)
      clear HDV HDN HW hIH HPUT HLIT HOW HHO0 HHO1
      go_wp2_with fail
      go_meet
      exact ⟨by rw [HC.out], HX0⟩
    · have k5 : ((M : Int) == 5) = true := by simp; omega
      have hdv := HDV.out h5
      clear HDV HDN HW hIH HPUT HLIT HOW HHO0 HHO1
      go_wp2_with fail
      go_meet
      exact ⟨rfl, HX0⟩
  case rest =>
    obtain ⟨rfl, HXA⟩ := hcut
    clear HDV HDN HN7 h0c HX0
    have HP1 := Lib.hid (HPUT.out)
    go_wp2_with fail
    refine (HP1.out wc).mono ?_
    rintro e w3 ⟨v, rfl, ho3, hb3⟩
    have HXB := Lib.hid (HON.out _ _ HXA.out hb3)
    have HBW := Lib.hid (HXA.out.b.b)
    have HO3 := Lib.hid (own_low ho3 HXA.out.b.b.size)
    obtain ⟨_, b0, b1, b2⟩ := HBC.out _ HXB.out
    clear ho3 hb3 HXA HP1 HPUT
    go_upto_if 22 with fail
    go_cut [8] (fun s8 wx => ∃ A n k, s8 = .slice A n k ∧ Hid (wx.ownsRow w.heap.size 5 1 (.slice A n k) (hdO o M c).length (Lib.byteCells (hdO o M c)) ∧ Bo2 w t (.slice A0 t.l.length cc) o x y wx))
    case first =>
      cases o with
      | false =>
        have HH := Lib.hid (HHO0.out rfl)
        clear hIH HLIT HOW HHO0 HHO1 HW
        go_wp2_with fail
        go_meet
        obtain ⟨A3, c3, rfl, _⟩ := rd_list rfl HO3.out
        exact ⟨_, _, _, rfl, Lib.hid ⟨by rw [HH.out]; exact HO3.out, HXB.out⟩⟩
      | true =>
        clear hIH HOW HHO0 HHO1 HW
        go_wp2_with fail
        go_meet
        exact ⟨_, _, _, rfl, Lib.hid ⟨own_low (HLIT.out w3) HXB.out.b.b.size, HON.out _ _ HXB.out ((Below.refl _ _).alloc (Nat.le_refl _) _)⟩⟩
    case rest =>
      obtain ⟨A8, n8, k8, rfl, H8⟩ := hcut
      clear b0 b1 b2 HO3 HXB HBW HLIT HHO0 HHO1 HOW
      rw [HL1.out] at H8 hle h9
      clear HL1
      go_wp2_with fail
      go_loopw [8, 9] (fun s8 s9 wr => ∃ (i : Nat) (A : Option Addr) (n k : Nat), i ≤ t.l.length ∧ s8 = .slice A n k ∧ s9 = .int .i64 (i : Int) ∧ Hid (wr.ownsRow w.heap.size 5 1 (.slice A n k) (l1 ++ itL o (t.l.take i)).length (Lib.byteCells (l1 ++ itL o (t.l.take i))) ∧ Bo2 w t (.slice A0 t.l.length cc) o x y wr)) (fun _ s9 _ => t.l.length - (intOf s9).toNat)
      case atStart => exact ⟨0, A8, n8, k8, Nat.zero_le _, rfl, rfl, Lib.hid ⟨by rw [List.take_zero]; show World.ownsRow _ _ _ _ _ (l1 ++ []).length (Lib.byteCells (l1 ++ [])); rw [List.append_nil]; exact H8.out.1, H8.out.2⟩⟩
      case round =>
        obtain ⟨i, A9, n9, k9, hi9, rfl, rfl, hO⟩ := hrel
        obtain ⟨q4, p0, p1, p2⟩ := HBC.out wr hO.out.2
        by_cases hlt : i < t.l.length
        · rcases hA with ⟨_, h0, _⟩ | ⟨b1, off, D, rfl, hb1, hrow, hkid⟩
          · rw [h0] at hlt; exact absurd hlt (by simp)
          have hmem : t.l[i] ∈ t.l := List.getElem_mem hlt
          obtain ⟨t', ht'⟩ : ∃ t', t.l[i] = t' := ⟨_, rfl⟩
          obtain ⟨C', hC'⟩ : ∃ C', D i = C' := ⟨_, rfl⟩
          have hr := hrow i hlt
          have hkl := hkid i hlt
          have hts := itL_take_succ (o := o) hlt
          have htl := itL_take_le (o := o) hlt
          rw [ht', hC'] at hr hkl
          rw [ht'] at hmem hts htl
          obtain ⟨A', c', hC2, _⟩ := hkl.out
          obtain ⟨n', hn'⟩ : ∃ n', t'.l.length = n' := ⟨_, rfl⟩
          rw [hn'] at hC2
          subst hC2
          have hbw := HW.out.trans (hO.out.2.b.b.mono HW.out.size)
          have hr2 := hr.below hbw hb1
          have r0 := hr2.k
          have r1 := hr2.g
          have r2 := hr2.n
          have r3 := hr2.s
          have r4 := hr2.l
          have s0 : wr.drew.cell? ⟨b1, off + i * 5, none⟩ = some (.int .i64 t'.k) := r0
          have hOD : wr.drew.ownsRow w.heap.size 5 1 (.slice A9 n9 k9) (l1 ++ itL o (t.l.take i)).length (Lib.byteCells (l1 ++ itL o (t.l.take i))) := hO.out.1
          have HI := Lib.hid (hIH.out t' hmem (.slice A' n' c') wr.drew hkl (Below.drew hbw) (by omega))
          have HXD := Lib.hid (HON.out _ _ hO.out.2 (Below.drew (Below.refl _ _)))
          unfold vv at HI
          have HTS : Hid (l1 ++ itL o (t.l.take i) ++ itB o t' = l1 ++ itL o (t.l.take (i + 1))) := Lib.hid (by rw [hts, List.append_assoc])
          have hlq : (l1 ++ itL o (t.l.take i)).length + (itB o t').length ≤ 140737488355328 := by rw [List.length_append]; omega
          obtain ⟨Q, hQ⟩ : ∃ Q, l1 ++ itL o (t.l.take i) = Q := ⟨_, rfl⟩
          obtain ⟨I, hI⟩ : ∃ I, itB o t' = I := ⟨_, rfl⟩
          rw [hQ, hI] at hlq HTS
          rw [hQ] at hOD
          rw [hI] at HI
          have HOD := Lib.hid hOD
          have hszw : w.heap.size ≤ wr.drew.heap.size := hO.out.2.b.b.size
          clear hO hOD hr hr2 hkl hrow hkid ht' hC' hn' hts htl hbw hmem hQ hI
          go_upto_region 10 with fail
          go_region_law (first
            | (go_simp; go_at_call 15; refine HI.out.mono ?_; rintro e w4 ⟨v4, rfl, ho4, hb4⟩; have hO4 := own_below HOD.out hb4; have hX4 := HON.out _ _ HXD.out hb4; obtain ⟨A4, c4, rfl, _, _, hr4⟩ := rd_list rfl ho4; have hs4 := Nat.le_trans hszw hb4.size)
            | (refine step_appK rfl (.tmp 35) (.tmp 42) rfl w.heap.size _ Q I rfl hO4 A4 _ c4 rfl rfl hr4 hlq hs4 ?_; intro v5 w5 ho5 hb5 hk5; obtain ⟨A5, n5, c5, rfl⟩ : ∃ A n c, v5 = .slice A n c := (by obtain ⟨A, c, h, _⟩ := rd_list rfl ho5; exact ⟨_, _, _, h⟩)))
          all_goals
            have HO5 : Hid (w5.ownsRow w.heap.size 5 1 (.slice A5 n5 c5) (l1 ++ itL o (t.l.take (i + 1))).length (Lib.byteCells (l1 ++ itL o (t.l.take (i + 1)))) ∧ Bo2 w t (.slice (some ⟨b1, off, none⟩) t.l.length cc) o x y w5) := Lib.hid ⟨by rw [← HTS.out]; exact ho5, hX4.kx hb5 hk5⟩
            clear ho5 hb5 hk5 hX4 hO4 hr4 hs4 ho4 hb4
            go_wp2_with fail
            go_roundw
            case rel => exact ⟨i + 1, _, _, _, hlt, rfl, by go_num, HO5⟩
            case measure => simp [intOf]; omega
        · obtain rfl : i = t.l.length := by omega
          have hO2 := hO.out
          rw [List.take_length] at hO2
          have HO2 := Lib.hid hO2
          clear hO hO2
          cases o with
          | false =>
            have HTT : Hid (T = l1 ++ itL false t.l) := Lib.hid (by rw [HT.out, show enO false = [] from rfl, List.append_nil])
            go_wp2_with fail
            go_ret
            refine ⟨_, rfl, ?_, HO2.out.2.b.b⟩
            rw [HTT.out]
            exact HO2.out.1
          | true =>
            have hszr := HO2.out.2.b.b.size
            have HR : Hid (Rd (wr.alloc (.cells #[.int .u8 255] 5)) .u8 (some ⟨wr.heap.size, 0, none⟩) 1 (gL [255])) := Lib.hid (rd_b1 wr (d := 255) (by decide) _)
            have HBL := Lib.hid (HO2.out.2.b.b.alloc hszr (.cells #[.int .u8 255] 5))
            have hln : (l1 ++ itL true t.l).length + [(255 : UInt8)].length ≤ 140737488355328 := by rw [List.length_append]; simp; omega
            have hsz : w.heap.size ≤ (wr.alloc (.cells #[.int .u8 255] 5)).heap.size := by simp; omega
            have HTT : Hid (T = l1 ++ itL true t.l ++ [255]) := HT
            clear hszr HT
            go_wp2_with (at_builtin; refine wpList_appK rfl (.tmp 46) (.tmp 47) rfl w.heap.size _ (l1 ++ itL true t.l) [255] rfl (HO2.out.1.alloc _) _ 1 1 rfl rfl HR.out hln hsz ?_; intro v5 w5 ho5 hb5 _; have HO6 := Lib.hid ho5; have HB6 := Lib.hid (HBL.out.trans hb5); obtain ⟨A5, n5, c5, rfl⟩ : ∃ A n c, v5 = .slice A n c := (by obtain ⟨A, c, h, _⟩ := rd_list rfl ho5; exact ⟨_, _, _, h⟩); clear ho5 hb5)
            go_wp2_with fail
            go_ret
            refine ⟨_, rfl, ?_, HB6.out⟩
            rw [HTT.out]
            exact HO6.out
end Go.Proofs.YtlmabhpfmbebjaaDoor.nn
namespace Go.Proofs.YtlmabhpfmbebjaaDoor.nn
open Go.RowKit

theorem RwAns.behind {w W w' : World} {L : List UInt8} {e : Ending} (hb : Below w.heap.size w W) (h : RwAns L W e w') : RwAns L w e w' := by
  obtain ⟨v, he, ho, h2⟩ := h
  exact ⟨v, he, own_low ho hb.size, hb.trans (h2.mono hb.size)⟩
theorem hd7 : hdP 7 22 = [246] ∧ hdP 7 23 = [247] ∧ hdP 7 20 = [244] ∧ hdP 7 21 = [245] := by decide +kernel
set_option maxRecDepth 100000 in
set_option maxHeartbeats 4000000 in
/-- the kinds that are one byte -/
theorem ritem_one (t : VT) (C : Value) (o : Bool) (x : Int) (y : Bool) (w : World) (hr : oneB t = true) (hk : t.k = 0 ∨ t.k = 2 ∨ t.k = 1) :
    Calls Tryd.prog 15 #[vv t C, .agg #[.bool o, .int .i64 x, .bool y]] w (RwAns (itB o t) w) := by
  have hn : t.k = 1 → t.n ≤ 1 := fun hk => by
    unfold oneB at hr
    rw [if_neg (by omega), if_pos hk] at hr
    simp only [Bool.and_eq_true, decide_eq_true_eq] at hr
    omega
  have hx := Bo2.new w t C o x y
  obtain ⟨W2, hW2⟩ : ∃ W2, (w.alloc (.cells #[.int .i64 t.k, .bool t.g, .int .u64 (t.n : Int), .string t.s, C] 25)).alloc (.cells #[.bool o, .int .i64 x, .bool y] 27) = W2 := ⟨_, rfl⟩
  rw [hW2] at hx
  have HB := Lib.hid hx.b.b
  have HL : Hid (∀ d, d < 256 → RwAns [UInt8.ofNat d] w (.returned (.slice (some ⟨W2.heap.size, 0, none⟩) 1 1)) (W2.alloc (.cells #[.int .u8 (d : Int)] 5))) := Lib.hid fun d hd => ⟨_, rfl, own_low (own_lit8 W2 d hd) HB.out.size, HB.out.alloc HB.out.size _⟩
  have c0 := hx.b.r.k
  have c2 := hx.b.r.n
  have hi := itB_mk o t
  obtain ⟨R, hR⟩ : ∃ R, itB o t = R := ⟨_, rfl⟩
  rw [hR] at hi ⊢
  unfold vv
  have HI := Lib.hid hi
  have HK := Lib.hid hk
  have HN := Lib.hid hn
  obtain ⟨k, hkk⟩ : ∃ k, t.k = k := ⟨_, rfl⟩
  obtain ⟨n, hnn⟩ : ∃ n, t.n = n := ⟨_, rfl⟩
  have HKK := Lib.hid hkk
  have HNN := Lib.hid hnn
  rw [hkk] at c0
  rw [hnn] at c2
  rw [hkk, hnn] at hW2
  rw [hkk, hnn]
  have HW2 := Lib.hid hW2
  clear hi hR hW2 hr hx hk hn hkk hnn
  rcases HK.out with h | h | h
  · have hk0 : k = 0 := by rw [← HKK.out, h]
    have HF : Hid (R = [246]) := Lib.hid (by rw [HI.out, h]; exact hd7.1)
    subst hk0
    go_enter Tryd.func15, Tryd.ntmps15
    go_upto_region 1 with fail
    rw [HW2.out]
    go_wp2_with fail
    go_ret
    rw [HF.out]
    exact HL.out 246 (by decide)
  · have hk0 : k = 2 := by rw [← HKK.out, h]
    have HF : Hid (R = [247]) := Lib.hid (by rw [HI.out, h]; exact hd7.2.1)
    subst hk0
    go_enter Tryd.func15, Tryd.ntmps15
    go_upto_region 1 with fail
    rw [HW2.out]
    go_wp2_with fail
    go_ret
    rw [HF.out]
    exact HL.out 247 (by decide)
  · have hk0 : k = 1 := by rw [← HKK.out, h]
    have hnn := HNN.out
    have hn1 : n ≤ 1 := by rw [← hnn]; exact HN.out h
    have HF : Hid (R = [UInt8.ofNat (244 + n)]) := Lib.hid (by
      rw [HI.out, h, hnn]
      have : n = 0 ∨ n = 1 := by omega
      rcases this with rfl | rfl
      · exact hd7.2.2.1
      · exact hd7.2.2.2)
    clear hnn
    have u1 : IntKind.u8.wrap (n : Int) = (n : Int) := by rw [IntKind.wrap_u8]; omega
    have u2 : IntKind.u8.wrap (244 + (n : Int)) = 244 + (n : Int) := by rw [IntKind.wrap_u8]; omega
    have u3 : (n : Int) % 256 = (n : Int) := by omega
    have u4 : (244 + (n : Int)) % 256 = 244 + (n : Int) := by omega
    have HE : Hid (244 + (n : Int) = ((244 + n : Nat) : Int)) := Lib.hid (by omega)
    subst hk0
    go_enter Tryd.func15, Tryd.ntmps15
    go_upto_region 1 with fail
    rw [HW2.out]
    go_wp2_with fail
    go_ret
    rw [HF.out, HE.out]
    exact HL.out (244 + n) (by omega)
end Go.Proofs.YtlmabhpfmbebjaaDoor.nn
