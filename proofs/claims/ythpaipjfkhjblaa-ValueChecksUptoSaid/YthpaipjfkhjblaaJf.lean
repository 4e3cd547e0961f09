/- Joined texts, what is wanted of them: RefPaths, PathR, RefPaths2, VaClone, VaPaths. -/
import Derived.Lib.Hide
import Derived.Deep.QuietTactic
import Derived.BigQuiet
import Derived.IntWalk
import Derived.Maps.AppendAt
import Derived.Lib.MinMax
import Derived.WalkSpells
import Derived.Test.YthpaipjfkhjblaaProg
import Derived.WalkKit
import Derived.Test.YthpaipjfkhjblaaJa
import Derived.Test.YthpaipjfkhjblaaJe
namespace Go.Proofs.Ythpaipjfkhjblaa.nn
open Go.RowKit

/-- what paths answers -/
def PpAns (t : VT) (w : World) (e : Ending) (w' : World) : Prop := ∃ v, e = .returned v ∧ PR w.heap.size w' none v (pth t) ∧ Below w.heap.size w w'
theorem info_ints : (Try.prog.info? 34).map (fun i => (i.zero, i.size, i.bytes)) = some (some (.slice none 0 0), 1, 24) := by kernel_rfl
theorem info_int : (Try.prog.info? 3).map (fun i => (i.zero, i.size, i.bytes)) = some (some (.int .i64 0), 1, 8) := by kernel_rfl
theorem info_to {e : TypeId} {z : Value} {s b : Nat} (h : (Try.prog.info? e).map (fun i => (i.zero, i.size, i.bytes)) = some (some z, s, b)) : ∃ i, Try.prog.info? e = some i ∧ i.zero = some z ∧ i.size = s ∧ i.bytes = b := by
  cases hi : Try.prog.info? e with
  | none => rw [hi] at h; cases h
  | some i =>
    rw [hi] at h
    injection h with h
    exact ⟨i, rfl, (Prod.mk.inj h).1, (Prod.mk.inj (Prod.mk.inj h).2).1, (Prod.mk.inj (Prod.mk.inj h).2).2⟩
theorem coll_one {base : Nat} {w : World} {p : List Nat} {u : Value} (hb : base ≤ w.heap.size) (hr : RowAt base w u none p) : Coll base (w.alloc (.cells #[u] 34)) (.slice (some ⟨w.heap.size, 0, none⟩) 1 1) [p] := by
  have ho := World.ownsRow_lit (base := base) (e := 34) (size := 1) w #[u] 1 hb (by simp [maxLen]) rfl
  refine ⟨[u], ho, by simp, rfl, fun k hk => ?_⟩
  obtain rfl : k = 0 := by simpa using hk
  refine ⟨u, rfl, ?_⟩
  obtain ⟨b, o, c, h1, h2, h3, h0, _, h5⟩ := hr
  have hB := (Below.refl w.heap.size w).alloc (Nat.le_refl _) (.cells #[u] 34)
  exact ⟨b, o, c, h1, h2, Nat.lt_of_lt_of_le h3 hB.size, h0, by simp [Value.ownBlock]; omega, fun j hj => (hB.cell (p := ⟨b, o + j, none⟩) h3).trans (h5 j hj)⟩
set_option maxRecDepth 100000 in
set_option maxHeartbeats 2000000 in
theorem rpaths_any (N : Nat) : ∀ (t : VT) (C : Value) (w : World), cnt t ≤ N → N ≤ 1048577 → Lst w C t.l → Calls Try.prog 29 #[vv t C] w (PpAns t w) := by
  obtain ⟨i0, hi0, hz0, hz1, hz2⟩ := info_to info_ints
  obtain ⟨j0, hj0, hy0, hy1, hy2⟩ := info_to info_int
  induction N with
  | zero => intro t C w h _ _; have := cnt_mk t; omega
  | succ N ih =>
    intro t C w hN hM hC
    have HC := Lib.hid hC
    obtain ⟨A, c, rfl, hlc, hA⟩ := hC.out
    have hcm := cnt_mk t
    have HP := Lib.hid (pth_mk t)
    obtain ⟨l, hl⟩ : ∃ l, t.l = l := ⟨_, rfl⟩
    rw [hl] at hlc hA hcm HC HP ⊢
    have hll := len_cntL l
    have HB0 := Lib.hid (Box.new w t (.slice A l.length c) 25)
    unfold vv
    go_enter Try.func29, Try.ntmps29
    go_wp2_with fail
    have HP0 : Hid (Coll (w.heap.size + 1) (((w.alloc (.cells #[.int .i64 t.k, .bool t.g, .int .u64 (t.n : Int), .string t.s, .slice A l.length c] 25)).alloc (.cells #[] 3)).alloc (.cells #[.slice (some ⟨w.heap.size + 1, 0, none⟩) 0 0] 34)) (.slice (some ⟨w.heap.size + 1 + 1, 0, none⟩) 1 1) [[]]) := Lib.hid (by
      have h := coll_one (base := w.heap.size + 1) (w := (w.alloc (.cells #[.int .i64 t.k, .bool t.g, .int .u64 (t.n : Int), .string t.s, .slice A l.length c] 25)).alloc (.cells #[] 3)) (p := []) (u := .slice (some ⟨w.heap.size + 1, 0, none⟩) 0 0) (by simp) ⟨w.heap.size + 1, 0, 0, rfl, Nat.le_refl _, by simp, Nat.le_refl _, by simp, fun j hj => absurd hj (by simp)⟩
      simpa using h)
    have HB1 : Hid (∀ o o', Box w t (.slice A l.length c) (((w.alloc (.cells #[.int .i64 t.k, .bool t.g, .int .u64 (t.n : Int), .string t.s, .slice A l.length c] 25)).alloc o).alloc o')) := Lib.hid fun o o' => HB0.out.on (((Below.refl _ _).alloc (Nat.le_refl _) o).alloc (by simp) o')
    go_loopw [3, 4] (fun s3 s4 wr => ∃ (i : Nat) (v : Value), i ≤ l.length ∧ v = s3 ∧ s4 = .int .i64 (i : Int) ∧ Hid (Coll (w.heap.size + 1) wr v ([] :: pthL 0 (l.take i))) ∧ Hid (Box w t (.slice A l.length c) wr)) (fun _ s4 _ => l.length - (intOf s4).toNat)
    case atStart => exact ⟨0, _, Nat.zero_le _, rfl, rfl, HP0, HB1.out _ _⟩
    case round =>
      obtain ⟨i, v, hi, rfl, rfl, hP, hk⟩ := hrel
      have h4 : wr.cell? ⟨w.heap.size, 4, none⟩ = some (.slice A l.length c) := hk.out.r.l
      by_cases hlt : i < l.length
      · rcases hA with ⟨_, h0, _⟩ | ⟨b, off, D, rfl, hb, hrow, hkid⟩
        · rw [h0] at hlt; exact absurd hlt (by simp)
        obtain ⟨t', ht'⟩ : ∃ t', l[i] = t' := ⟨_, rfl⟩
        obtain ⟨C', hC'⟩ : ∃ C', D i = C' := ⟨_, rfl⟩
        have hr := hrow i hlt
        have hkl := hkid i hlt
        have hcn := cnt_at hlt
        have hpt := pthL_take hlt
        rw [ht', hC'] at hr hkl
        rw [ht'] at hcn hpt
        have hr2 := hr.below hk.out.b hb
        have r0 := hr2.k
        have r1 := hr2.g
        have r2 := hr2.n
        have r3 := hr2.s
        have r4 := hr2.l
        have HI := Lib.hid (ih t' C' wr (by omega) (by omega) (hkl.keep hk.out.b (Nat.le_refl _)))
        have hpl := pth_len t'
        have HPT := Lib.hid hpt
        have HSH := Lib.hid (pth_short t')
        have hmN : cnt t' ≤ 1048577 := by omega
        obtain ⟨m, hm⟩ : ∃ m, cnt t' = m := ⟨_, rfl⟩
        rw [hm] at hpl hmN HSH
        have HPL := Lib.hid hpl
        have hsz : w.heap.size + 1 ≤ wr.heap.size := hk.out.z
        have HSZ := Lib.hid hsz
        obtain ⟨g3, hg3⟩ : ∃ g, wr.heap.size = g := ⟨_, rfl⟩
        rw [hg3] at HSZ
        unfold vv at HI
        clear hr hr2 hkl hrow hkid ht' hC' hcn hpt ih hm hpl hsz
        go_wp2_with fail
        refine HI.out.mono ?_
        rintro e w2 ⟨x, rfl, hx, hb2⟩
        have hxs : ∃ b3 off3 c3 : Nat, x = .slice (some ⟨b3, off3, none⟩) m c3 ∧ m ≤ c3 := by
          obtain ⟨b3, off3, c3, e1, e2, _⟩ := hx
          rw [HPL.out] at e1 e2
          exact ⟨b3, off3, c3, e1, e2⟩
        obtain ⟨b3, off3, c3, rfl, hmc⟩ := hxs
        have hk2 := Lib.hid (hk.out.on hb2)
        have hP2 := Lib.hid (hP.out.keep hb2)
        have hX2 : Hid (PR g3 w2 v.ownBlock (.slice (some ⟨b3, off3, none⟩) m c3) (pth t')) := Lib.hid (by
          obtain ⟨g, hg, _, hgl⟩ := hP.out.own_lt
          rw [hg, ← hg3]
          exact hx.other hgl)
        clear hx hb2 r0 r1 r2 r3 r4 h4 hg3
        go_wp2_with fail
        go_loopw [3, 6] (fun s3 s6 wv => ∃ (k : Nat) (v : Value), k ≤ m ∧ v = s3 ∧ s6 = .int .i64 (k : Int) ∧ Hid (Coll (w.heap.size + 1) wv v (([] :: pthL 0 (l.take i)) ++ ((pth t').take k).map (i :: ·))) ∧ Hid (Box w t (.slice (some ⟨b, off, none⟩) l.length c) wv) ∧ Hid (PR g3 wv v.ownBlock (.slice (some ⟨b3, off3, none⟩) m c3) (pth t'))) (fun _ s6 _ => m - (intOf s6).toNat)
        case atStart => exact ⟨0, _, Nat.zero_le _, rfl, rfl, Lib.hid (by simpa using hP2.out), hk2, hX2⟩
        case round =>
          obtain ⟨k, v, hkm, rfl, rfl, hP3, hk3, hX3⟩ := hrel
          by_cases hkl : k < m
          · have hkp : k < (pth t').length := by rw [HPL.out]; exact hkl
            obtain ⟨p, hp⟩ : ∃ p, (pth t')[k] = p := ⟨_, rfl⟩
            have hpm : p.length ≤ 1048577 := Nat.le_trans (HSH.out p (by rw [← hp]; exact List.getElem_mem hkp)) hmN
            have hcells : ∃ B O c5 : Nat, (∀ o, (wr.alloc o).cell? ⟨b3, off3 + k, none⟩ = some (.slice (some ⟨B, O, none⟩) p.length c5)) ∧ p.length ≤ c5 ∧ (∀ o j (h : j < p.length), (wr.alloc o).cell? ⟨B, O + j, none⟩ = some (.int .i64 (p[j] : Int))) := by
              obtain ⟨b0, o0, c0, e1, e2, e3, e4, e5, e6⟩ := hX3.out
              injection e1 with e1 e7 e8
              injection e1 with e1
              injection e1 with e1 e9 e10
              subst e1 e9
              obtain ⟨u, hu, B, O, c5, f1, f2, f3, f4, f5, f6⟩ := e6 k hkp
              rw [hp] at f1 f2 f6
              subst f1
              have hBB := fun o => (Below.refl wr.heap.size wr).alloc (Nat.le_refl _) o
              exact ⟨B, O, c5, fun o => ((hBB o).cell (p := ⟨b3, off3 + k, none⟩) e3).trans hu, f2, fun o j hj => ((hBB o).cell (p := ⟨B, O + j, none⟩) f3).trans (f6 j hj)⟩
            obtain ⟨B, O, c5, hc1, hc2, hc3⟩ := hcells
            have HC3 := Lib.hid hc3
            have hX4 := hX3.out
            obtain ⟨xs, hown, hvn, hxl, hxr⟩ := hP3.out
            have HNEWS : Hid (∀ o (j : Nat) u, (p.map fun (j : Nat) => Value.int .i64 (j : Int))[j]? = some u → (wr.alloc o).cell? ((⟨B, O, none⟩ : Addr).add j) = some u) := Lib.hid fun o j u hu => by
              rw [List.getElem?_map] at hu
              obtain ⟨q, hq, rfl⟩ := Option.map_eq_some_iff.1 hu
              obtain ⟨hj, rfl⟩ := List.getElem?_eq_some_iff.1 hq
              rw [show (⟨B, O, none⟩ : Addr).add j = ⟨B, O + j, none⟩ from by unfold Addr.add; split <;> simp_all]
              exact HC3.out o j hj
            have HONE : Hid (∀ u ∈ p.map fun (j : Nat) => Value.int .i64 (j : Int), u.oneCell' = true) := Lib.hid fun u hu => by
              obtain ⟨q, _, rfl⟩ := List.mem_map.1 hu
              rfl
            have HPP := Lib.hid hp
            have hPn : ((([] :: pthL 0 (l.take i)) ++ ((pth t').take k).map (i :: ·) : List (List Nat))).length + 1 ≤ 3000000 := by
              simp only [List.length_append, List.length_cons, List.length_map, List.length_take, pthL_len]
              have := cntL_take_le l i
              omega
            obtain ⟨n, hnn⟩ : ∃ n, ((([] :: pthL 0 (l.take i)) ++ ((pth t').take k).map (i :: ·) : List (List Nat))).length = n := ⟨_, rfl⟩
            rw [hnn] at hPn hown hxl
            have HNN := Lib.hid hnn
            have HOWN : Hid (∀ W, Below wr.heap.size wr W → W.ownsRow (w.heap.size + 1) 34 1 v n xs) := Lib.hid fun W hW => own_keep hown hW
            have HXX := Lib.hid (And.intro hX4 (And.intro hvn (And.intro hxl hxr)))
            clear hc3 hX4 hown hvn hxl hxr hp hnn
            go_wp2_with (first
              | (at_builtin; refine wpList_append_own_at _ rfl (.tmp 30) (.tmp 34) 34 rfl wr.heap.size 3 j0 (.int .i64 0) 1 8 Try.underlying34 hj0 hy0 hy1 hy2 rfl (by decide) (.slice (some ⟨wr.heap.size, 0, none⟩) 1 1) 1 [.int .i64 (i : Int)] rfl (World.ownsRow_lit wr #[.int .i64 (i : Int)] 1 (Nat.le_refl _) (by simp [maxLen]) rfl) ⟨B, O, none⟩ p.length c5 (p.map fun (j : Nat) => Value.int .i64 (j : Int)) rfl (by simp) (HNEWS.out _) HONE.out (by unfold maxLen; omega) (by omega) (by simp) ?_; intro v5 w5 ho5 hg5 hn5 hb5; go_loud (obtain ⟨g5, cap5, rfl, hgb5, hgl5, hcap5, hcell5⟩ := own_form ho5 (fun h => by have h1 := (hn5.1 h).1; cases h1); have hB5 : Below wr.heap.size wr w5 := below_app hg5; clear hn5 hb5))
              | (at_builtin; go_loud (refine wpList_append_own_at _ rfl (.tmp 28) (.tmp 36) 31 rfl (w.heap.size + 1) 34 i0 (.slice none 0 0) 1 24 Try.underlying31 hi0 hz0 hz1 hz2 rfl (by decide) v n xs rfl (HOWN.out _ (hB5.alloc hB5.size _)) ⟨w5.heap.size, 0, none⟩ 1 1 [.slice (some ⟨g5, 0, none⟩) (1 + p.length) cap5] rfl rfl (one_news w5 _ _) (fun u hu => by simp at hu; subst hu; rfl) (by unfold maxLen; omega) (by omega) (by have := hB5.size; have := HSZ.out; have := hk3.out.z; simp; omega) ?_; intro v7 w7 ho7 hg7 hn7 hb7)))
            have hB6 := hB5.trans ((Below.refl w5.heap.size w5).alloc (Nat.le_refl _) (.cells #[.slice (some ⟨g5, 0, none⟩) (1 + p.length) cap5] 34) |>.mono hB5.size)
            obtain ⟨gv, hgv, hgv1, hgv2⟩ := hP3.out.own_lt
            obtain ⟨hx4, hvn, hxl, hxr⟩ := HXX.out
            have hlow := (Below.refl (w.heap.size + 1) (w5.alloc (.cells #[.slice (some ⟨g5, 0, none⟩) (1 + p.length) cap5] 34))).grown hg7 (by have := hB6.size; omega) (fun q hq => by rw [hgv] at hq; injection hq with hq; omega)
            have hk4 := Lib.hid ((hk3.out.on hB6).low hlow)
            have hX5 := Lib.hid ((hx4.keep hB6).grown hg7 hb7)
            have hP4 : Hid (Coll (w.heap.size + 1) w7 v7 (([] :: pthL 0 (l.take i)) ++ ((pth t').take (k + 1)).map (i :: ·))) := Lib.hid (by
              have hrow : RowAt (w.heap.size + 1) (w5.alloc (.cells #[.slice (some ⟨g5, 0, none⟩) (1 + p.length) cap5] 34)) (.slice (some ⟨g5, 0, none⟩) (1 + p.length) cap5) v.ownBlock (i :: p) := by
                refine ⟨g5, 0, cap5, by rw [List.length_cons, Nat.add_comm], by rw [List.length_cons]; omega, by simp; omega, by omega, by rw [hgv]; intro h; injection h with h; omega, fun j hj => ?_⟩
                rw [List.length_cons] at hj
                have h1 := hcell5 j (by simp; omega)
                rw [Nat.zero_add]
                rw [((Below.refl w5.heap.size w5).alloc (Nat.le_refl _) _).cell (p := ⟨g5, j, none⟩) hgl5, h1]
                cases j with
                | zero => rfl
                | succ j =>
                  have hj3 : j < p.length := by omega
                  simp only [List.cons_append, List.nil_append, List.getElem?_cons_succ, List.getElem?_map, List.getElem_cons_succ]
                  rw [List.getElem?_eq_getElem hj3]
                  rfl
              have h := Coll.snoc (P := (([] :: pthL 0 (l.take i)) ++ ((pth t').take k).map (i :: ·))) (p := i :: p) (by rw [HNN.out]; exact hxl) (fun q hq => by obtain ⟨u, hu, hur⟩ := hxr q hq; exact ⟨u, hu, hur.keep hB6⟩) hrow (by rw [HNN.out]; exact ho7) hg7 (fun h => by have := hn7.1 h; exact hvn this.1) hb7
              rw [List.take_succ_eq_append_getElem hkp, List.map_append, HPP.out, ← List.append_assoc]
              exact h)
            clear hB6 hlow hx4 hvn hxl hxr hgv ho7 hg7 hn7 hb7 ho5 hg5 hcell5 hB5
            go_wp2_with fail
            go_roundw
            case rel => exact ⟨k + 1, v7, hkl, rfl, by go_num, hP4, hk4, hX5⟩
            case measure => simp [intOf]; omega
          · obtain rfl : m = k := by omega
            have hP4 : Hid (Coll (w.heap.size + 1) wr v ([] :: pthL 0 (l.take (i + 1)))) := Lib.hid (by
              have h := hP3.out
              rw [show (pth t').take m = pth t' from List.take_of_length_le (by rw [HPL.out]; exact Nat.le_refl _)] at h
              rw [HPT.out]
              exact h)
            go_wp2_with fail
            go_roundw
            case rel => exact ⟨i + 1, v, hlt, rfl, by go_num, hP4, hk3⟩
            case measure => simp [intOf]; omega
      · obtain rfl : i = l.length := by omega
        have HQ : Hid (PR w.heap.size wr none v (pth t)) := Lib.hid (by
          have h := hP.out.read
          rw [List.take_length, ← HP.out] at h
          obtain ⟨b, o, c, h1, h2, h3, h0, h5, h6⟩ := h
          exact ⟨b, o, c, h1, h2, h3, by omega, h5, fun k hk => by
            obtain ⟨u, hu, b', o', c', g1, g2, g3, g0, g5, g6⟩ := h6 k hk
            exact ⟨u, hu, b', o', c', g1, g2, g3, by omega, g5, g6⟩⟩)
        go_wp2_with fail
        go_ret
        exact ⟨_, rfl, HQ.out, hk.out.b⟩
end Go.Proofs.Ythpaipjfkhjblaa.nn
namespace Go.Proofs.Ythpaipjfkhjblaa.nn
open Go.RowKit

/-- a path that is read; an empty one may be nil -/
def RowW (base : Nat) (w : World) (u : Value) (p : List Nat) : Prop := ∃ (A : Option Addr) (B O c : Nat), u = .slice A p.length c ∧ p.length ≤ c ∧ (p = [] ∨ (A = some ⟨B, O, none⟩ ∧ B < w.heap.size ∧ base ≤ B ∧ ∀ j (h : j < p.length), w.cell? ⟨B, O + j, none⟩ = some (.int .i64 (p[j] : Int))))
/-- paths that are read -/
def PW (base : Nat) (w : World) (v : Value) (P : List (List Nat)) : Prop := ∃ b off c : Nat, v = .slice (some ⟨b, off, none⟩) P.length c ∧ P.length ≤ c ∧ b < w.heap.size ∧ base ≤ b ∧ ∀ k (h : k < P.length), ∃ u, w.cell? ⟨b, off + k, none⟩ = some u ∧ RowW base w u P[k]
theorem PR.toW {base : Nat} {w : World} {v : Value} {P : List (List Nat)} (h : PR base w none v P) : PW base w v P := by
  obtain ⟨b, off, c, h1, h2, h3, h4, _, h5⟩ := h
  refine ⟨b, off, c, h1, h2, h3, h4, fun k hk => ?_⟩
  obtain ⟨u, hu, B, O, c', g1, g2, g3, g4, _, g5⟩ := h5 k hk
  exact ⟨u, hu, _, B, O, c', g1, g2, .inr ⟨rfl, g3, g4, g5⟩⟩
theorem RowW.keep {base : Nat} {w w' : World} {u : Value} {p : List Nat} (h : RowW base w u p) (hB : Below w.heap.size w w') : RowW base w' u p := by
  obtain ⟨A, B, O, c, h1, h2, h3⟩ := h
  refine ⟨A, B, O, c, h1, h2, h3.imp id fun ⟨g1, g2, g3, g4⟩ => ⟨g1, Nat.lt_of_lt_of_le g2 hB.size, g3, fun j hj => (hB.cell (p := ⟨B, O + j, none⟩) g2).trans (g4 j hj)⟩⟩
theorem PW.keep {base : Nat} {w w' : World} {v : Value} {P : List (List Nat)} (h : PW base w v P) (hB : Below w.heap.size w w') : PW base w' v P := by
  obtain ⟨b, off, c, h1, h2, h3, h4, h5⟩ := h
  refine ⟨b, off, c, h1, h2, Nat.lt_of_lt_of_le h3 hB.size, h4, fun k hk => ?_⟩
  obtain ⟨u, hu, hr⟩ := h5 k hk
  exact ⟨u, (hB.cell (p := ⟨b, off + k, none⟩) h3).trans hu, hr.keep hB⟩

/-- a path that was gathered -/
structure PcR (D : Nat) (O : Nat → Prop) (own : Option Nat) (W : World) (u : Value) (p : List Nat) : Prop where
  r : W.ownsRow (D + 2) 3 1 u p.length (ivs p)
  n : ∀ b, u.ownBlock = some b → ¬ O b ∧ some b ≠ own
/-- the paths that were gathered -/
def Pc (D : Nat) (O : Nat → Prop) (W : World) (v : Value) (P : List (List Nat)) : Prop :=
  ∃ xs, W.ownsRow (D + 2) 34 1 v P.length xs ∧ xs.length = P.length ∧ (∀ b, v.ownBlock = some b → ¬ O b) ∧ ∀ k (h : k < P.length), ∃ u, xs[k]? = some u ∧ PcR D O v.ownBlock W u P[k]
theorem own_same {w w' : World} {base n : Nat} {e : TypeId} {v : Value} {xs : List Value} (h : w.ownsRow base e 1 v n xs) (hb : ∀ b, v.ownBlock = some b → w'.heap[b]? = w.heap[b]?) : w'.ownsRow base e 1 v n xs := by
  refine ⟨h.1, ?_⟩
  rcases h.2 with h5 | ⟨g, cap, cur, rfl, hb', hg, h6⟩
  · exact .inl h5
  · exact .inr ⟨g, cap, cur, rfl, hb', (hb g rfl).trans hg, h6⟩
theorem Pc.nil_ (D : Nat) (O : Nat → Prop) (W : World) : Pc D O W (.slice none 0 0) [] := ⟨[], World.ownsRow_nil _ _ _ _, rfl, fun b h => by simp [Value.ownBlock] at h, fun k h => by simp at h⟩
theorem Pc.mv {D : Nat} {O O' : Nat → Prop} {W W' : World} {v : Value} {P : List (List Nat)} (h : Pc D O W v P) (hm : Mv (EE D) O W O' W') : Pc D O' W' v P := by
  obtain ⟨xs, h1, h2, h3, h4⟩ := h
  have key : ∀ {u : Value} {e : TypeId} {n : Nat} {ys : List Value}, W.ownsRow (D + 2) e 1 u n ys → (∀ b, u.ownBlock = some b → ¬ O b) → (∀ b, u.ownBlock = some b → W'.heap[b]? = W.heap[b]? ∧ ¬ O' b) := fun hr hn b hb => by
    obtain ⟨g1, g2⟩ := hr.lt b hb
    refine ⟨hm.kept b g2 (hn b hb) (fun h => by rcases h with h | h <;> omega), fun h => ?_⟩
    rcases hm.new b h with h | h
    · exact hn b hb h
    · omega
  refine ⟨xs, own_same h1 fun b hb => (key h1 h3 b hb).1, h2, fun b hb => (key h1 h3 b hb).2, fun k hk => ?_⟩
  obtain ⟨u, hu, hr⟩ := h4 k hk
  exact ⟨u, hu, own_same hr.r fun b hb => (key hr.r (fun b hb => (hr.n b hb).1) b hb).1, fun b hb => ⟨(key hr.r (fun b hb => (hr.n b hb).1) b hb).2, (hr.n b hb).2⟩⟩
/-- one path more -/
theorem Pc.snoc {D B : Nat} {O : Nat → Prop} {W w5 w7 : World} {v u v7 : Value} {P : List (List Nat)} {p : List Nat} {xs : List Value} {Y : Obj} (hbs : Wb (D + 2) O W) (hD : D + 2 ≤ W.heap.size) (hB : B < D)
    (h1 : W.ownsRow (D + 2) 34 1 v P.length xs) (h2 : xs.length = P.length) (h3 : ∀ b, v.ownBlock = some b → ¬ O b) (h4 : ∀ k (h : k < P.length), ∃ u, xs[k]? = some u ∧ PcR D O v.ownBlock W u P[k])
    (h5 : Below W.heap.size W w5) (hu : w5.ownsRow W.heap.size 3 1 u p.length (ivs p))
    (h7 : w7.ownsRow (D + 2) 34 1 v7 (P.length + 1) (xs ++ [u])) (hg : (w5.alloc Y).grownBy w7 v.ownBlock) (hb7 : v7.ownBlock = v.ownBlock ∨ v7.ownBlock = some (w5.alloc Y).heap.size) (z : Value) :
    Pc D O (w7.setCell ⟨B, 0, none⟩ z) v7 (P ++ [p]) := by
  have hz : (w5.alloc Y).heap.size = w5.heap.size + 1 := by simp
  have hs : ∀ b, b ≠ B → (w7.setCell ⟨B, 0, none⟩ z).heap[b]? = w7.heap[b]? := fun b hb => Below.heap_setCell _ _ _ _ hb
  have hold : ∀ b, b < W.heap.size → some b ≠ v.ownBlock → b ≠ B → (w7.setCell ⟨B, 0, none⟩ z).heap[b]? = W.heap[b]? := fun b hb hne hB' => by
    rw [hs b hB', hg.block b (by have := h5.size; omega) hne, Below.heap_alloc _ _ _ (by have := h5.size; omega), h5.block b hb]
  refine ⟨xs ++ [u], own_same (by rw [List.length_append]; exact h7) fun b hb => hs b (by have := (h7.lt b hb).1; omega), by simp [h2], fun b hb => ?_, fun k hk => ?_⟩
  · rcases hb7 with h | h
    · exact h3 b (by rw [← h]; exact hb)
    · intro h9
      rw [h] at hb
      have := (hbs b h9).2
      have := h5.size
      injection hb with hb
      omega
  · rw [List.length_append, List.length_singleton] at hk
    have hne7 : ∀ b, b < w5.heap.size → some b ≠ v.ownBlock → some b ≠ v7.ownBlock := fun b hb hne => by
      rcases hb7 with h | h
      · rw [h]; exact hne
      · rw [h]; intro h9; injection h9 with h9; omega
    rcases Nat.lt_or_ge k P.length with hk' | hk'
    · obtain ⟨x, hx, hxr⟩ := h4 k hk'
      refine ⟨x, by rw [List.getElem?_append_left (by omega)]; exact hx, ?_⟩
      rw [List.getElem_append_left hk']
      refine ⟨own_same hxr.r fun b hb => ?_, fun b hb => ⟨(hxr.n b hb).1, ?_⟩⟩
      · have := hxr.r.lt b hb
        exact hold b this.2 (hxr.n b hb).2 (by omega)
      · have := hxr.r.lt b hb
        exact hne7 b (by have := h5.size; omega) (hxr.n b hb).2
    · obtain rfl : k = P.length := by omega
      refine ⟨u, by rw [List.getElem?_append_right (by omega), h2]; simp, ?_⟩
      rw [List.getElem_append_right (Nat.le_refl _)]
      simp only [Nat.sub_self, List.getElem_singleton]
      have hvl : ∀ b, v.ownBlock = some b → b < W.heap.size := fun b hb => (h1.lt b hb).2
      have hub : ∀ b, u.ownBlock = some b → W.heap.size ≤ b ∧ b < w5.heap.size ∧ some b ≠ v.ownBlock := fun b hb => by
        have := hu.lt b hb
        exact ⟨this.1, this.2, fun h => by have := hvl b h.symm; omega⟩
      have hu2 : w5.ownsRow (D + 2) 3 1 u p.length (ivs p) := by
        refine ⟨hu.1, ?_⟩
        rcases hu.2 with h | ⟨g, cap, cur, e1, e2, e3⟩
        · exact .inl h
        · exact .inr ⟨g, cap, cur, e1, by omega, e3⟩
      refine ⟨own_same hu2 fun b hb => ?_, fun b hb => ⟨fun h => ?_, ?_⟩⟩
      · obtain ⟨g1, g2, g3⟩ := hub b hb
        rw [hs b (by omega), hg.block b (by omega) g3, Below.heap_alloc _ _ _ g2]
      · obtain ⟨g1, g2, g3⟩ := hub b hb
        have := (hbs b h).2
        omega
      · obtain ⟨g1, g2, g3⟩ := hub b hb
        exact hne7 b g2 g3
/-- what the round of an append keeps -/
theorem kr_app {n₀ D B : Nat} {O : Nat → Prop} {W w5 w7 : World} {v : Value} {Y : Obj} (hbs : Wb (D + 2) O W) (hD : D + 2 ≤ W.heap.size) (hB : B < D) (hn : n₀ ≤ B)
    (h5 : Below W.heap.size W w5) (hg : (w5.alloc Y).grownBy w7 v.ownBlock) (hvn : ∀ b, v.ownBlock = some b → ¬ O b ∧ D + 2 ≤ b) (z : Value) :
    (Kr n₀ O W (w7.setCell ⟨B, 0, none⟩ z)) ∧ (w7.setCell ⟨B, 0, none⟩ z).heap[D]? = W.heap[D]? ∧ (w7.setCell ⟨B, 0, none⟩ z).heap[D + 1]? = W.heap[D + 1]? := by
  have hz : (w5.alloc Y).heap.size = w5.heap.size + 1 := by simp
  have hold : ∀ b, b < W.heap.size → some b ≠ v.ownBlock → b ≠ B → (w7.setCell ⟨B, 0, none⟩ z).heap[b]? = W.heap[b]? := fun b hb hne hB' => by
    rw [Below.heap_setCell _ _ _ _ hB', hg.block b (by have := h5.size; omega) hne, Below.heap_alloc _ _ _ (by have := h5.size; omega), h5.block b hb]
  refine ⟨⟨?_, fun b hb => hold b (hbs b hb).2 (fun h => (hvn b h.symm).1 hb) (by have := (hbs b hb).1; omega)⟩, hold D (by omega) (fun h => by have := (hvn D h.symm).2; omega) (by omega), hold (D + 1) (by omega) (fun h => by have := (hvn _ h.symm).2; omega) (by omega)⟩
  exact (((h5.mono (by omega)).alloc (by have := h5.size; omega) Y).grown hg (by have := h5.size; omega) (fun k hk => by have := (hvn k hk).2; omega)).setCell (p := ⟨B, 0, none⟩) hn _
theorem Pc.read {D : Nat} {O : Nat → Prop} {W : World} {v : Value} {P : List (List Nat)} (h : Pc D O W v P) (hP : P ≠ []) {base : Nat} (hb : base ≤ D) : PW base W v P := by
  obtain ⟨xs, h1, h2, h3, h4⟩ := h
  have hpl : 0 < P.length := List.length_pos_iff.2 hP
  rcases h1.2 with ⟨_, h5⟩ | ⟨g, cap, cur, rfl, hbb, hg, hc, _, hs, ht⟩
  · omega
  · refine ⟨g, 0, cap, rfl, hc, (Array.getElem?_eq_some_iff.1 hg).1, by omega, fun k hk => ?_⟩
    obtain ⟨u, hu, hr⟩ := h4 k hk
    refine ⟨u, ?_, ?_⟩
    · rw [cell_of_row W g (0 + k) cur _ (0, 0) hg]
      rw [← ht, List.getElem?_take_of_lt (by omega)] at hu
      rw [Nat.zero_add, ← hu]
      simp
    · obtain ⟨p, hp⟩ : ∃ p, P[k] = p := ⟨_, rfl⟩
      rw [hp] at hr ⊢
      rcases hr.r.2 with ⟨rfl, h5⟩ | ⟨g', cap', cur', rfl, hbb', hg', hc', _, hs', ht'⟩
      · have : p = [] := List.eq_nil_of_length_eq_zero h5
        subst this
        exact ⟨none, 0, 0, 0, rfl, Nat.le_refl _, .inl rfl⟩
      · refine ⟨_, g', 0, cap', rfl, hc', .inr ⟨rfl, (Array.getElem?_eq_some_iff.1 hg').1, by omega, fun j hj => ?_⟩⟩
        rw [Nat.zero_add, cell_of_row W g' j cur' _ (0, 0) hg']
        have h9 : (ivs p)[j]? = some (.int .i64 (p[j] : Int)) := by simp [ivs, List.getElem?_eq_getElem hj]
        rw [← ht', List.getElem?_take_of_lt (by omega)] at h9
        simpa using h9
/-- an append in a region of a round -/
theorem stepIn_own {P : Program} {F : Fence} {n : Nat} {ops : Array Oper} {o : Oper} {a : Act} {w : World} {K : Act → World → Prop} {Q : Exit → Act → World → Prop} {E : Prop} (hgd : o.guard = none) (s x : Operand) (t : TypeId)
    (hop : o.op = .call { callee := .builtin .append, args := #[s, x], argTypes := #[t, t] })
    (base : Nat) (e : TypeId) (i : TypeInfo) (z : Value) (bytes : Nat) (ht : P.underlying t = some (.slice e)) (hi : P.info? e = some i) (hz : i.zero = some z)
    (hsize : i.size = 1) (hby : i.bytes = bytes) (hzs : z.cells.size = 1)
    (v : Value) (k : Nat) (xs : List Value) (hs : a.eval s = v) (hown : w.ownsRow base e 1 v k xs) (ad : Addr) (c : Nat) (u : Value) (hx : a.eval x = .slice (some ad) 1 c)
    (hc : ∀ j y, [u][j]? = some y → w.cell? (ad.add j) = some y) (h1 : u.oneCell' = true)
    (h63 : k + 1 ≤ maxLen) (hbytes : (k + 1) * bytes ≤ 140737488355328) (hbase : base ≤ w.heap.size)
    (h : ∀ v' w', w'.ownsRow base e 1 v' (k + 1) (xs ++ [u]) → w.grownBy w' v.ownBlock → (v'.ownBlock = v.ownBlock ∨ v'.ownBlock = some w.heap.size) → K (a.put o.dst v') w') :
    if Region.wanted o (yielded ops a.tmps) = true then Oper.wpIn F n P o a w K Q else E := by
  have hw : Region.wanted o (yielded ops a.tmps) = true := by simp [Region.wanted, hgd]
  rw [if_pos hw]
  obtain ⟨v', w', hrun, r1, r2, _, r4⟩ := run_append_own_at (P := P) w base t o.type e i z 1 bytes ht hi hz hsize hby hzs (by decide) v k xs hown ad 1 c [u] rfl hc (fun y hy => by simp at hy; subst hy; exact h1) h63 hbytes hbase
  unfold Oper.wpIn
  refine ⟨?_, ?_⟩
  · simp [Oper.about, hop, resolve, Target.leads, Sem.run_pure]
  · rw [Oper.semAt_plain F _ _ (by rw [hop]; intro c hc'; cases hc')]
    simp [execOp, hop, resolve, invoke, builtin, hs, hx, hrun, Result.andThen]
    exact h v' w' r1 r2 r4
end Go.Proofs.Ythpaipjfkhjblaa.nn
namespace Go.Proofs.Ythpaipjfkhjblaa.nn
open Go.RowKit

/-- what Paths answers -/
def PsAns (t : VT) (w : World) (e : Ending) (w' : World) : Prop := ∃ v, e = .returned v ∧ PR w.heap.size w' none v ((pth t).take 65536) ∧ Below w.heap.size w w'
theorem PR.low {base base' : Nat} {w : World} {own : Option Nat} {v : Value} {P : List (List Nat)} (h : PR base w own v P) (hb : base' ≤ base) : PR base' w own v P := by
  obtain ⟨b, o, c, h1, h2, h3, h0, h5, h6⟩ := h
  exact ⟨b, o, c, h1, h2, h3, by omega, h5, fun k hk => by
    obtain ⟨u, hu, b', o', c', g1, g2, g3, g0, g5, g6⟩ := h6 k hk
    exact ⟨u, hu, b', o', c', g1, g2, g3, by omega, g5, g6⟩⟩
set_option maxRecDepth 100000 in
set_option maxHeartbeats 1000000 in
theorem rPaths_any (t : VT) (C : Value) (w : World) (hN : cnt t ≤ 1048577) (hC : Lst w C t.l) : Calls Try.prog 18 #[vv t C] w (PsAns t w) := by
  have HB0 := Lib.hid (Box.new w t C 25)
  have HI : Hid (∀ W, Below w.heap.size w W → Calls Try.prog 29 #[vv t C] W (PpAns t W)) := Lib.hid fun W hW => rpaths_any _ t C W (Nat.le_refl _) hN (hC.keep hW (Nat.le_refl _))
  have hpl := pth_len t
  unfold vv at HI ⊢
  go_enter Try.func18, Try.ntmps18
  go_wp2_with fail
  refine (HI.out _ HB0.out.b).mono ?_
  rintro e w2 ⟨x, rfl, hx, hb2⟩
  obtain ⟨b, off, c, rfl, hc⟩ := hx.form
  have hk2 := Lib.hid (HB0.out.on hb2)
  obtain ⟨m, hm⟩ : ∃ m, (pth t).length = m := ⟨_, rfl⟩
  obtain ⟨k, hk⟩ : ∃ k, min m 65536 = k := ⟨_, rfl⟩
  have emin : min (m : Int) 65536 = (k : Int) := by omega
  have hkc : k ≤ c := by omega
  have hx2 : PR w.heap.size w2 none (.slice (some ⟨b, off, none⟩) k c) ((pth t).take 65536) := by
    have h := (hx.take (k := k) (by omega)).low (by simp : w.heap.size ≤ _)
    rw [show (pth t).take k = (pth t).take 65536 from by rw [← hk, ← hm, List.take_eq_take_iff]; omega] at h
    exact h
  have HX := Lib.hid hx2
  rw [hm] at hc ⊢
  clear hx hx2 hb2 hm hk hpl
  go_wp2_with fail
  go_ret
  exact ⟨_, rfl, HX.out, hk2.out.b⟩
theorem drew_on (w : World) (a b : Nat) : ∃ q, (w.drewN a).drewN b = w.drewN q := ⟨a + b, World.drewN_drewN _ _ _⟩
set_option maxRecDepth 100000 in
set_option maxHeartbeats 2000000 in
/-- two lists of paths that are the same -/
theorem lpaths_same (va vb : Value) (P : List (List Nat)) (w : World) {base base' : Nat} (ha : PW base w va P) (hb : PW base' w vb P) (hn : P.length ≤ 1048577) (hs : ∀ p ∈ P, p.length ≤ 1048577) :
    Calls Try.prog 16 #[va, vb] w fun e w' => e = .returned (.bool true) ∧ ∃ q, w' = w.drewN q := by
  obtain ⟨b1, o1, c1, rfl, hc1, _, _, hra⟩ := ha
  obtain ⟨b2, o2, c2, rfl, hc2, _, _, hrb⟩ := hb
  have HS := Lib.hid hs
  obtain ⟨m, hm⟩ : ∃ m, P.length = m := ⟨_, rfl⟩
  have HM := Lib.hid hm
  rw [hm] at hc1 hc2 hn ⊢
  have HA := Lib.hid hra
  have HB := Lib.hid hrb
  clear hs hra hrb hm
  go_enter Try.func16, Try.ntmps16
  go_wp2_with fail
  go_loopw [5] (fun s5 wr => ∃ i : Nat, i ≤ m ∧ s5 = .int .i64 (i : Int) ∧ Hid (∃ q, wr = w.drewN q)) (fun s5 _ => m - (intOf s5).toNat)
  case atStart => exact ⟨0, Nat.zero_le _, rfl, Lib.hid ⟨0, rfl⟩⟩
  case round =>
    obtain ⟨i, hi, rfl, hq⟩ := hrel
    by_cases hlt : i < m
    · obtain ⟨q, rfl⟩ := hq.out
      have hlp : i < P.length := by rw [HM.out]; exact hlt
      obtain ⟨u1, hu1, A1, B1, O1, d1, rfl, e1, f1⟩ := HA.out i hlp
      obtain ⟨u2, hu2, A2, B2, O2, d2, rfl, e2, f2⟩ := HB.out i hlp
      have hpl := HS.out P[i] (List.getElem_mem hlp)
      obtain ⟨p, hp⟩ : ∃ p, P[i] = p := ⟨_, rfl⟩
      rw [hp] at hpl hu1 hu2 e1 e2
      have F1 : Hid (∀ j (h : j < p.length), ∃ B O, A1 = some ⟨B, O, none⟩ ∧ w.cell? ⟨B, O + j, none⟩ = some (.int .i64 (p[j] : Int))) := Lib.hid fun j h => by
        subst hp
        rcases f1 with f | ⟨g1, _, _, g2⟩
        · rw [f] at h; exact absurd h (by simp)
        · exact ⟨_, _, g1, g2 j h⟩
      have F2 : Hid (∀ j (h : j < p.length), ∃ B O, A2 = some ⟨B, O, none⟩ ∧ w.cell? ⟨B, O + j, none⟩ = some (.int .i64 (p[j] : Int))) := Lib.hid fun j h => by
        subst hp
        rcases f2 with f | ⟨g1, _, _, g2⟩
        · rw [f] at h; exact absurd h (by simp)
        · exact ⟨_, _, g1, g2 j h⟩
      obtain ⟨r, hr⟩ : ∃ r, p.length = r := ⟨_, rfl⟩
      have HR := Lib.hid hr
      rw [hr] at hpl hu1 hu2 e1 e2
      clear f1 f2 hp hr hq
      go_wp2_with fail
      go_quiet (fail)
      go_wp2_with fail
      go_loopw [6] (fun s6 wr => ∃ j : Nat, j ≤ r ∧ s6 = .int .i64 (j : Int) ∧ Hid (∃ q, wr = w.drewN q)) (fun s6 _ => r - (intOf s6).toNat)
      case atStart => exact ⟨0, Nat.zero_le _, rfl, Lib.hid (drew_on _ _ _)⟩
      case round =>
        obtain ⟨j, hj, rfl, hq⟩ := hrel
        obtain ⟨q2, rfl⟩ := hq.out
        by_cases hlj : j < r
        · have hlj2 : j < p.length := by rw [HR.out]; exact hlj
          obtain ⟨B1', O1', rfl, g1⟩ := F1.out j hlj2
          obtain ⟨B2', O2', rfl, g2⟩ := F2.out j hlj2
          obtain ⟨x, hx⟩ : ∃ x, p[j] = x := ⟨_, rfl⟩
          rw [hx] at g1 g2
          clear hx hq
          go_wp2_with fail
          go_quiet (fail)
          go_wp2_with fail
          clear g1 g2
          go_roundw
          case rel => exact ⟨j + 1, hlj, by go_num, Lib.hid ⟨_, rfl⟩⟩
          case measure => simp [intOf]; omega
        · obtain rfl : j = r := by omega
          go_wp2_with fail
          clear hu1 hu2
          go_roundw
          case rel => exact ⟨i + 1, hlt, by go_num, Lib.hid ⟨q2, rfl⟩⟩
          case measure => simp [intOf]; omega
    · obtain rfl : i = m := by omega
      obtain ⟨q, rfl⟩ := hq.out
      go_wp2_with fail
      go_ret
      exact ⟨rfl, q, rfl⟩
end Go.Proofs.Ythpaipjfkhjblaa.nn
namespace Go.Proofs.Ythpaipjfkhjblaa.nn
open Go.RowKit

set_option maxHeartbeats 400000 in
/-- a new block that holds the same places -/
theorem clonei_any (v : Value) (zs : List Nat) (w : World) (hv : Pa w v zs) (hz : zs.length ≤ 1099511627776) :
    Calls Try.prog 28 #[v] w fun e w' => ∃ u, e = .returned u ∧ w'.ownsRow w.heap.size 3 1 u zs.length (ivs zs) ∧ Below w.heap.size w w' := by
  obtain ⟨i0, hi, hz0, hz1, hz2⟩ : ∃ i0, Try.prog.info? 3 = some i0 ∧ i0.zero = some (.int .i64 0) ∧ i0.size = 1 ∧ i0.bytes = 8 := info_parts info_int3
  rcases hv.2 with ⟨rfl, h0⟩ | ⟨g, cap, cur, rfl, _, hgg, hcc, _, hcs, htk⟩
  · have hn : zs = [] := List.eq_nil_of_length_eq_zero h0
    subst hn
    have hn0 := fun (wx : World) => Lib.run_eql_slice_nil (P := Try.prog) wx 34 3 none 0 0 0 0 Try.underlying34
    go_enter Try.func28, Try.ntmps28
    go_wp2
    go_ret
    exact ⟨_, rfl, World.ownsRow_nil _ _ _ _, Below.refl _ _⟩
  · have hn0 := fun (wx : World) => Lib.run_eql_slice_nil (P := Try.prog) wx 34 3 (some ⟨g, 0, none⟩) zs.length cap 0 0 Try.underlying34
    have holds := hv.cells (g := g) rfl
    have HN : Hid (∀ o j u, (ivs zs)[j]? = some u → (w.alloc o).cell? ((⟨g, 0, none⟩ : Addr).add j) = some u) := Lib.hid fun o j u hu => by
      have h1 := holds j u hu
      have h2 : (⟨g, 0, none⟩ : Addr).add j = ⟨g, j, none⟩ := by unfold Addr.add; split <;> simp_all
      rw [h2] at h1 ⊢
      rw [← h1]
      exact World.cell?_of_block (Below.heap_alloc w o g (Array.getElem?_eq_some_iff.1 hgg).1)
    have H1 : Hid (∀ u ∈ ivs zs, u.oneCell' = true) := Lib.hid fun u hu => by
      obtain ⟨q, _, rfl⟩ := List.mem_map.1 hu
      rfl
    clear holds hgg hcs htk hv
    go_enter Try.func28, Try.ntmps28
    go_wp2_with (at_builtin; refine wpList_append_own_at _ rfl (.tmp 5) (.tmp 6) 34 rfl w.heap.size 3 i0 (.int .i64 0) 1 8 Try.underlying34 hi hz0 hz1 hz2 rfl (by decide) (.slice (some ⟨w.heap.size, 0, none⟩) 0 0) 0 [] rfl (World.ownsRow_lit w #[] 0 (Nat.le_refl _) (by simp [maxLen]) rfl) ⟨g, 0, none⟩ zs.length cap (ivs zs) rfl (by rw [ivs_len]; omega) (HN.out _) H1.out (by unfold maxLen; omega) (by omega) (by simp) ?_; intro v1 w1 ho1 hg1 _ _)
    go_ret
    refine ⟨v1, rfl, ?_, ?_⟩
    · rw [Nat.zero_add, List.nil_append] at ho1
      exact ho1
    · exact ((Below.refl _ _).alloc (Nat.le_refl _) _).grown hg1 (by simp) (fun k hk => by simp [Value.ownBlock] at hk; omega)
end Go.Proofs.Ythpaipjfkhjblaa.nn
namespace Go.Proofs.Ythpaipjfkhjblaa.nn
open Go.RowKit

attribute [local go_sem] Oper.semAt_some
/-- what Paths answers -/
def PsW (t : VT) (w : World) (e : Ending) (w' : World) : Prop := ∃ v, e = .returned v ∧ PW w.heap.size w' v ((pth t).take 65536) ∧ Below w.heap.size w w'
theorem Pc.free {D : Nat} {O : Nat → Prop} {W : World} {v : Value} {P : List (List Nat)} (h : Pc D O W v P) : Pc D No W v P := by
  obtain ⟨xs, h1, h2, h3, h4⟩ := h
  refine ⟨xs, h1, h2, fun _ _ h => h, fun k hk => ?_⟩
  obtain ⟨u, hu, hr⟩ := h4 k hk
  exact ⟨u, hu, hr.r, fun b hb => ⟨fun h => h, (hr.n b hb).2⟩⟩
theorem Pc.form {D : Nat} {O : Nat → Prop} {W : World} {v : Value} {P : List (List Nat)} (h : Pc D O W v P) : ∃ A c, v = .slice A P.length c := by
  obtain ⟨xs, h1, _⟩ := h
  rcases h1.2 with ⟨rfl, h0⟩ | ⟨g, cap, cur, rfl, _⟩
  · rw [h0]; exact ⟨_, _, rfl⟩
  · exact ⟨_, _, rfl⟩
theorem mv_put (D : Nat) (O : Nat → Prop) (W : World) (o : Obj) : Mv (EE D) O W O (W.putObj D o) := Mv.put _ _ (.inl rfl)
def PI (w : World) (D : Nat) (pre : List (List Nat × VT)) (O : Nat → Prop) (W : World) : Prop := (∃ v, Boxed W (w.heap.size + 1) 31 v ∧ Pc D O W v (pre.map Prod.fst)) ∧ pre.length ≤ 65536 ∧ Below w.heap.size w W
def PX (w : World) (D : Nat) (c : Code) (pre : List (List Nat × VT)) (W : World) : Prop := c = .exit 0 ∧ 65536 ≤ pre.length ∧ (∃ v, Boxed W (w.heap.size + 1) 31 v ∧ Pc D No W v ((pre.map Prod.fst).take 65536)) ∧ Below w.heap.size w W
theorem info_ints3 : (Try.prog.info? 34).map (fun i => (i.zero, i.size, i.bytes)) = some (some (.slice none 0 0), 1, 24) := by kernel_rfl
set_option maxRecDepth 100000 in
set_option maxHeartbeats 2000000 in
theorem vPaths_any (t : VT) (C : Value) (w : World) (hN : cnt t ≤ 1048577) (hC : Lst w C t.l) :
    Calls Try.prog 17 #[vv t C] w (PsW t w) := by
  obtain ⟨i0, hi0, hz0, hz1, hz2⟩ : ∃ i0, Try.prog.info? 34 = some i0 ∧ i0.zero = some (.slice none 0 0) ∧ i0.size = 1 ∧ i0.bytes = 24 := info_parts info_ints3
  have HA := Lib.hid (fun W => all_any t C W)
  obtain ⟨W1, hW1⟩ : ∃ W1, w.alloc (.cells #[.int .i64 t.k, .bool t.g, .int .u64 (t.n : Int), .string t.s, C] 25) = W1 := ⟨_, rfl⟩
  obtain ⟨W2, hW2⟩ : ∃ W2, W1.alloc (.cells #[.slice none 0 0] 31) = W2 := ⟨_, rfl⟩
  obtain ⟨W3, hW3⟩ : ∃ W3, W2.alloc (.cells #[.int .i64 t.k, .bool t.g, .int .u64 (t.n : Int), .string t.s, C] 25) = W3 := ⟨_, rfl⟩
  have hz1' : W1.heap.size = w.heap.size + 1 := by rw [← hW1]; simp
  have hz2' : W2.heap.size = w.heap.size + 2 := by rw [← hW2]; simp [hz1']
  have hz3 : W3.heap.size = w.heap.size + 3 := by rw [← hW3]; simp [hz2']
  have B1 : Below w.heap.size w W1 := by rw [← hW1]; exact (Below.refl _ _).alloc (Nat.le_refl _) _
  have B2 : Below W1.heap.size W1 W2 := by rw [← hW2]; exact (Below.refl _ _).alloc (Nat.le_refl _) _
  have B3 : Below W2.heap.size W2 W3 := by rw [← hW3]; exact (Below.refl _ _).alloc (Nat.le_refl _) _
  have hb3 : Below w.heap.size w W3 := B1.trans ((B2.mono (by omega)).trans (B3.mono (by omega)))
  have R3 : Row W3 (w.heap.size + 2) 0 t C := by rw [← hW3, ← hz2']; exact (Box.new W2 t C 25).r
  have N2 : Boxed W2 (w.heap.size + 1) 31 (.slice none 0 0) := by rw [← hW2, ← hz1']; exact Boxed.new W1 _ _
  have N3 : Boxed W3 (w.heap.size + 1) 31 (.slice none 0 0) := (B3.block _ (by omega)).trans N2
  have hG := gives_all w t C W3 (w.heap.size + 2) (by omega) R3 hb3 hC (by omega)
  have hI0 : PI w W3.heap.size [] No W3 := ⟨⟨_, N3, Pc.nil_ _ _ _⟩, Nat.zero_le _, hb3⟩
  have HG := Lib.hid (And.intro hG (And.intro hI0 hz3))
  have E1 := Lib.hid hW1
  have E2 := Lib.hid hW2
  have E3 := Lib.hid hW3
  clear hG N2 N3 R3 B1 B2 B3 hb3 hC hW1 hW2 hW3 hz1' hz2' hz3 hI0
  unfold vv at HA ⊢
  refine callsIn_wide.1 (callsIn_of_wp_marks (n := 3) Try.func17 rfl trivial (wpIn_wide.2 ?_) rfl)
  simp only [Try.ntmps17, List.size_toArray, List.length_cons, List.length_nil, Nat.reduceAdd, Nat.reduceSub, Array.replicate_succ, Array.replicate_zero, List.push_toArray, List.append_toArray, List.nil_append, List.cons_append]
  go_wp2_with fail
  refine (HA.out _).mono ?_
  rintro e w' ⟨rfl, rfl⟩
  go_wp2_with fail
  rw [E1.out, E2.out, E3.out]
  obtain ⟨hG, hI0, hz3⟩ := HG.out
  clear HA E1 E2 E3 HG
  refine (wpIn_wide (n := 3)).1 ?_
  refine rf_law (gf := 32) (lb := #[.pointer (some ⟨w.heap.size + 2, 0, none⟩)]) rfl (enters_of Try.func32 (by kernel_rfl) rfl) hG (by omega) (fun _ _ _ _ h => args2 h)
    (PI w W3.heap.size) (PX w W3.heap.size)
    (fun pre O W O' W' h hb hm => ⟨by obtain ⟨v, h1, h2⟩ := h.1; exact ⟨v, mv_box h1 hm hb (by omega), h2.mv hm⟩, h.2.1, mv_below2 h.2.2 hm hb (by omega) (Nat.le_refl _)⟩)
    (fun c pre W O' W' h hm => ⟨h.1, h.2.1, by obtain ⟨v, h1, h2⟩ := h.2.2.1; exact ⟨v, mv_box h1 hm (Wb.no _ _) (by omega), (h2.mv hm).free⟩, mv_below2 h.2.2.2 hm (Wb.no _ _) (by omega) (Nat.le_refl _)⟩) hI0
    (fun x O a' W => ∃ v C', a' = { tmps := #[.agg #[.int .i64 t.k, .bool t.g, .int .u64 (t.n : Int), .string t.s, C], .pointer (some ⟨w.heap.size, 0, none⟩), .slice none 0 0, .pointer (some ⟨w.heap.size + 1, 0, none⟩), v, .agg #[.int .i64 t.k, .bool t.g, .int .u64 (t.n : Int), .string t.s, C], .func (.func 32) #[] #[.pointer (some ⟨w.heap.size + 2, 0, none⟩)], v, vv x.2 C', undef, undef, undef, undef, undef, undef, undef, undef, undef], defers := [] } ∧ Pa W v x.1 ∧ ∀ b, v.ownBlock = some b → O b)
    (fun x O a' W o h hb => by
      obtain ⟨v, C', h1, h2, h3⟩ := h
      exact ⟨v, C', h1, h2.same fun b hb' => World.putObj_heap_other (by have := (hb b (h3 b hb')).1; omega), h3⟩) ?assign ?body ?done ?stop
  case assign =>
    intro l pre x O W args K hI hb hs ha hK
    obtain ⟨v, C', rfl, hp, ho, _⟩ := ha
    have := hK _ W (Kr.refl _ _ _) rfl rfl hI ⟨v, C', rfl, hp, ho⟩
    clear hK hI hb hs hp ho hG hI0 hz3
    gi_wp2
    simpa using this
  case body =>
    rintro l pre x O a' W ⟨⟨v, hv, hpc⟩, hle, hB⟩ hb hs ⟨p, C', rfl, hp, ho⟩ ⟨q, hq⟩
    have hlen : pre.length < 1048577 := by
      have := congrArg List.length hq
      rw [rws_len] at this
      simp at this
      omega
    have hzl : x.1.length ≤ 1048577 := by
      have h1 : x ∈ rws [] t := by rw [hq]; simp
      have h2 : x.1 ∈ pth t := by rw [← rws_pth]; exact List.mem_map_of_mem h1
      exact Nat.le_trans (pth_short t _ h2) hN
    obtain ⟨A, c, rfl⟩ := hpc.form
    have hpl : (pre.map Prod.fst).length = pre.length := by simp
    rw [hpl] at hv hpc
    have hc := Boxed.cell hv
    have hf := Boxed.frozen hv
    obtain ⟨m, hm⟩ : ∃ m, pre.length = m := ⟨_, rfl⟩
    rw [hm] at hc hlen hle
    have HK := Lib.hid (And.intro hm (And.intro hv (And.intro hB (And.intro hb (And.intro hz3 (And.intro hs hpc))))))
    have HO := Lib.hid ho
    clear hm hv hB hb hs hq hG hI0 hz3 hpl hpc ho
    by_cases hbr : m = 65536
    · subst hbr
      gi_wp2
      obtain ⟨hm, hv, hB, hb, hz3, hs, hpc⟩ := HK.out
      exact ⟨⟨rfl, rfl⟩, rfl, by simp [hm], ⟨_, hv, by rw [List.map_append, List.take_append_of_le_length (by simp [hm]), List.take_of_length_le (by simp [hm])]; exact hpc.free⟩, hB⟩
    · have hlt : m < 65536 := by omega
      obtain ⟨xs, h1, h2, h3, h4⟩ := HK.out.2.2.2.2.2.2
      have hpl' : (pre.map Prod.fst).length = m := by simp [HK.out.1]
      have hown : W.ownsRow (W3.heap.size + 2) 34 1 (.slice A m c) m xs := by
        have := h1
        rw [hpl', HK.out.1] at this
        exact this
      have hvl : ∀ b, (Value.slice A m c).ownBlock = some b → b < W.heap.size ∧ W3.heap.size + 2 ≤ b ∧ ¬ O b := fun b hb => ⟨(hown.lt b hb).2, (hown.lt b hb).1, h3 b (by rw [HK.out.1]; exact hb)⟩
      have HCL : Hid (∀ W', Below W.heap.size W W' → Calls Try.prog 28 #[p] W' fun e w' => ∃ u, e = .returned u ∧ w'.ownsRow W'.heap.size 3 1 u x.1.length (ivs x.1) ∧ Below W'.heap.size W' w') := Lib.hid fun W' h => clonei_any p x.1 W' (hp.same fun b hb => h.block b (hp.lt b hb).2) (by omega)
      have HBD : Hid (Below W.heap.size W W.drew) := Lib.hid (Below.refl _ _).drew
      have HU : Hid (∀ u w5, w5.ownsRow W.drew.heap.size 3 1 u x.1.length (ivs x.1) → Below W.drew.heap.size W.drew w5 → ∃ Au cu, u = .slice Au x.1.length cu ∧ Hid (Below W.heap.size W w5 ∧ w5.ownsRow W.heap.size 3 1 (.slice Au x.1.length cu) x.1.length (ivs x.1)) ∧ w5.cell? ⟨w.heap.size + 1, 0, none⟩ = some (.slice A m c)) := Lib.hid fun u w5 hu h5 => by
        have h5' : Below W.heap.size W w5 := HBD.out.trans h5
        have hcc : w5.cell? ⟨w.heap.size + 1, 0, none⟩ = some (.slice A m c) := (h5'.cell (p := ⟨w.heap.size + 1, 0, none⟩) (Boxed.lt HK.out.2.1)).trans hc
        rcases hu.2 with ⟨rfl, h0⟩ | ⟨g, cap, cur, rfl, hr⟩
        · exact ⟨none, 0, by rw [h0], Lib.hid ⟨h5', by have h := hu; rw [h0] at h ⊢; exact h⟩, hcc⟩
        · exact ⟨_, _, rfl, Lib.hid ⟨h5', hu⟩, hcc⟩
      have HOW : Hid (∀ w5, Below W.heap.size W w5 → ∀ Y, (w5.alloc Y).ownsRow (W3.heap.size + 2) 34 1 (.slice A m c) m xs) := Lib.hid fun w5 h Y => own_same hown fun b hb => by
        have := (hvl b hb).1
        rw [Below.heap_alloc _ _ _ (by have := h.size; omega), h.block b this]
      have HC6 : Hid (∀ w5, Below W.heap.size W w5 → ∀ Y, (w5.alloc Y).cell? ⟨w.heap.size + 1, 0, none⟩ = some (.slice A m c)) := Lib.hid fun w5 h Y =>
        ((h.alloc h.size Y).cell (p := ⟨w.heap.size + 1, 0, none⟩) (Boxed.lt HK.out.2.1)).trans hc
      have HSZ : Hid (∀ w5, Below W.heap.size W w5 → ∀ Y, W3.heap.size + 2 ≤ (w5.alloc Y).heap.size) := Lib.hid fun w5 h Y => by have := h.size; have := HK.out.2.2.2.2.2.1; simp; omega
      have HW7 : Hid (∀ (w5 w7 : World) {Y : Obj}, Below W.heap.size W w5 → (w5.alloc Y).grownBy w7 (Value.slice A m c).ownBlock → w7.cell? ⟨w.heap.size + 1, 0, none⟩ = some (.slice A m c) ∧ w7.frozen? ⟨w.heap.size + 1, 0, none⟩ = false) := Lib.hid fun w5 w7 Y h hg => by
        have hbl := Boxed.lt HK.out.2.1
        have e : w7.heap[w.heap.size + 1]? = W.heap[w.heap.size + 1]? := by
          rw [hg.block _ (by have := h.size; simp; omega) (fun h' => by have := (hvl _ h'.symm).2.1; have := HK.out.2.2.2.2.1; omega), Below.heap_alloc _ _ _ (by have := h.size; omega), h.block _ hbl]
        exact ⟨(World.cell?_of_block e).trans hc, (World.frozen?_of_block e).trans hf⟩
      have HFIN : Hid (∀ (Au : Option Addr) (cu : Nat) (w5 w7 : World) (g cap : Nat) {Y : Obj}, Below W.heap.size W w5 → w5.ownsRow W.heap.size 3 1 (.slice Au x.1.length cu) x.1.length (ivs x.1) →
          w7.ownsRow (W3.heap.size + 2) 34 1 (.slice (some ⟨g, 0, none⟩) (m + 1) cap) (m + 1) (xs ++ [.slice Au x.1.length cu]) → (w5.alloc Y).grownBy w7 (Value.slice A m c).ownBlock → ((Value.slice (some ⟨g, 0, none⟩) (m + 1) cap).ownBlock = (Value.slice A m c).ownBlock ∨ (Value.slice (some ⟨g, 0, none⟩) (m + 1) cap).ownBlock = some (w5.alloc Y).heap.size) →
          ∀ a, Exit.inBlock 1 (rfPost w.heap.size W3.heap.size O (PI w W3.heap.size) (PX w W3.heap.size) (pre ++ [x]) W) .normal a (w7.setCell ⟨w.heap.size + 1, 0, none⟩ (.slice (some ⟨g, 0, none⟩) (m + 1) cap))) := Lib.hid fun Au cu w5 w7 g cap Y g1 g2 g3 g4 g5 a => by
        obtain ⟨hm, hv, hB, hb, hz3, hs, hpc⟩ := HK.out
        have hk := kr_app hb hs (B := w.heap.size + 1) (n₀ := w.heap.size) (by omega) (by omega) g1 g4 (fun b hb' => ⟨(hvl b hb').2.2, (hvl b hb').2.1⟩) (.slice (some ⟨g, 0, none⟩) (m + 1) cap)
        have hI : PI w W3.heap.size (pre ++ [x]) O (w7.setCell ⟨w.heap.size + 1, 0, none⟩ (.slice (some ⟨g, 0, none⟩) (m + 1) cap)) := by
          refine ⟨⟨.slice (some ⟨g, 0, none⟩) (m + 1) cap, ?_⟩, by rw [List.length_append, hm]; simp; omega, hB.trans hk.1.b⟩
          refine And.intro ?_ ?_
          · have hbl := Boxed.lt hv
            have e : w7.heap[w.heap.size + 1]? = W.heap[w.heap.size + 1]? := by
              rw [g4.block _ (by have := g1.size; simp; omega) (fun h' => by have := (hvl _ h'.symm).2.1; omega), Below.heap_alloc _ _ _ (by have := g1.size; omega), g1.block _ hbl]
            exact Boxed.set _ (e.trans hv)
          · rw [hm] at h1 h3 h4
            rw [List.map_append]
            exact Pc.snoc (P := pre.map Prod.fst) (p := x.1) hb hs (by omega) h1 h2 h3 h4 g1 g2 (by rw [hpl']; exact g3) g4 g5 _
        exact ⟨hk, hI⟩
      clear hp h1 h2 h3 h4 hvl hpl' hown
      gi_wp2
      refine wpIn_region_any (by kernel_rfl) ?_
      change wpAnyIn _ _ _ _ _ _ _ _ _ (World.drew W)
      refine wpAnyIn_ready (rs := [0, 1]) (by kernel_rfl) (by simp) ?_
      refine AllReadyIn.cons rfl (fun K hK => ?_) (AllReadyIn.cons rfl (fun K hK => ?_) AllReadyIn.nil)
      · go_simp
        refine hK _ _ ?_; clear hK K
        refine wpAnyIn_ready (rs := [1]) (by kernel_rfl) (by simp) (AllReadyIn.cons rfl (fun K hK => ?_) AllReadyIn.nil)
        go_simp
        refine hK _ _ ?_; clear hK K
        refine wpAnyIn_ready (rs := [2]) (by kernel_rfl) (by simp) (AllReadyIn.cons rfl (fun K hK => ?_) AllReadyIn.nil)
        go_simp
        refine ⟨trivial, (CallsIn.inRound l (callsIn_wide.2 (HCL.out _ HBD.out))).mono ?_⟩
        rintro e w5 ⟨u, rfl, hu5, h5⟩
        obtain ⟨Au, cu, rfl, H5, hc5⟩ := HU.out u w5 hu5 h5
        clear hu5 h5
        go_simp
        refine hK _ _ ?_; clear hK K
        refine wpAnyIn_ready (rs := [3]) (by kernel_rfl) (by simp) (AllReadyIn.cons rfl (fun K hK => ?_) AllReadyIn.nil)
        go_simp
        refine hK _ _ ?_; clear hK K
        refine wpAnyIn_ready (rs := [4]) (by kernel_rfl) (by simp) (AllReadyIn.cons rfl (fun K hK => ?_) AllReadyIn.nil)
        refine stepIn_own rfl (.tmp 12) (.tmp 15) 31 rfl (W3.heap.size + 2) 34 i0 (.slice none 0 0) 24 Try.underlying31 hi0 hz0 hz1 hz2 rfl (.slice A m c) m xs rfl (HOW.out _ H5.out.1 _) ⟨w5.heap.size, 0, none⟩ 1 (.slice Au x.1.length cu) rfl (one_news w5 _ _) rfl (by unfold maxLen; omega) (by omega) (HSZ.out _ H5.out.1 _) ?_
        intro v7 w7 h7 hg7 hb7
        obtain ⟨g, cap, rfl⟩ := ownsRow_succ h7
        have hF := HFIN.out _ _ _ _ _ _ H5.out.1 H5.out.2 h7 hg7 hb7
        obtain ⟨k0, k1⟩ := HW7.out _ _ H5.out.1 hg7
        clear h7 hg7 hb7
        refine hK _ _ ?_; clear hK K
        refine wpAnyIn_ready (rs := [5]) (by kernel_rfl) (by simp) (AllReadyIn.cons rfl (fun K hK => ?_) AllReadyIn.nil)
        go_simp
        refine hK _ _ ?_; clear hK K
        refine wpAnyIn_done (by kernel_rfl) ?_ _
        exact hF _
      · go_simp
        refine hK _ _ ?_; clear hK K
        refine wpAnyIn_ready (rs := [0, 2]) (by kernel_rfl) (by simp) (AllReadyIn.cons rfl (fun K hK => ?_) (AllReadyIn.cons rfl (fun K hK => ?_) AllReadyIn.nil))
        · go_simp
          refine hK _ _ ?_; clear hK K
          refine wpAnyIn_ready (rs := [2]) (by kernel_rfl) (by simp) (AllReadyIn.cons rfl (fun K hK => ?_) AllReadyIn.nil)
          go_simp
          refine ⟨trivial, (CallsIn.inRound l (callsIn_wide.2 (HCL.out _ HBD.out))).mono ?_⟩
          rintro e w5 ⟨u, rfl, hu5, h5⟩
          obtain ⟨Au, cu, rfl, H5, hc5⟩ := HU.out u w5 hu5 h5
          clear hu5 h5
          go_simp
          refine hK _ _ ?_; clear hK K
          refine wpAnyIn_ready (rs := [3]) (by kernel_rfl) (by simp) (AllReadyIn.cons rfl (fun K hK => ?_) AllReadyIn.nil)
          go_simp
          refine hK _ _ ?_; clear hK K
          refine wpAnyIn_ready (rs := [4]) (by kernel_rfl) (by simp) (AllReadyIn.cons rfl (fun K hK => ?_) AllReadyIn.nil)
          refine stepIn_own rfl (.tmp 12) (.tmp 15) 31 rfl (W3.heap.size + 2) 34 i0 (.slice none 0 0) 24 Try.underlying31 hi0 hz0 hz1 hz2 rfl (.slice A m c) m xs rfl (HOW.out _ H5.out.1 _) ⟨w5.heap.size, 0, none⟩ 1 (.slice Au x.1.length cu) rfl (one_news w5 _ _) rfl (by unfold maxLen; omega) (by omega) (HSZ.out _ H5.out.1 _) ?_
          intro v7 w7 h7 hg7 hb7
          obtain ⟨g, cap, rfl⟩ := ownsRow_succ h7
          have hF := HFIN.out _ _ _ _ _ _ H5.out.1 H5.out.2 h7 hg7 hb7
          obtain ⟨k0, k1⟩ := HW7.out _ _ H5.out.1 hg7
          clear h7 hg7 hb7
          refine hK _ _ ?_; clear hK K
          refine wpAnyIn_ready (rs := [5]) (by kernel_rfl) (by simp) (AllReadyIn.cons rfl (fun K hK => ?_) AllReadyIn.nil)
          go_simp
          refine hK _ _ ?_; clear hK K
          refine wpAnyIn_done (by kernel_rfl) ?_ _
          exact hF _
        · go_simp
          refine ⟨trivial, (CallsIn.inRound l (callsIn_wide.2 (HCL.out _ HBD.out))).mono ?_⟩
          rintro e w5 ⟨u, rfl, hu5, h5⟩
          obtain ⟨Au, cu, rfl, H5, hc5⟩ := HU.out u w5 hu5 h5
          clear hu5 h5
          go_simp
          refine hK _ _ ?_; clear hK K
          refine wpAnyIn_ready (rs := [0, 3]) (by kernel_rfl) (by simp) (AllReadyIn.cons rfl (fun K hK => ?_) (AllReadyIn.cons rfl (fun K hK => ?_) AllReadyIn.nil))
          · go_simp
            refine hK _ _ ?_; clear hK K
            refine wpAnyIn_ready (rs := [3]) (by kernel_rfl) (by simp) (AllReadyIn.cons rfl (fun K hK => ?_) AllReadyIn.nil)
            go_simp
            refine hK _ _ ?_; clear hK K
            refine wpAnyIn_ready (rs := [4]) (by kernel_rfl) (by simp) (AllReadyIn.cons rfl (fun K hK => ?_) AllReadyIn.nil)
            refine stepIn_own rfl (.tmp 12) (.tmp 15) 31 rfl (W3.heap.size + 2) 34 i0 (.slice none 0 0) 24 Try.underlying31 hi0 hz0 hz1 hz2 rfl (.slice A m c) m xs rfl (HOW.out _ H5.out.1 _) ⟨w5.heap.size, 0, none⟩ 1 (.slice Au x.1.length cu) rfl (one_news w5 _ _) rfl (by unfold maxLen; omega) (by omega) (HSZ.out _ H5.out.1 _) ?_
            intro v7 w7 h7 hg7 hb7
            obtain ⟨g, cap, rfl⟩ := ownsRow_succ h7
            have hF := HFIN.out _ _ _ _ _ _ H5.out.1 H5.out.2 h7 hg7 hb7
            obtain ⟨k0, k1⟩ := HW7.out _ _ H5.out.1 hg7
            clear h7 hg7 hb7
            refine hK _ _ ?_; clear hK K
            refine wpAnyIn_ready (rs := [5]) (by kernel_rfl) (by simp) (AllReadyIn.cons rfl (fun K hK => ?_) AllReadyIn.nil)
            go_simp
            refine hK _ _ ?_; clear hK K
            refine wpAnyIn_done (by kernel_rfl) ?_ _
            exact hF _
          · go_simp
            refine hK _ _ ?_; clear hK K
            refine wpAnyIn_ready (rs := [0]) (by kernel_rfl) (by simp) (AllReadyIn.cons rfl (fun K hK => ?_) AllReadyIn.nil)
            have hc6 := HC6.out _ H5.out.1 (.cells #[.slice Au x.1.length cu] 34)
            go_simp
            refine hK _ _ ?_; clear hK K
            refine wpAnyIn_ready (rs := [4]) (by kernel_rfl) (by simp) (AllReadyIn.cons rfl (fun K hK => ?_) AllReadyIn.nil)
            refine stepIn_own rfl (.tmp 12) (.tmp 15) 31 rfl (W3.heap.size + 2) 34 i0 (.slice none 0 0) 24 Try.underlying31 hi0 hz0 hz1 hz2 rfl (.slice A m c) m xs rfl (HOW.out _ H5.out.1 _) ⟨w5.heap.size, 0, none⟩ 1 (.slice Au x.1.length cu) rfl (one_news w5 _ _) rfl (by unfold maxLen; omega) (by omega) (HSZ.out _ H5.out.1 _) ?_
            intro v7 w7 h7 hg7 hb7
            obtain ⟨g, cap, rfl⟩ := ownsRow_succ h7
            have hF := HFIN.out _ _ _ _ _ _ H5.out.1 H5.out.2 h7 hg7 hb7
            obtain ⟨k0, k1⟩ := HW7.out _ _ H5.out.1 hg7
            clear h7 hg7 hb7
            refine hK _ _ ?_; clear hK K
            refine wpAnyIn_ready (rs := [5]) (by kernel_rfl) (by simp) (AllReadyIn.cons rfl (fun K hK => ?_) AllReadyIn.nil)
            go_simp
            refine hK _ _ ?_; clear hK K
            refine wpAnyIn_done (by kernel_rfl) ?_ _
            exact hF _
  case done =>
    rintro O W ⟨⟨v, hv, hpc⟩, hle, hB⟩ hK
    rw [rws_pth] at hpc
    rw [rws_len] at hle
    obtain ⟨hc, hf⟩ := And.intro (Boxed.cell hv) (Boxed.frozen hv)
    have HK := Lib.hid (And.intro hK (And.intro hB (And.intro hpc hz3)))
    have hle2 := Lib.hid hle
    clear hK hB hG hI0 hv hpc hz3 hle
    go_wp2_with fail
    obtain ⟨hK, hB, hpc, hz3⟩ := HK.out
    refine ⟨by simp, .inl ⟨_, _, rfl, run_takeDeferred hK, ?_⟩⟩
    refine ⟨_, results_tmp rfl _ _ _, v, rfl, ?_, hB.trans (belowK_b (w := w) (Nat.le_refl _) W _ _ _ (by omega) hK rfl rfl)⟩
    have h1 := (hpc.mv (mv_put W3.heap.size O W (.deferred none))).read (base := w.heap.size) (by rw [pth_mk]; simp) (by omega)
    rw [List.take_of_length_le (by rw [pth_len]; exact hle2.out)]
    exact h1
  case stop =>
    rintro c pre W ⟨q, hq⟩ ⟨rfl, hpre, ⟨v, hv, hpc⟩, hB⟩ hK
    have hpp : (pre.map Prod.fst).take 65536 = (pth t).take 65536 := by
      rw [← rws_pth, hq, List.map_append, List.take_append_of_le_length (by simp; omega)]
    rw [hpp] at hpc
    obtain ⟨hc, hf⟩ := And.intro (Boxed.cell hv) (Boxed.frozen hv)
    have HK := Lib.hid (And.intro hK (And.intro hB (And.intro hpc hz3)))
    clear hK hB hG hI0 hv hpc hz3 hpre hpp hq
    gi_wp2
    go_wp2_with fail
    obtain ⟨hK, hB, hpc, hz3⟩ := HK.out
    refine ⟨by simp, .inl ⟨_, _, rfl, run_takeDeferred hK, ?_⟩⟩
    refine ⟨_, results_tmp rfl _ _ _, v, rfl, ?_, hB.trans (belowK_b (w := w) (Nat.le_refl _) W _ _ _ (by omega) hK rfl rfl)⟩
    exact (hpc.mv (mv_put W3.heap.size No W (.deferred none))).read (base := w.heap.size) (by rw [pth_mk]; simp) (by omega)
end Go.Proofs.Ythpaipjfkhjblaa.nn
