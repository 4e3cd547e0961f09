/- Joined texts, what is wanted of them: ValuePathsW. -/
import Derived.Deep.DeepCutAuto
import Derived.Deep.LoopGhost
import Derived.Test.YthpaipjfkhjblaaProg
import Derived.WalkKit
import Derived.Lib.Hide
import Derived.Deep.QuietTactic
import Derived.BigQuiet
import Derived.IntWalk
import Derived.Test.YthpaipjfkhjblaaJe
import Derived.Test.YthpaipjfkhjblaaJa
import Derived.Test.YthpaipjfkhjblaaJh
import Derived.Test.YthpaipjfkhjblaaJg
import Derived.Test.YthpaipjfkhjblaaJb
import Derived.Test.YthpaipjfkhjblaaJd
import Derived.Test.YthpaipjfkhjblaaJc
import Derived.Test.YthpaipjfkhjblaaJf
import Derived.Test.YthpaipjfkhjblaaJj
namespace Go.Proofs.Ythpaipjfkhjblaa.nn
open Go.RowKit

/-- the world behind the call of Paths: the value, and all that was there -/
structure Vq (w : World) (t : VT) (C : Value) (w1 W : World) : Prop where
  x : Box w t C W
  b : Below w1.heap.size w1 W
theorem Vq.on {w : World} {t : VT} {C : Value} {w1 W W' : World} (h : Vq w t C w1 W) (hB : Below W.heap.size W W') : Vq w t C w1 W' := ⟨h.x.on hB, h.b.trans (hB.mono h.b.size)⟩
theorem Vq.al {w : World} {t : VT} {C : Value} {w1 W : World} (h : Vq w t C w1 W) (o : Obj) : Vq w t C w1 (W.alloc o) := h.on ((Below.refl _ _).alloc (Nat.le_refl _) o)
theorem Vq.drew {w : World} {t : VT} {C : Value} {w1 W : World} (h : Vq w t C w1 W) : Vq w t C w1 W.drew := h.on (Below.drew (Below.refl _ _))
/-- a new block of a value: what the cells hold, and that they are free -/
theorem bk_zero {W : World} {g : Nat} (h : Bk W g 25 (vc zt (.slice none 0 0))) :
    (W.cell? ⟨g, 0, none⟩ = some (.int .i64 0) ∧ W.frozen? ⟨g, 0, none⟩ = false) ∧ (W.cell? ⟨g, 1, none⟩ = some (.bool false) ∧ W.frozen? ⟨g, 1, none⟩ = false) ∧ (W.cell? ⟨g, 2, none⟩ = some (.int .u64 0) ∧ W.frozen? ⟨g, 2, none⟩ = false) ∧
    (W.cell? ⟨g, 3, none⟩ = some (.string ⟨#[]⟩) ∧ W.frozen? ⟨g, 3, none⟩ = false) ∧ (W.cell? ⟨g, 4, none⟩ = some (.slice none 0 0) ∧ W.frozen? ⟨g, 4, none⟩ = false) :=
  ⟨⟨h.cell 0, h.frozen 0⟩, ⟨h.cell 1, h.frozen 1⟩, ⟨h.cell 2, h.frozen 2⟩, ⟨h.cell 3, h.frozen 3⟩, ⟨h.cell 4, h.frozen 4⟩⟩
theorem Vq.low {w : World} {t : VT} {C : Value} {w1 W W' : World} {B : Nat} (h : Vq w t C w1 W) (hB : Below B W W') (hw : w.heap.size < B) (hw1 : w1.heap.size ≤ B) : Vq w t C w1 W' :=
  ⟨⟨h.x.b.trans (hB.mono (Nat.le_of_lt hw)), Nat.lt_of_lt_of_le h.x.z hB.size, h.x.r.below hB hw⟩, h.b.trans (hB.mono hw1)⟩
theorem Bk.row {W : World} {g : Nat} {T : TypeId} {t : VT} {C : Value} (h : Bk W g T #[.int .i64 t.k, .bool t.g, .int .u64 (t.n : Int), .string t.s, C]) : Row W g 0 t C := ⟨h.cell 0, h.cell 1, h.cell 2, h.cell 3, h.cell 4⟩
/-- and another value, in block g -/
structure Vx (w : World) (t : VT) (C : Value) (w1 : World) (g : Nat) (x : VT) (C' : Value) (W : World) : Prop where
  q : Vq w t C w1 W
  r : Row W g 0 x C'
  z : g < W.heap.size
  l : Lst W C' x.l
theorem Vx.on {w : World} {t : VT} {C : Value} {w1 W W' : World} {g : Nat} {x : VT} {C' : Value} (h : Vx w t C w1 g x C' W) (hB : Below W.heap.size W W') : Vx w t C w1 g x C' W' := ⟨h.q.on hB, h.r.below hB h.z, Nat.lt_of_lt_of_le h.z hB.size, h.l.keep hB (Nat.le_refl _)⟩
theorem Vx.drew {w : World} {t : VT} {C : Value} {w1 W : World} {g : Nat} {x : VT} {C' : Value} (h : Vx w t C w1 g x C' W) : Vx w t C w1 g x C' W.drew := h.on (Below.drew (Below.refl _ _))
/-- new memory is free of a store into an older box -/
theorem Lsb.five {B g : Nat} {w : World} {v : Value} {l : List VT} (h : Lsb B w v l) (hg : g < B) (a b c d e : Value) :
    Lst (((((w.setCell ⟨g, 0, none⟩ a).setCell ⟨g, 1, none⟩ b).setCell ⟨g, 2, none⟩ c).setCell ⟨g, 3, none⟩ d).setCell ⟨g, 4, none⟩ e) v l :=
  (h.keep (w' := set5 w g 0 a b c d e) (Nat.le_of_eq (set5_size w g 0 a b c d e).symm) fun k hk _ => set5_other w g 0 a b c d e k (by omega)).lst
theorem Lst.al {w : World} {v : Value} {l : List VT} (h : Lst w v l) (o : Obj) : Lst (w.alloc o) v l := h.keep ((Below.refl _ _).alloc (Nat.le_refl _) o) (Nat.le_refl _)
theorem atP_smx : ∀ (zs : List Int) (t x : VT), atP t zs = some x → smx x ≤ smx t
  | [], t, x, h => by
    injection h with h
    subst h
    exact Nat.le_refl _
  | z :: r, t, x, h => by
    unfold atP at h
    split at h
    · rename_i hz
      have h1 := atP_smx r _ x h
      have h2 := smx_at hz.2
      have h3 := smx_mk t
      omega
    · cases h
theorem atP_wf : ∀ (zs : List Int) (t x : VT), wfT t → atP t zs = some x → wfT x
  | [], t, x, hw, h => by
    injection h with h
    subst h
    exact hw
  | z :: r, t, x, hw, h => by
    unfold atP at h
    split at h
    · rename_i hz
      exact atP_wf r _ x (wfL_at hz.2 ((wfT_mk t).1 hw).2.2.2) h
    · cases h
/-- the cells of the value -/
def Cs (W : World) (g : Nat) (t : VT) (C : Value) : Prop := W.cell? ⟨g, 0, none⟩ = some (.int .i64 t.k) ∧ W.cell? ⟨g, 1, none⟩ = some (.bool t.g) ∧ W.cell? ⟨g, 2, none⟩ = some (.int .u64 (t.n : Int)) ∧ W.cell? ⟨g, 3, none⟩ = some (.string t.s) ∧ W.cell? ⟨g, 4, none⟩ = some C
theorem Row.cs {W : World} {g : Nat} {t : VT} {C : Value} (h : Row W g 0 t C) : Cs W g t C := ⟨h.k, h.g, h.n, h.s, h.l⟩
set_option maxRecDepth 100000 in
set_option maxHeartbeats 4000000 in
theorem paths8_no (t : VT) (C : Value) (w : World) (hC : Lst w C t.l) (hB : blk t ≤ 1048576) (hwf : wfT t) (hk : chk t ≠ 0) :
    Calls Try.prog 5 #[vv t C] w fun r w' => r = .returned (.bool true) ∧ Below w.heap.size w w' := by
  have hcb := cnt_blk t
  have hsb := smx_blk t
  have hmx : (1048576 : Nat) ≤ maxLen := by simp [maxLen]
  have HB0 := Lib.hid (Box.new w t C 25)
  have C1 := Lib.hid (fun W (hW : Box w t C W) => vcheck_any t C W (by omega) (by omega) (hC.keep hW.b (Nat.le_refl _)) hwf)
  have CA := Lib.hid (fun W => awake8_any W)
  obtain ⟨K, hK⟩ : ∃ K, chk t = K := ⟨_, rfl⟩
  rw [hK] at C1 hk
  have hk1 : ((K : Int) == 0) = false := by rw [beq_eq_false_iff_ne]; omega
  have hk2 : ((K : Int) != 0) = true := by simp; omega
  unfold vv at C1 ⊢
  clear hK hcb hsb hmx hC hB hk
  go_enter Try.func5, Try.ntmps5
  go_wp2_with fail
  refine (C1.out _ HB0.out).mono ?_
  rintro e w1 ⟨rfl, hb1⟩
  have B1 := Lib.hid (HB0.out.on hb1)
  clear hb1
  go_wp2_with fail
  refine (CA.out _).mono ?_
  rintro e w2 ⟨rfl, hb2⟩
  have B2 := Lib.hid (B1.out.on hb2)
  clear hb2
  go_wp2_with fail
  go_ret
  exact ⟨rfl, B2.out.b⟩
set_option maxRecDepth 100000 in
set_option maxHeartbeats 16000000 in
theorem paths8_yes (t : VT) (C : Value) (w : World) (hC : Lst w C t.l) (hB : blk t ≤ 1048576) (hwf : wfT t) (hk : chk t = 0) :
    Calls Try.prog 5 #[vv t C] w fun r w' => r = .returned (.bool true) ∧ Below w.heap.size w w' := by
  have hcb := cnt_blk t
  have hsb := smx_blk t
  have hmx : (1048576 : Nat) ≤ maxLen := by simp [maxLen]
  have hch : dep t ≤ 64 ∧ cnt t ≤ 65536 ∧ rgt t = true := by
    unfold chk at hk
    split at hk
    · omega
    · split at hk
      · exact ⟨by omega, by omega, ‹_›⟩
      · omega
  obtain ⟨hd64, hcn, hrg⟩ := hch
  have hlen := pth_len t
  have hP : (pth t).take 65536 = pth t := List.take_of_length_le (by omega)
  have HB0 := Lib.hid (Box.new w t C 25)
  have HC := Lib.hid hC
  have C1 := Lib.hid (fun W (hW : Box w t C W) => vcheck_any t C W (by omega) (by omega) (hC.keep hW.b (Nat.le_refl _)) hwf)
  have C3 := Lib.hid (fun W (hW : Box w t C W) => vdepth_any t C W (by omega) (hC.keep hW.b (Nat.le_refl _)))
  have C5 := Lib.hid (fun W (hW : Box w t C W) => vcount_any t C W (by omega) (hC.keep hW.b (Nat.le_refl _)))
  have C9 := Lib.hid (fun W (hW : Box w t C W) => vPaths_any t C W (by omega) (hC.keep hW.b (Nat.le_refl _)))
  unfold PsW at C9
  rw [hP] at C9
  rw [hk] at C1
  have CA := Lib.hid (fun W => awake8_any W)
  have HSM : Hid (smx t ≤ maxLen) := Lib.hid (by omega)
  -- what stands at each path
  have HAT : Hid (∀ i (h : i < (pth t).length), ∃ x, atP t (ip (pth t)[i]) = some x ∧ chk x = 0 ∧ (pth t)[i].length + dep x ≤ dep t ∧ cnt x ≤ cnt t ∧ (pth t)[i].length ≤ 1048577) := Lib.hid fun i h => by
    have hm : (pth t)[i] ∈ pth t := List.getElem_mem h
    obtain ⟨x, h1, h2, h3, h4⟩ := at_path _ t hm hrg
    have h5 := pth_short t _ hm
    refine ⟨x, h1, ?_, h3, h4, by omega⟩
    unfold chk
    rw [if_neg (by omega), if_pos h2]
  have HCH : Hid (∀ i (h1 : i < (pth t).length) (h : i + 1 < (pth t).length), ahd (pth t)[i] (pth t)[i + 1] = true) := Lib.hid fun i _ h => chn_at (pth t) i h (chn_pth t)
  have HP0 : Hid (∀ h : 0 < (pth t).length, (pth t)[0] = []) := Lib.hid fun h => by
    have := pth_mk t
    simp [this]
  obtain ⟨P, hPP⟩ : ∃ P, pth t = P := ⟨_, rfl⟩
  rw [hPP] at C9 HAT HCH HP0 hlen
  have hn0 : 0 < P.length := by have := cnt_mk t; omega
  unfold vv at C1 C3 C5 C9 ⊢
  have HL := Lib.hid hlen
  rw [← hlen] at C5 hcn
  clear hP hPP hk hrg hcb hsb hmx hB hC hlen
  go_enter Try.func5, Try.ntmps5
  go_wp2_with fail
  refine (C1.out _ HB0.out).mono ?_
  rintro e w0 ⟨rfl, hb0⟩
  have B0 := Lib.hid (HB0.out.on hb0)
  have q0 := B0.out.r.k
  have q1 := B0.out.r.g
  have q2 := B0.out.r.n
  have q3 := B0.out.r.s
  have q4 := B0.out.r.l
  clear hb0
  go_wp2_with fail
  refine (C9.out _ B0.out).mono ?_
  rintro e w1 ⟨v, rfl, hpr, hb1⟩
  have B1 := Lib.hid (B0.out.on hb1)
  obtain ⟨b, off, c, rfl, hc, hbl, _, hrow⟩ := hpr
  have HR := Lib.hid hrow
  have V1 : Hid (Vq w t C w1 w1) := Lib.hid ⟨B1.out, Below.refl _ _⟩
  clear hb1 hrow q0 q1 q2 q3 q4 C9 B0
  -- the first region with calls
  go_upto_region 4 with fail
  go_cut [29] (fun s29 wx => s29 = .bool false ∧ Hid (Vq w t C w1 wx))
  case first =>
    obtain ⟨u0, hu0, Az0, _, _, c0, rfl, _, _⟩ := HR.out 0 hn0
    rw [HP0.out hn0] at hu0
    rw [Nat.add_zero] at hu0
    have HS : Hid (∀ W, Vq w t C w1 W → (W.cell? ⟨w.heap.size, 0, none⟩ = some (.int .i64 t.k) ∧ W.cell? ⟨w.heap.size, 1, none⟩ = some (.bool t.g) ∧ W.cell? ⟨w.heap.size, 2, none⟩ = some (.int .u64 (t.n : Int)) ∧ W.cell? ⟨w.heap.size, 3, none⟩ = some (.string t.s) ∧ W.cell? ⟨w.heap.size, 4, none⟩ = some C) ∧ W.cell? ⟨b, off, none⟩ = some (.slice Az0 0 c0) ∧ Vq w t C w1 W) := Lib.hid fun W h => ⟨h.x.r.cs, (h.b.cell (p := ⟨b, off, none⟩) hbl).trans hu0, h⟩
    have D5 : Hid (∀ W, Vq w t C w1 W → Calls Try.prog 12 #[.agg #[.int .i64 t.k, .bool t.g, .int .u64 (t.n : Int), .string t.s, C]] W fun e w' => e = .returned (.int .i64 (P.length : Int)) ∧ Vq w t C w1 w') := Lib.hid fun W h => (C5.out W h.x).mono fun e w' ⟨he, hb⟩ => ⟨he, h.on hb⟩
    obtain ⟨⟨q0, q1, q2, q3, q4⟩, q5, _⟩ := HS.out _ V1.out
    clear HR hu0 C1 C3 C5 HAT HCH
    go_wp2_with fail
    refine (D5.out _ V1.out).mono ?_
    rintro e w2 ⟨rfl, hk2⟩
    obtain ⟨⟨_, _, _, _, _⟩, q6, _⟩ := HS.out _ hk2
    have K2 := Lib.hid hk2
    have hn1 : ((P.length : Int) == 0) = false := by rw [beq_eq_false_iff_ne]; omega
    clear hk2 q0 q1 q2 q3 q4 q5
    go_wp2_with fail
    go_meet
    exact ⟨rfl, K2⟩
  case rest =>
    obtain ⟨rfl, V2⟩ := hcut
    clear V1 C5 HP0
    go_wp2_with fail
    go_loopg [4] P.length (fun k s4 wr => ∃ i : Nat, i ≤ P.length ∧ k = P.length - i ∧ s4 = .int .i64 (i : Int) ∧ Hid (Vq w t C w1 wr))
    case atStart => exact ⟨0, Nat.zero_le _, rfl, rfl, V2⟩
    case round =>
      obtain ⟨i, hi, hg, rfl, hV⟩ := hrel
      by_cases hlt : i < P.length
      · obtain ⟨u, hu, Ap, Bp, Op, cp, rfl, hcp, hcells⟩ := HR.out i hlt
        obtain ⟨x, hx1, hx2, hx3, hx4, hx5⟩ := HAT.out i hlt
        obtain ⟨p, hp⟩ : ∃ p, P[i] = p := ⟨_, rfl⟩
        have HPC : Hid (p = [] ∨ (Ap = some ⟨Bp, Op, none⟩ ∧ Bp < w1.heap.size ∧ ∀ j (h : j < p.length), w1.cell? ⟨Bp, Op + j, none⟩ = some (.int .i64 (p[j] : Int)))) := Lib.hid (by subst hp; exact hcells.imp id fun ⟨g1, g2, _, g3⟩ => ⟨g1, g2, g3⟩)
        clear hcells
        rw [hp] at hu hcp hx1 hx3 hx5
        have hip : (ip p).length = p.length := by simp [ip]
        obtain ⟨m, hmx⟩ : ∃ m, x.l.length = m := ⟨_, rfl⟩
        have D8 : Hid (∀ W, Vq w t C w1 W → Calls Try.prog 20 #[.agg #[.int .i64 t.k, .bool t.g, .int .u64 (t.n : Int), .string t.s, C], .slice Ap p.length cp] W fun e w' => ∃ (Ax : Option Addr) (cx : Nat), e = .returned (.tuple #[.agg #[.int .i64 x.k, .bool x.g, .int .u64 (x.n : Int), .string x.s, .slice Ax m cx], .int .i64 0]) ∧ Lsb W.heap.size w' (.slice Ax m cx) x.l ∧ Vq w t C w1 w' ∧ (Bk W wr.heap.size 25 (vc zt (.slice none 0 0)) → Bk w' wr.heap.size 25 (vc zt (.slice none 0 0)))) := Lib.hid fun W h => by
          have hri : Ri W Ap (ip p) := by
            rcases HPC.out with h9 | ⟨g1, g2, g3⟩
            · exact .inl (by rw [h9]; rfl)
            · refine .inr ⟨Bp, Op, g1, Nat.lt_of_lt_of_le g2 h.b.size, fun j hj => ?_⟩
              rw [hip] at hj
              have := (h.b.cell (p := ⟨Bp, Op + j, none⟩) g2).trans (g3 j hj)
              rw [this]
              simp [ip]
          have hcn2 := HL.out
          have := vat0_any w t C Ap (ip p) cp W h.x.b HC.out hri (by omega) (by omega) (by omega)
          rw [hx1, hip] at this
          refine this.mono ?_
          rintro e w' ⟨C', h1, h2, h3⟩
          obtain ⟨Ax, cx, rfl, _, _⟩ := h2.lst.out
          rw [show (atV (some x)).l.length = m from hmx] at h1 h2
          exact ⟨Ax, cx, h1, h2, h.on h3, fun hz => hz.below h3 hz.lt⟩
        have E8 : Hid (∀ W, Vq w t C w1 W → Bk W wr.heap.size 25 (vc zt (.slice none 0 0)) → Calls Try.prog 20 #[.agg #[.int .i64 t.k, .bool t.g, .int .u64 (t.n : Int), .string t.s, C], .slice Ap p.length cp] W fun e w' => ∃ (Ax : Option Addr) (cx : Nat), e = .returned (.tuple #[.agg #[.int .i64 x.k, .bool x.g, .int .u64 (x.n : Int), .string x.s, .slice Ax m cx], .int .i64 0]) ∧ Hid (∀ a b c d e, Lst (((((w'.setCell ⟨wr.heap.size, 0, none⟩ a).setCell ⟨wr.heap.size, 1, none⟩ b).setCell ⟨wr.heap.size, 2, none⟩ c).setCell ⟨wr.heap.size, 3, none⟩ d).setCell ⟨wr.heap.size, 4, none⟩ e) (.slice Ax m cx) x.l) ∧ Vq w t C w1 w' ∧ Bk w' wr.heap.size 25 (vc zt (.slice none 0 0)) ∧
            ((w'.cell? ⟨wr.heap.size, 0, none⟩ = some (.int .i64 0) ∧ w'.frozen? ⟨wr.heap.size, 0, none⟩ = false) ∧ (w'.cell? ⟨wr.heap.size, 1, none⟩ = some (.bool false) ∧ w'.frozen? ⟨wr.heap.size, 1, none⟩ = false) ∧ (w'.cell? ⟨wr.heap.size, 2, none⟩ = some (.int .u64 0) ∧ w'.frozen? ⟨wr.heap.size, 2, none⟩ = false) ∧
            (w'.cell? ⟨wr.heap.size, 3, none⟩ = some (.string ⟨#[]⟩) ∧ w'.frozen? ⟨wr.heap.size, 3, none⟩ = false) ∧ (w'.cell? ⟨wr.heap.size, 4, none⟩ = some (.slice none 0 0) ∧ w'.frozen? ⟨wr.heap.size, 4, none⟩ = false))) := Lib.hid fun W h hz => (D8.out W h).mono fun e w' ⟨Ax, cx, g1, g2, g3, g4⟩ => ⟨Ax, cx, g1, Lib.hid (g2.five hz.lt), g3, g4 hz, bk_zero (g4 hz)⟩
        have HS : Hid (∀ W, Vq w t C w1 W → (W.cell? ⟨w.heap.size, 0, none⟩ = some (.int .i64 t.k) ∧ W.cell? ⟨w.heap.size, 1, none⟩ = some (.bool t.g) ∧ W.cell? ⟨w.heap.size, 2, none⟩ = some (.int .u64 (t.n : Int)) ∧ W.cell? ⟨w.heap.size, 3, none⟩ = some (.string t.s) ∧ W.cell? ⟨w.heap.size, 4, none⟩ = some C) ∧ W.cell? ⟨b, off + i, none⟩ = some (.slice Ap p.length cp) ∧ Vq w t C w1 W) := Lib.hid fun W h => ⟨h.x.r.cs, (h.b.cell (p := ⟨b, off + i, none⟩) hbl).trans hu, h⟩
        have HX := Lib.hid (And.intro hx2 (And.intro hx3 (And.intro hx4 (And.intro (atP_smx _ _ _ hx1) (atP_wf _ _ _ hwf hx1)))))
        have HPI := Lib.hid hp
        clear hu hx1 hx2 hx3 hx4 hip hp
        go_wp2_with fail
        go_upto_region 9 with fail
        go_cut [5, 6] (fun s5 s6 wx => ∃ (g : Nat) (C' : Value), s5 = .pointer (some ⟨g, 0, none⟩) ∧ s6 = .int .i64 0 ∧ Hid (Vq w t C w1 wx ∧ Row wx g 0 x C' ∧ Lst wx C' x.l ∧ g < wx.heap.size))
        case first =>
          obtain ⟨⟨q0, q1, q2, q3, q4⟩, q5, _⟩ := HS.out _ hV.out
          have hk0 := hV.out
          obtain ⟨⟨z0, z1, z2, z3, z4⟩, z5, _⟩ := HS.out _ (hk0.al (.cells #[.int .i64 0, .bool false, .int .u64 0, .string ⟨#[]⟩, .slice none 0 0] 25))
          go_region_with (first
            | (go_at_call 20; (with_reducible refine (E8.out _ ?_ ?_).mono ?_); (first | exact hk0.al _ | exact (hk0.al _).drew | exact hk0.drew.al _); (exact heap_alloc_last _ _); rintro e w2 ⟨Ax, cx, rfl, hl3, hk3, hz3, ⟨bc0, bf0⟩, ⟨bc1, bf1⟩, ⟨bc2, bf2⟩, ⟨bc3, bf3⟩, ⟨bc4, bf4⟩⟩)
            | (go_at_call 20; (with_reducible refine (D8.out _ ?_).mono ?_); (first | exact hk0 | exact hk0.drew); rintro e w2 ⟨Ax, cx, rfl, hl2, hk2, hz2⟩))
          all_goals
            go_wp2_with fail
            go_meet
            first
              | (have h9 := hk2; clear h9; exact ⟨_, _, rfl, rfl, Lib.hid ⟨hk2.al _, (Box.new w2 x _ 25).r, hl2.lst.al _, (Box.new w2 x _ 25).z⟩⟩)
              | exact ⟨_, _, rfl, rfl, Lib.hid ⟨hk3.low (below_set5 (Below.refl _ _) (Nat.le_refl _) _ _ _ _ _) hV.out.x.z hV.out.b.size, (bk_set5 hz3 _ _ _ _ _).row, hl3.out _ _ _ _ _, (bk_set5 hz3 _ _ _ _ _).lt⟩⟩
        case rest =>
          obtain ⟨g, C', rfl, rfl, hQ⟩ := hcut
          have V3 : Hid (Vx w t C w1 g x C' wc) := Lib.hid ⟨hQ.out.1, hQ.out.2.1, hQ.out.2.2.2, hQ.out.2.2.1⟩
          clear hQ D8 E8
          have X1 : Hid (∀ W, Vx w t C w1 g x C' W → Calls Try.prog 8 #[.agg #[.int .i64 x.k, .bool x.g, .int .u64 (x.n : Int), .string x.s, C']] W fun e w' => e = .returned (.int .i64 0) ∧ Vx w t C w1 g x C' w') := Lib.hid fun W h => by
            have := vcheck_any x C' W (by have := HX.out.2.2.1; have := HL.out; omega) (Nat.le_trans HX.out.2.2.2.1 HSM.out) (h.l) HX.out.2.2.2.2
            rw [HX.out.1] at this
            exact this.mono fun e w' ⟨he, hb⟩ => ⟨he, h.on hb⟩
          have X3 : Hid (∀ W, Vx w t C w1 g x C' W → Calls Try.prog 10 #[.agg #[.int .i64 x.k, .bool x.g, .int .u64 (x.n : Int), .string x.s, C']] W fun e w' => e = .returned (.int .i64 (dep x : Int)) ∧ Vx w t C w1 g x C' w') := Lib.hid fun W h =>
            (vdepth_any x C' W (by have := HX.out.2.2.1; have := HL.out; omega) (h.l)).mono fun e w' ⟨he, hb⟩ => ⟨he, h.on hb⟩
          have T3 : Hid (∀ W, Vx w t C w1 g x C' W → Calls Try.prog 10 #[.agg #[.int .i64 t.k, .bool t.g, .int .u64 (t.n : Int), .string t.s, C]] W fun e w' => e = .returned (.int .i64 (dep t : Int)) ∧ Vx w t C w1 g x C' w') := Lib.hid fun W h =>
            (C3.out W h.q.x).mono fun e w' ⟨he, hb⟩ => ⟨he, h.on hb⟩
          have HS3 : Hid (∀ W, Vx w t C w1 g x C' W → (W.cell? ⟨w.heap.size, 0, none⟩ = some (.int .i64 t.k) ∧ W.cell? ⟨w.heap.size, 1, none⟩ = some (.bool t.g) ∧ W.cell? ⟨w.heap.size, 2, none⟩ = some (.int .u64 (t.n : Int)) ∧ W.cell? ⟨w.heap.size, 3, none⟩ = some (.string t.s) ∧ W.cell? ⟨w.heap.size, 4, none⟩ = some C) ∧
              (W.cell? ⟨g, 0, none⟩ = some (.int .i64 x.k) ∧ W.cell? ⟨g, 1, none⟩ = some (.bool x.g) ∧ W.cell? ⟨g, 2, none⟩ = some (.int .u64 (x.n : Int)) ∧ W.cell? ⟨g, 3, none⟩ = some (.string x.s) ∧ W.cell? ⟨g, 4, none⟩ = some C') ∧
              W.cell? ⟨b, off + i, none⟩ = some (.slice Ap p.length cp) ∧ Vx w t C w1 g x C' W) := Lib.hid fun W h => ⟨(HS.out W h.q).1, h.r.cs, (HS.out W h.q).2.1, h⟩
          have hdd : p.length + dep x ≤ dep t := HX.out.2.1
          obtain ⟨dx, hdx⟩ : ∃ d, dep x = d := ⟨_, rfl⟩
          obtain ⟨dt, hdt⟩ : ∃ d, dep t = d := ⟨_, rfl⟩
          rw [hdx] at hdd X3
          rw [hdt] at hdd T3
          have hd64' : dt ≤ 64 := by omega
          clear hdx hdt
          go_wp2_with fail
          go_upto_region 10 with fail
          go_cut [64] (fun s64 wx => s64 = .bool false ∧ Hid (Vq w t C w1 wx))
          case first =>
            have hk0 := V3.out.drew
            have hx0 := HS3.out _ hk0
            clear HR C1 C3 CA HAT HCH HPC
            go_region_held3 (fun W => (W.cell? ⟨w.heap.size, 0, none⟩ = some (.int .i64 t.k) ∧ W.cell? ⟨w.heap.size, 1, none⟩ = some (.bool t.g) ∧ W.cell? ⟨w.heap.size, 2, none⟩ = some (.int .u64 (t.n : Int)) ∧ W.cell? ⟨w.heap.size, 3, none⟩ = some (.string t.s) ∧ W.cell? ⟨w.heap.size, 4, none⟩ = some C) ∧
              (W.cell? ⟨g, 0, none⟩ = some (.int .i64 x.k) ∧ W.cell? ⟨g, 1, none⟩ = some (.bool x.g) ∧ W.cell? ⟨g, 2, none⟩ = some (.int .u64 (x.n : Int)) ∧ W.cell? ⟨g, 3, none⟩ = some (.string x.s) ∧ W.cell? ⟨g, 4, none⟩ = some C') ∧
              W.cell? ⟨b, off + i, none⟩ = some (.slice Ap p.length cp) ∧ Vx w t C w1 g x C' W) (first | exact HS3.out _ ‹_› | exact HS3.out _ (And.right ‹_›))
              (first
                | (go_at_call 8; (with_reducible refine (X1.out _ ?_).mono ?_); (first | assumption | exact And.right ‹_›); rintro e w' ⟨rfl, hk5⟩)
                | (go_at_call 10; (with_reducible refine (X3.out _ ?_).mono ?_); (first | assumption | exact And.right ‹_›); rintro e w' ⟨rfl, hk5⟩)
                | (go_at_call 10; (with_reducible refine (T3.out _ ?_).mono ?_); (first | assumption | exact And.right ‹_›); rintro e w' ⟨rfl, hk5⟩))
            all_goals
              go_wp2_with fail
              go_meet
              exact ⟨congrArg Value.bool (by rw [IntWalk.i64_in _ ⟨by omega, by omega⟩, decide_eq_false (by omega)]), Lib.hid hk5.q⟩
          case rest =>
            obtain ⟨rfl, V4⟩ := hcut
            clear V3 X1 X3 T3 HS3 hdd hd64'
            go_wp2_with fail
            go_upto_region 12 with fail
            go_cut [79] (fun s79 wx => s79 = .bool false ∧ Hid (Vq w t C w1 wx))
            case first =>
              by_cases h0 : 0 < i
              · obtain ⟨jj, hjj⟩ : ∃ jj, jj + 1 = i := ⟨i - 1, by omega⟩
                have hjl : jj < P.length := by omega
                have kk : IntKind.i64.wrap ((i : Int) - 1) = (jj : Int) := by rw [IntWalk.i64_in _ ⟨by omega, by omega⟩]; omega
                have kj0 : (0 : Int) ≤ (jj : Int) := by omega
                have kj1 : (jj : Int) < (P.length : Int) := by omega
                have ki0 : (0 : Int) ≤ (i : Int) := by omega
                have ki1 : (i : Int) < (P.length : Int) := by omega
                obtain ⟨u', hu', Aq, Bq, Oq, cq, rfl, hcq, hcells'⟩ := HR.out jj hjl
                have hah := HCH.out jj hjl (by omega)
                have hmq := HAT.out jj hjl
                obtain ⟨q, hq⟩ : ∃ q, P[jj] = q := ⟨_, rfl⟩
                have hpi : P[jj + 1]'(by omega) = p := by
                  have : ∀ j (h : j < P.length), j = i → P[j] = p := fun j h e => by subst e; exact HPI.out
                  exact this _ _ hjj
                rw [hq, hpi] at hah
                have HQC : Hid (q = [] ∨ (Aq = some ⟨Bq, Oq, none⟩ ∧ Bq < w1.heap.size ∧ ∀ j (h : j < q.length), w1.cell? ⟨Bq, Oq + j, none⟩ = some (.int .i64 (q[j] : Int)))) := Lib.hid (by subst hq; exact hcells'.imp id fun ⟨g1, g2, _, g3⟩ => ⟨g1, g2, g3⟩)
                clear hcells'
                rw [hq] at hu' hcq hmq
                have hq5 : q.length ≤ 1048577 := by obtain ⟨_, _, _, _, _, h⟩ := hmq; exact h
                have AH : Hid (∀ W, Vq w t C w1 W → Calls Try.prog 24 #[.slice Aq q.length cq, .slice Ap p.length cp] W fun e w' => e = .returned (.bool true) ∧ Vq w t C w1 w') := Lib.hid fun W h => by
                  have := ahead_any (.slice Aq q.length cq) (.slice Ap p.length cp) q p W ⟨Aq, Bq, Oq, cq, rfl, hcq, HQC.out.imp id fun ⟨g1, g2, g3⟩ => ⟨g1, Nat.lt_of_lt_of_le g2 h.b.size, fun j hj => (h.b.cell (p := ⟨Bq, Oq + j, none⟩) g2).trans (g3 j hj)⟩⟩
                    ⟨Ap, Bp, Op, cp, rfl, hcp, HPC.out.imp id fun ⟨g1, g2, g3⟩ => ⟨g1, Nat.lt_of_lt_of_le g2 h.b.size, fun j hj => (h.b.cell (p := ⟨Bp, Op + j, none⟩) g2).trans (g3 j hj)⟩⟩ hq5 hx5
                  rw [hah] at this
                  exact this.mono fun e w' ⟨he, n, hn⟩ => ⟨he, by rw [hn]; exact h.on (drewN_keep (Below.refl _ _) n)⟩
                have HS4 : Hid (∀ W, Vq w t C w1 W → W.cell? ⟨b, off + jj, none⟩ = some (.slice Aq q.length cq) ∧ W.cell? ⟨b, off + i, none⟩ = some (.slice Ap p.length cp) ∧ Vq w t C w1 W) := Lib.hid fun W h => ⟨(h.b.cell (p := ⟨b, off + jj, none⟩) hbl).trans hu', (HS.out W h).2.1, h⟩
                have hk0 := V4.out.drew
                have hx0 := HS4.out _ hk0
                clear hmq hu' hah hpi hq hjj HS HR C1 C3 CA HAT HCH HPC
                go_region_held3 (fun W => W.cell? ⟨b, off + jj, none⟩ = some (.slice Aq q.length cq) ∧ W.cell? ⟨b, off + i, none⟩ = some (.slice Ap p.length cp) ∧ Vq w t C w1 W) (first | exact HS4.out _ ‹_› | exact HS4.out _ (And.right ‹_›))
                  (first
                    | (go_at_call 24; (with_reducible refine (AH.out _ ?_).mono ?_); (first | assumption | exact And.right ‹_›); rintro e w' ⟨rfl, hk5⟩))
                all_goals
                  go_wp2_with fail
                  go_meet
                  exact ⟨rfl, Lib.hid hk5⟩
              · obtain rfl : i = 0 := by omega
                go_wp2_with fail
                go_quiet (fail)
                go_wp2_with fail
                go_meet
                exact ⟨rfl, Lib.hid (V4.out.on (drewN_keep (Below.refl _ _) _))⟩
            case rest =>
              obtain ⟨rfl, V5⟩ := hcut
              go_wp2_with fail
              go_roundg (P.length - (i + 1))
              case measure => omega
              case rel => exact ⟨i + 1, hlt, rfl, by go_num, V5⟩
      · obtain rfl : i = P.length := by omega
        go_wp2_with fail
        refine (CA.out _).mono ?_
        rintro e w2 ⟨rfl, hb2⟩
        have V6 := Lib.hid (hV.out.on hb2)
        clear hb2
        go_wp2_with fail
        go_ret
        exact ⟨rfl, V6.out.x.b⟩
theorem paths8_any (t : VT) (C : Value) (w : World) (hC : Lst w C t.l) (hB : blk t ≤ 1048576) (hwf : wfT t) :
    Calls Try.prog 5 #[vv t C] w fun r w' => r = .returned (.bool true) ∧ Below w.heap.size w w' := by
  by_cases h : chk t = 0
  · exact paths8_yes t C w hC hB hwf h
  · exact paths8_no t C w hC hB hwf h
end Go.Proofs.Ythpaipjfkhjblaa.nn
