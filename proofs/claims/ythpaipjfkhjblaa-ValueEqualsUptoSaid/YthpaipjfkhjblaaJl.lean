/- Joined texts, what is wanted of them: ValueEqualsW. -/
import Derived.Test.YthpaipjfkhjblaaProg
import Derived.WalkKit
import Derived.Lib.Hide
import Derived.Deep.QuietTactic
import Derived.BigQuiet
import Derived.IntWalk
import Derived.Test.YthpaipjfkhjblaaJe
import Derived.Test.YthpaipjfkhjblaaJa
import Derived.Test.YthpaipjfkhjblaaJh
import Derived.Test.YthpaipjfkhjblaaJg
import Derived.Test.YthpaipjfkhjblaaJb
import Derived.Test.YthpaipjfkhjblaaJd
import Derived.Test.YthpaipjfkhjblaaJc
namespace Go.Proofs.Ythpaipjfkhjblaa.nn
open Go.RowKit

/-- a world behind: what was there is there; two values that were handed over and two that were found stand in blocks of their own -/
structure Fr4 (w : World) (a : VT) (Ca : Value) (b : VT) (Cb : Value) (gx : Nat) (x : VT) (Cx : Value) (gy : Nat) (Cy : Value) (W : World) : Prop where
  bb : Below w.heap.size w W
  z : w.heap.size + 1 < W.heap.size ∧ gx < W.heap.size ∧ gy < W.heap.size
  r1 : Row W w.heap.size 0 a Ca
  r2 : Row W (w.heap.size + 1) 0 b Cb
  r3 : Row W gx 0 x Cx
  r4 : Row W gy 0 x Cy
  lx : Lst W Cx x.l
  ly : Lst W Cy x.l
theorem Fr4.on {w W W' : World} {a b x : VT} {Ca Cb Cx Cy : Value} {gx gy : Nat} (h : Fr4 w a Ca b Cb gx x Cx gy Cy W) (hB : Below W.heap.size W W') : Fr4 w a Ca b Cb gx x Cx gy Cy W' :=
  ⟨h.bb.trans (hB.mono (by have := h.z.1; omega)), ⟨Nat.lt_of_lt_of_le h.z.1 hB.size, Nat.lt_of_lt_of_le h.z.2.1 hB.size, Nat.lt_of_lt_of_le h.z.2.2 hB.size⟩, h.r1.below hB (by have := h.z.1; omega), h.r2.below hB h.z.1, h.r3.below hB h.z.2.1, h.r4.below hB h.z.2.2, h.lx.keep hB (Nat.le_refl _), h.ly.keep hB (Nat.le_refl _)⟩
theorem Fr4.drew {w W : World} {a b x : VT} {Ca Cb Cx Cy : Value} {gx gy : Nat} (h : Fr4 w a Ca b Cb gx x Cx gy Cy W) : Fr4 w a Ca b Cb gx x Cx gy Cy W.drew := h.on (Below.drew (Below.refl _ _))
theorem atP_cnt (zs : List Int) : ∀ t : VT, cnt (atV (atP t zs)) ≤ cnt t := by
  induction zs with
  | nil => intro t; exact Nat.le_refl _
  | cons z r ih =>
    intro t
    unfold atP
    split
    · rename_i h
      have h1 := ih (t.l[z.toNat]'h.2)
      have h2 := cnt_at h.2
      have h3 := cnt_mk t
      omega
    · have h3 := cnt_mk t
      show cnt zt ≤ _
      rw [show cnt zt = 1 from rfl]
      omega
theorem row_new (W : World) (t : VT) (C : Value) : Row (W.alloc (.cells #[.int .i64 t.k, .bool t.g, .int .u64 (t.n : Int), .string t.s, C] 25)) W.heap.size 0 t C := ⟨by simp, by simp, by simp, by simp, by simp⟩
set_option maxRecDepth 100000 in
set_option maxHeartbeats 4000000 in
theorem equals8_any (a : VT) (Ca : Value) (b : VT) (Cb : Value) (A : Option Addr) (zs : List Int) (c : Nat) (w : World) (hCa : Lst w Ca a.l) (hBa : blk a ≤ 1048576) (_ : wfT a) (hCb : Lst w Cb b.l) (hBb : blk b ≤ 1048576) (_ : wfT b) (hA : Ri w A zs) (hn : zs.length ≤ 1048576) (hcc : zs.length ≤ c) :
    Calls Try.prog 4 #[vv a Ca, vv b Cb, .slice A zs.length c] w fun r w' => r = .returned (.bool true) ∧ Below w.heap.size w w' := by
  have ha := cnt_blk a
  have hb := cnt_blk b
  have HB0 := Lib.hid (Box2.new w a Ca b Cb 25)
  have HV : Hid (∀ W, Box2 w a Ca b Cb W → Calls Try.prog 20 #[vv a Ca, .slice A zs.length c] W (AtAns2 (atP a zs) W)) := Lib.hid fun W hW =>
    vat_any a Ca A zs c W (hCa.keep hW.b (Nat.le_refl _)) (hA.keep hW.b (Nat.le_refl _)) (by omega) hcc (by omega)
  have HR : Hid (∀ W, Below w.heap.size w W → Calls Try.prog 21 #[vv a Ca, .slice A zs.length c] W (AtAns w (atP a zs) W)) := Lib.hid fun W hW =>
    rat_any w a Ca A zs c W hW hCa (hA.keep hW (Nat.le_refl _)) (by omega) hcc (by omega)
  have hxc := atP_cnt zs a
  obtain ⟨R, hR⟩ : ∃ R, atP a zs = R := ⟨_, rfl⟩
  rw [hR] at HV HR hxc
  have HE1 : Hid (∀ W, Below w.heap.size w W → Calls Try.prog 22 #[vv a Ca, vv b Cb] W fun e w' => e = .returned (.bool (eqv a b)) ∧ Below W.heap.size W w') := Lib.hid fun W hW =>
    vequal_any a b Ca Cb W (by omega) (by omega) (hCa.keep hW (Nat.le_refl _)) (hCb.keep hW (Nat.le_refl _))
  have HE2 : Hid (∀ W, Below w.heap.size w W → Calls Try.prog 23 #[vv a Ca, vv b Cb] W fun e w' => e = .returned (.bool (eqv a b)) ∧ Below W.heap.size W w') := Lib.hid fun W hW =>
    same_any _ a b Ca Cb W (Nat.le_refl _) (by omega) (by omega) (hCa.keep hW (Nat.le_refl _)) (hCb.keep hW (Nat.le_refl _))
  have HE3 : Hid (∀ W, Below w.heap.size w W → Calls Try.prog 22 #[vv a Ca, vv a Ca] W fun e w' => e = .returned (.bool true) ∧ Below W.heap.size W w') := Lib.hid fun W hW => by
    have h := vequal_any a a Ca Ca W (by omega) (by omega) (hCa.keep hW (Nat.le_refl _)) (hCa.keep hW (Nat.le_refl _))
    rwa [(eqv_iff a a).2 rfl] at h
  obtain ⟨x, hx⟩ : ∃ x, atV R = x := ⟨_, rfl⟩
  rw [hx] at hxc
  have HE4 : Hid (∀ (W : World) (C D : Value), Lst W C x.l → Lst W D x.l → Calls Try.prog 23 #[vv x C, vv x D] W fun e w' => e = .returned (.bool true) ∧ Below W.heap.size W w') := Lib.hid fun W C D hC hD => by
    have h := same_any _ x x C D W (Nat.le_refl _) (by omega) (by omega) hC hD
    rwa [(eqv_iff x x).2 rfl] at h
  have HX := Lib.hid hx
  obtain ⟨E, hE⟩ : ∃ E, eqv a b = E := ⟨_, rfl⟩
  rw [hE] at HE1 HE2
  obtain ⟨n, hnn⟩ : ∃ n, atE R = n := ⟨_, rfl⟩
  have HN := Lib.hid hnn
  have hn1 : n ≤ 1 := by
    rw [← hnn]
    cases R <;> simp [atE]
  have HC1 := Lib.hid hCa
  clear hR hE hx hnn hxc
  unfold vv at HV HR HE1 HE2 HE3 HE4 ⊢
  go_enter Try.func4, Try.ntmps4
  go_wp2_with fail
  refine (HV.out _ HB0.out).mono ?_
  rintro e w2 ⟨Cx, rfl, hLx, hb2⟩
  rw [HX.out, HN.out]
  rw [HX.out] at hLx
  obtain ⟨Ax, cx, rfl, _, _⟩ := hLx.out
  unfold vv
  have A2 := Lib.hid ((Below.refl w2.heap.size w2).alloc (Nat.le_refl _) (.cells #[.int .i64 x.k, .bool x.g, .int .u64 (x.n : Int), .string x.s, .slice Ax x.l.length cx] 25))
  have B2 := Lib.hid ((HB0.out.on hb2).on A2.out)
  have RX := Lib.hid (row_new w2 x (.slice Ax x.l.length cx))
  have LX := Lib.hid (hLx.keep A2.out (Nat.le_refl _))
  have ZX : w2.heap.size < (w2.alloc (.cells #[.int .i64 x.k, .bool x.g, .int .u64 (x.n : Int), .string x.s, .slice Ax x.l.length cx] 25)).heap.size := by simp
  have r0 := B2.out.r.k
  have r1 := B2.out.r.g
  have r2 := B2.out.r.n
  have r3 := B2.out.r.s
  have r4 := B2.out.r.l
  clear hb2 hLx
  go_wp2_with fail
  clear r0 r1 r2 r3 r4
  refine (HR.out _ B2.out.b).mono ?_
  rintro e w4 ⟨Cy, rfl, hLy, hb4⟩
  rw [HX.out, HN.out]
  rw [HX.out] at hLy
  obtain ⟨Ay, cy, rfl, _, _⟩ := hLy.out
  unfold vv
  obtain ⟨gx, hgx⟩ : ∃ g, w2.heap.size = g := ⟨_, rfl⟩
  rw [hgx] at ZX RX ⊢
  have A4 := Lib.hid ((Below.refl w4.heap.size w4).alloc (Nat.le_refl _) (.cells #[.int .i64 x.k, .bool x.g, .int .u64 (x.n : Int), .string x.s, .slice Ay x.l.length cy] 25))
  have hF4 : Fr4 w a Ca b Cb gx x (.slice Ax x.l.length cx) w4.heap.size (.slice Ay x.l.length cy) (w4.alloc (.cells #[.int .i64 x.k, .bool x.g, .int .u64 (x.n : Int), .string x.s, .slice Ay x.l.length cy] 25)) := by
    have F := (B2.out.on hb4).on A4.out
    have hz4 : w4.heap.size < (w4.alloc (.cells #[.int .i64 x.k, .bool x.g, .int .u64 (x.n : Int), .string x.s, .slice Ay x.l.length cy] 25)).heap.size := by simp
    exact ⟨F.b, ⟨F.z, Nat.lt_of_lt_of_le (Nat.lt_of_lt_of_le ZX hb4.size) (Nat.le_of_lt hz4), hz4⟩, F.r, F.r2, (RX.out.below hb4 ZX).below A4.out (Nat.lt_of_lt_of_le ZX hb4.size), row_new w4 x _, (LX.out.keep hb4 (Nat.le_refl _)).keep A4.out (Nat.le_refl _), hLy.keep F.b (Nat.le_refl _)⟩
  have HF4 := Lib.hid hF4
  obtain ⟨gy, hgy⟩ : ∃ g, w4.heap.size = g := ⟨_, rfl⟩
  rw [hgy] at HF4
  have HS : Hid (∀ W, Fr4 w a Ca b Cb gx x (.slice Ax x.l.length cx) gy (.slice Ay x.l.length cy) W → W.cell? ⟨w.heap.size, 0, none⟩ = some (.int .i64 a.k) ∧ W.cell? ⟨w.heap.size, 1, none⟩ = some (.bool a.g) ∧ W.cell? ⟨w.heap.size, 2, none⟩ = some (.int .u64 (a.n : Int)) ∧ W.cell? ⟨w.heap.size, 3, none⟩ = some (.string a.s) ∧ W.cell? ⟨w.heap.size, 4, none⟩ = some Ca ∧ W.cell? ⟨w.heap.size + 1, 0, none⟩ = some (.int .i64 b.k) ∧ W.cell? ⟨w.heap.size + 1, 1, none⟩ = some (.bool b.g) ∧ W.cell? ⟨w.heap.size + 1, 2, none⟩ = some (.int .u64 (b.n : Int)) ∧ W.cell? ⟨w.heap.size + 1, 3, none⟩ = some (.string b.s) ∧ W.cell? ⟨w.heap.size + 1, 4, none⟩ = some Cb ∧ W.cell? ⟨gx, 0, none⟩ = some (.int .i64 x.k) ∧ W.cell? ⟨gx, 1, none⟩ = some (.bool x.g) ∧ W.cell? ⟨gx, 2, none⟩ = some (.int .u64 (x.n : Int)) ∧ W.cell? ⟨gx, 3, none⟩ = some (.string x.s) ∧ W.cell? ⟨gx, 4, none⟩ = some (.slice Ax x.l.length cx) ∧ W.cell? ⟨gy, 0, none⟩ = some (.int .i64 x.k) ∧ W.cell? ⟨gy, 1, none⟩ = some (.bool x.g) ∧ W.cell? ⟨gy, 2, none⟩ = some (.int .u64 (x.n : Int)) ∧ W.cell? ⟨gy, 3, none⟩ = some (.string x.s) ∧ W.cell? ⟨gy, 4, none⟩ = some (.slice Ay x.l.length cy) ∧ Fr4 w a Ca b Cb gx x (.slice Ax x.l.length cx) gy (.slice Ay x.l.length cy) W) := Lib.hid fun W h => ⟨h.r1.k, h.r1.g, h.r1.n, h.r1.s, h.r1.l, h.r2.k, h.r2.g, h.r2.n, h.r2.s, h.r2.l, h.r3.k, h.r3.g, h.r3.n, h.r3.s, h.r3.l, h.r4.k, h.r4.g, h.r4.n, h.r4.s, h.r4.l, h⟩
  have C1 : Hid (∀ W, Fr4 w a Ca b Cb gx x (.slice Ax x.l.length cx) gy (.slice Ay x.l.length cy) W → Calls Try.prog 22 #[.agg #[.int .i64 a.k, .bool a.g, .int .u64 (a.n : Int), .string a.s, Ca], .agg #[.int .i64 b.k, .bool b.g, .int .u64 (b.n : Int), .string b.s, Cb]] W fun e w' => e = .returned (.bool E) ∧ Fr4 w a Ca b Cb gx x (.slice Ax x.l.length cx) gy (.slice Ay x.l.length cy) w') := Lib.hid fun W h => (HE1.out W h.bb).mono fun e w' ⟨he, hb⟩ => ⟨he, h.on hb⟩
  have C2 : Hid (∀ W, Fr4 w a Ca b Cb gx x (.slice Ax x.l.length cx) gy (.slice Ay x.l.length cy) W → Calls Try.prog 23 #[.agg #[.int .i64 a.k, .bool a.g, .int .u64 (a.n : Int), .string a.s, Ca], .agg #[.int .i64 b.k, .bool b.g, .int .u64 (b.n : Int), .string b.s, Cb]] W fun e w' => e = .returned (.bool E) ∧ Fr4 w a Ca b Cb gx x (.slice Ax x.l.length cx) gy (.slice Ay x.l.length cy) w') := Lib.hid fun W h => (HE2.out W h.bb).mono fun e w' ⟨he, hb⟩ => ⟨he, h.on hb⟩
  have C3 : Hid (∀ W, Fr4 w a Ca b Cb gx x (.slice Ax x.l.length cx) gy (.slice Ay x.l.length cy) W → Calls Try.prog 22 #[.agg #[.int .i64 a.k, .bool a.g, .int .u64 (a.n : Int), .string a.s, Ca], .agg #[.int .i64 a.k, .bool a.g, .int .u64 (a.n : Int), .string a.s, Ca]] W fun e w' => e = .returned (.bool true) ∧ Fr4 w a Ca b Cb gx x (.slice Ax x.l.length cx) gy (.slice Ay x.l.length cy) w') := Lib.hid fun W h => (HE3.out W h.bb).mono fun e w' ⟨he, hb⟩ => ⟨he, h.on hb⟩
  have C4 : Hid (∀ W, Fr4 w a Ca b Cb gx x (.slice Ax x.l.length cx) gy (.slice Ay x.l.length cy) W → Calls Try.prog 23 #[.agg #[.int .i64 x.k, .bool x.g, .int .u64 (x.n : Int), .string x.s, .slice Ax x.l.length cx], .agg #[.int .i64 x.k, .bool x.g, .int .u64 (x.n : Int), .string x.s, .slice Ay x.l.length cy]] W fun e w' => e = .returned (.bool true) ∧ Fr4 w a Ca b Cb gx x (.slice Ax x.l.length cx) gy (.slice Ay x.l.length cy) w') := Lib.hid fun W h => (HE4.out W _ _ h.lx h.ly).mono fun e w' ⟨he, hb⟩ => ⟨he, h.on hb⟩
  have C5 : Hid (∀ W, Fr4 w a Ca b Cb gx x (.slice Ax x.l.length cx) gy (.slice Ay x.l.length cy) W → Calls Try.prog 19 #[] W fun e w' => e = .returned (.bool true) ∧ Fr4 w a Ca b Cb gx x (.slice Ax x.l.length cx) gy (.slice Ay x.l.length cy) w') := Lib.hid fun W h => (awake8_any W).mono fun e w' ⟨he, hb⟩ => ⟨he, h.on hb⟩
  clear hb4 hLy hF4 hgx
  clear HE1 HE2 HE3 HE4 HV HR HC1 LX RX A2 A4 B2 HB0
  cases E
  all_goals
    go_wp2_with fail
    have hk0 := HF4.out.drew
    have hx0 := HS.out _ hk0
    go_region_held3 (fun W => W.cell? ⟨w.heap.size, 0, none⟩ = some (.int .i64 a.k) ∧ W.cell? ⟨w.heap.size, 1, none⟩ = some (.bool a.g) ∧ W.cell? ⟨w.heap.size, 2, none⟩ = some (.int .u64 (a.n : Int)) ∧ W.cell? ⟨w.heap.size, 3, none⟩ = some (.string a.s) ∧ W.cell? ⟨w.heap.size, 4, none⟩ = some Ca ∧ W.cell? ⟨w.heap.size + 1, 0, none⟩ = some (.int .i64 b.k) ∧ W.cell? ⟨w.heap.size + 1, 1, none⟩ = some (.bool b.g) ∧ W.cell? ⟨w.heap.size + 1, 2, none⟩ = some (.int .u64 (b.n : Int)) ∧ W.cell? ⟨w.heap.size + 1, 3, none⟩ = some (.string b.s) ∧ W.cell? ⟨w.heap.size + 1, 4, none⟩ = some Cb ∧ W.cell? ⟨gx, 0, none⟩ = some (.int .i64 x.k) ∧ W.cell? ⟨gx, 1, none⟩ = some (.bool x.g) ∧ W.cell? ⟨gx, 2, none⟩ = some (.int .u64 (x.n : Int)) ∧ W.cell? ⟨gx, 3, none⟩ = some (.string x.s) ∧ W.cell? ⟨gx, 4, none⟩ = some (.slice Ax x.l.length cx) ∧ W.cell? ⟨gy, 0, none⟩ = some (.int .i64 x.k) ∧ W.cell? ⟨gy, 1, none⟩ = some (.bool x.g) ∧ W.cell? ⟨gy, 2, none⟩ = some (.int .u64 (x.n : Int)) ∧ W.cell? ⟨gy, 3, none⟩ = some (.string x.s) ∧ W.cell? ⟨gy, 4, none⟩ = some (.slice Ay x.l.length cy) ∧ Fr4 w a Ca b Cb gx x (.slice Ax x.l.length cx) gy (.slice Ay x.l.length cy) W) (first | exact HS.out _ ‹_› | exact HS.out _ (And.right ‹_›))
      (first
        | (go_at_call 22; (with_reducible refine (C1.out _ ?_).mono ?_); (first | assumption | exact And.right ‹_›); rintro e w' ⟨rfl, hk5⟩)
        | (go_at_call 23; (with_reducible refine (C2.out _ ?_).mono ?_); (first | assumption | exact And.right ‹_›); rintro e w' ⟨rfl, hk5⟩)
        | (go_at_call 22; (with_reducible refine (C3.out _ ?_).mono ?_); (first | assumption | exact And.right ‹_›); rintro e w' ⟨rfl, hk5⟩)
        | (go_at_call 23; (with_reducible refine (C4.out _ ?_).mono ?_); (first | assumption | exact And.right ‹_›); rintro e w' ⟨rfl, hk5⟩)
        | (go_at_call 19; (with_reducible refine (C5.out _ ?_).mono ?_); (first | assumption | exact And.right ‹_›); rintro e w' ⟨rfl, hk5⟩))
    go_wp2_with fail
    go_ret
    exact ⟨rfl, hk5.bb⟩
end Go.Proofs.Ythpaipjfkhjblaa.nn
