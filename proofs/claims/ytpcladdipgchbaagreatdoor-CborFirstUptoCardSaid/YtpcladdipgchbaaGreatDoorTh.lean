/- Joined texts, what is wanted of them: ByCuts, CborFirstW. -/
import Derived.Deep.RegionHeld3
import Derived.Laws.AppendOwn
import Derived.Maps.AppendAt
import Derived.Deep.WholeRow
import Derived.Test.YtpcladdipgchbaaGreatDoorProg
import Derived.WalkKit
import Derived.Lib.Hide
import Derived.WalkSpells
import Derived.Deep.QuietTactic
import Derived.BigQuiet
import Derived.Laws.BitsAllLaws
import Derived.Test.YtpcladdipgchbaaGreatDoorShelf
import Derived.Deep.RegionWith
import Derived.IntWalk
import Derived.Deep.CutBlock
import Derived.StillTailTactics
import Derived.Test.YtpcladdipgchbaaGreatDoorSi
import Derived.Test.YtpcladdipgchbaaGreatDoorSe
import Derived.Test.YtpcladdipgchbaaGreatDoorSb
import Derived.Test.YtpcladdipgchbaaGreatDoorSd
import Derived.Test.YtpcladdipgchbaaGreatDoorSa
import Derived.Test.YtpcladdipgchbaaGreatDoorSo
import Derived.Test.YtpcladdipgchbaaGreatDoorTl
import Derived.Test.YtpcladdipgchbaaGreatDoorSf
import Derived.Test.YtpcladdipgchbaaGreatDoorSc
import Derived.Test.YtpcladdipgchbaaGreatDoorSl
import Derived.Test.YtpcladdipgchbaaGreatDoorTk
import Derived.Test.YtpcladdipgchbaaGreatDoorSx
import Derived.Test.YtpcladdipgchbaaGreatDoorTb
import Derived.Test.YtpcladdipgchbaaGreatDoorSv
import Derived.Test.YtpcladdipgchbaaGreatDoorSg
import Derived.Test.YtpcladdipgchbaaGreatDoorSy
import Derived.Test.YtpcladdipgchbaaGreatDoorTc
import Derived.Test.YtpcladdipgchbaaGreatDoorSn
import Derived.Test.YtpcladdipgchbaaGreatDoorTa
import Derived.Test.YtpcladdipgchbaaGreatDoorSj
import Derived.Test.YtpcladdipgchbaaGreatDoorSz
import Derived.Test.YtpcladdipgchbaaGreatDoorSw
import Derived.Test.YtpcladdipgchbaaGreatDoorSm
import Derived.Test.YtpcladdipgchbaaGreatDoorSt
import Derived.Test.YtpcladdipgchbaaGreatDoorSh
import Derived.Test.YtpcladdipgchbaaGreatDoorSs
import Derived.Test.YtpcladdipgchbaaGreatDoorSp
import Derived.Test.YtpcladdipgchbaaGreatDoorSr
import Derived.Test.YtpcladdipgchbaaGreatDoorSq
import Derived.Test.YtpcladdipgchbaaGreatDoorSu
namespace Go.Proofs.YtpcladdipgchbaaGreatDoor.nn
open Go.RowKit

/-- a row of one's own that holds bytes -/
def Vy (B : Nat) (w : World) (v : Value) (L : List UInt8) : Prop := w.ownsRow B 5 1 v L.length (Lib.byteCells L)
/-- a block that is not what v writes to -/
structure Zy (T : TypeId) (bx : Array Value) (W : World) (v : Value) (N : Nat) : Prop where
  b : Bk W N T bx
  n : v.ownBlock ≠ some N
section
variable {T : TypeId} {bx : Array Value} {X W W' : World} {v v' : Value} {o o' : Obj} {N B M : Nat} {L : List UInt8}
theorem Zy.new (h : v.ownBlock ≠ some X.heap.size) : Zy T bx (X.alloc (.cells bx T)) v X.heap.size := ⟨heap_alloc_last _ _, h⟩
theorem Zy.al (h : Zy T bx W v N) (o : Obj) : Zy T bx (W.alloc o) v N := ⟨h.b.al o, h.n⟩
theorem Zy.drew (h : Zy T bx W v N) : Zy T bx W.drew v N := ⟨h.b, h.n⟩
theorem Zy.grown (hg : W.grownBy W' v.ownBlock) (ho : v'.ownBlock = v.ownBlock ∨ v'.ownBlock = some W.heap.size) (h : Zy T bx W v N) : Zy T bx W' v' N :=
  ⟨h.b.grown hg (fun e => h.n e.symm), by
    have := h.b.lt
    rcases ho with ho | ho
    · rw [ho]; exact h.n
    · rw [ho]; intro e; injection e with e; omega⟩
theorem Zy.at_ (hN : N = X.heap.size) (h : v.ownBlock ≠ some N) : Zy T bx (X.alloc (.cells bx T)) v N := by
  subst hN
  exact .new h
theorem Zy.a2 (h : v.ownBlock ≠ some (X.heap.size + 1)) : Zy T bx ((X.alloc o).alloc (.cells bx T)) v (X.heap.size + 1) := .at_ (by simp) h
theorem Zy.a3 (h : v.ownBlock ≠ some (X.heap.size + 1 + 1)) : Zy T bx (((X.alloc o).alloc o').alloc (.cells bx T)) v (X.heap.size + 1 + 1) := .at_ (by simp) h
theorem Vy.al (h : Vy B W v L) (o : Obj) : Vy B (W.alloc o) v L := own_below h ((Below.refl _ _).alloc (Nat.le_refl _) o)
theorem Vy.drew (h : Vy B W v L) : Vy B W.drew v L := h
theorem Vy.at_ (hM : M = X.heap.size) (h : B ≤ M) : Vy B (X.alloc (.cells #[] 5)) (.slice (some ⟨M, 0, none⟩) 0 0) [] := by
  subst hM
  exact World.ownsRow_lit X #[] 0 h (by simp [maxLen]) rfl
theorem Vy.a1 (h : B ≤ X.heap.size) : Vy B (X.alloc (.cells #[] 5)) (.slice (some ⟨X.heap.size, 0, none⟩) 0 0) [] := .at_ rfl h
theorem Vy.a2 (h : B ≤ X.heap.size) : Vy B ((X.alloc o).alloc (.cells #[] 5)) (.slice (some ⟨X.heap.size + 1, 0, none⟩) 0 0) [] := .at_ (by simp) (by omega)
theorem Vy.a3 (h : B ≤ X.heap.size) : Vy B (((X.alloc o).alloc o').alloc (.cells #[] 5)) (.slice (some ⟨X.heap.size + 1 + 1, 0, none⟩) 0 0) [] := .at_ (by simp) (by omega)
theorem Vy.ne2 (h : Vy B W v L) (hN : W.heap.size ≤ N) : v.ownBlock ≠ some N := fun e => by
  have h2 : W.ownsRow B 5 1 v L.length (Lib.byteCells L) := h
  have := h2.lt _ e
  omega
/-- a block of one byte is read -/
theorem rdy_one {c : Nat} (hc : c < 256) (h : Bk W N 5 #[.int .u8 (c : Int)]) : Rd W .u8 (some ⟨N, 0, none⟩) 1 (gL [UInt8.ofNat c]) := fun _ => ⟨N, 0, rfl, h.lt, fun i hi => by
  obtain rfl : i = 0 := by omega
  rw [Nat.zero_add, h.cell 0]
  show some (Value.int .u8 (c : Int)) = some (.int .u8 (((UInt8.ofNat c).toNat : Nat) : Int))
  rw [UInt8.toNat_ofNat', Nat.mod_eq_of_lt hc]⟩
theorem Bky.a2 : Bk ((X.alloc o).alloc (.cells bx T)) (X.heap.size + 1) T bx := by
  have e : (X.alloc o).heap.size = X.heap.size + 1 := by simp
  rw [← e]
  exact Bk.new _ _ _
theorem bky_al (hb : Below (X.alloc (.cells bx T)).heap.size (X.alloc (.cells bx T)) W') : Bk W' X.heap.size T bx := (Bk.new X bx T).below hb (by simp)
theorem bky_ald (hb : Below (X.alloc (.cells bx T)).drew.heap.size (X.alloc (.cells bx T)).drew W') : Bk W' X.heap.size T bx := (show Bk (X.alloc (.cells bx T)).drew X.heap.size T bx from Bk.new X bx T).below hb (by show X.heap.size < (X.alloc (.cells bx T)).heap.size; simp)
theorem lity_ne {M N c : Nat} (h : M ≠ N) : (Value.slice (some ⟨M, 0, none⟩) 0 c).ownBlock ≠ some N := by simp [Value.ownBlock]; exact h
end
set_option maxRecDepth 100000 in
theorem run_byt (B : Nat) (v : Value) (L M : List UInt8) (w : World) (ty : TypeId) (hv : Vy B w v L) (A : Option Addr) (m c : Nat) (hm : m = M.length) (hsrc : Rd w .u8 A m (gL M)) (hB : B ≤ w.heap.size) (hn : L.length + M.length ≤ 1099511627776) :
    ∃ v' w', (Builtin.append_ #[28, 28] ty #[v, .slice A m c]).run Tryz.prog w = .ok v' w' ∧ Vy B w' v' (L ++ M) ∧ w.grownBy w' v.ownBlock ∧ (v'.ownBlock = v.ownBlock ∨ v'.ownBlock = some w.heap.size) := by
  subst hm
  obtain ⟨i0, hi, hz0, hz1, hz2⟩ := info_parts infoW8
  have hv2 : w.ownsRow B 5 1 v L.length (Lib.byteCells L) := hv
  rcases A with _ | ad
  · have h0 : M = [] := by
      rcases M with _ | ⟨x, M⟩
      · rfl
      · obtain ⟨b, off, e, _⟩ := hsrc (by simp)
        cases e
    subst h0
    refine ⟨v, w, ?_, by rw [List.append_nil]; exact hv, World.grownBy.refl _ _, .inl rfl⟩
    rcases hv2.2 with ⟨rfl, e0⟩ | ⟨g, cap, cur, rfl, _, _, hnc, _⟩
    · rw [List.length_eq_zero_iff] at e0
      subst e0
      simp [Builtin.append_, run_underlying Tryz.underlying28, sizeOf, typeInfo, hi, Builtin.lenOf, Builtin.firstCells]
    · simp [Builtin.append_, run_underlying Tryz.underlying28, sizeOf, typeInfo, hi, Builtin.lenOf, Builtin.firstCells, hnc, storeCells]
  · have hcells : ∀ j u, (vl .u8 (gL M) M.length)[j]? = some u → w.cell? (ad.add j) = some u := by
      intro j u hu
      have hj : j < M.length := by
        have := (List.getElem?_eq_some_iff.1 hu).1
        rwa [vl_length] at this
      obtain ⟨b, off, e1, _, hc⟩ := hsrc (by omega)
      injection e1 with e1
      subst e1
      rw [vl_at .u8 (gL M) hj] at hu
      injection hu with hu
      subst hu
      have hadd : (⟨b, off, none⟩ : Addr).add j = ⟨b, off + j, none⟩ := by unfold Addr.add; split <;> simp_all
      rw [hadd]
      exact hc j hj
    obtain ⟨v', w', hr, h1, h2, _, h3⟩ := run_append_own_at (P := Tryz.prog) w B 28 ty 5 i0 (.int .u8 0) 1 1 Tryz.underlying28 hi hz0 hz1 hz2 rfl (by omega) v L.length _ hv2 ad M.length c (vl .u8 (gL M) M.length) (by rw [vl_length, Nat.mul_one]) hcells (vl_one .u8 (gL M) M.length) (by unfold maxLen; omega) (by omega) hB
    rw [← bc_vl, ← Lib.byteCells_append] at h1
    exact ⟨v', w', hr, by unfold Vy; rw [List.length_append]; exact h1, h2, h3⟩
set_option maxRecDepth 100000 in
theorem step_byt {ops : Array Oper} {o : Oper} {a : Act} {w : World} {K : Act → World → Prop} {Q : Exit → Act → World → Prop} {E : Prop} (hgd : o.guard = none) (s x : Operand)
    (ho : o.op = .call { callee := .builtin .append, args := #[s, x], argTypes := #[28, 28] })
    (B : Nat) (v : Value) (L M : List UInt8) (A : Option Addr) (m c : Nat) (hs : a.eval s = v) (hx : a.eval x = .slice A m c) (hm : m = M.length) (hv : Vy B w v L) (hsrc : Rd w .u8 A m (gL M)) (hB : B ≤ w.heap.size) (hn : L.length + M.length ≤ 1099511627776)
    (h : ∀ v' w', Vy B w' v' (L ++ M) → w.grownBy w' v.ownBlock → (v'.ownBlock = v.ownBlock ∨ v'.ownBlock = some w.heap.size) → Below B w w' → K (a.put o.dst v') w') :
    if Region.wanted o (yielded ops a.tmps) = true then Oper.wp Tryz.prog o a w K Q else E := by
  have hw : Region.wanted o (yielded ops a.tmps) = true := by simp [Region.wanted, hgd]
  rw [if_pos hw]
  subst hm
  obtain ⟨v', w', hr, h1, h2, h3⟩ := run_byt B v L M w o.type hv A M.length c rfl hsrc hB hn
  unfold Oper.wp execOp
  simp only [ho, resolve, invoke, builtin, Sem.run_bind, Sem.run_pure, Result.andThen_ok, List.map_toArray, List.map_cons, List.map_nil, hs, hx, hr]
  have hv2 : w.ownsRow B 5 1 v L.length (Lib.byteCells L) := hv
  exact h _ _ h1 h2 h3 ((Below.refl _ _).grown h2 hB fun k hk => (hv2.lt k hk).1)
theorem heldy_b {c0 : Prop} {B : Nat} {W0 W : World} (h : c0 ∧ Below B W0 W) : Below B W0 W := h.2
theorem heldy_sz {c0 : Prop} {B : Nat} {W0 W : World} (h : c0 ∧ Below B W0 W) : W0.heap.size ≤ W.heap.size := h.2.size
theorem heldy_al {c0 : Prop} {W0 W : World} (h : c0 ∧ Below W0.heap.size W0 W) (o : Obj) : Below W0.heap.size W0 (W.alloc o) := h.2.alloc h.2.size o
theorem heldy_tr {c0 : Prop} {B : Nat} {W0 W W' : World} (h : c0 ∧ Below B W0 W) (hb : Below B W W') : Below B W0 W' := h.2.trans hb
theorem heldy_st {B : Nat} {W0 W : World} (h : Below B W0 W) {N : Nat} (hN : B ≤ N) (x0 x1 x2 x3 x4 : Value) :
    Below B W0 (((((W.setCell ⟨N, 0, none⟩ x0).setCell ⟨N, 1, none⟩ x1).setCell ⟨N, 2, none⟩ x2).setCell ⟨N, 3, none⟩ x3).setCell ⟨N, 4, none⟩ x4) :=
  ((((h.setCell (p := ⟨N, 0, none⟩) hN x0).setCell (p := ⟨N, 1, none⟩) hN x1).setCell (p := ⟨N, 2, none⟩) hN x2).setCell (p := ⟨N, 3, none⟩) hN x3).setCell (p := ⟨N, 4, none⟩) hN x4
end Go.Proofs.YtpcladdipgchbaaGreatDoor.nn
namespace Go.Proofs.YtpcladdipgchbaaGreatDoor.nn
open Go.RowKit

set_option maxRecDepth 100000 in
set_option maxHeartbeats 8000000 in
theorem cfirst_any (A : Option Addr) (m c : Nat) (f : Nat → Nat) (hf : ∀ i, i < m → f i < 256) (hc : c ≤ 1048576) (hmc : m ≤ c) (hform : (A = none ∧ m = 0 ∧ c = 0) ∨ ∃ bb off, A = some ⟨bb, off, none⟩)
    (B : Option Addr) (lb d : Nat) (g : Nat → Nat) (hg : ∀ i, i < lb → g i < 256) (hd : d ≤ 1048576) (hlb : lb ≤ d) (_ : (B = none ∧ lb = 0 ∧ d = 0) ∨ ∃ bb off, B = some ⟨bb, off, none⟩) (w : World) (hA : Rd w .u8 A m f) (hB : Rd w .u8 B lb g) (hgl : Laid w) :
    Calls Tryz.prog 5 #[.slice A m c, .slice B lb d] w fun e w' => e = .returned (.bool true) ∧ Below w.heap.size w w' := by
  obtain ⟨i0, hi, hz0, hz1, hz2⟩ := info_parts infoW8
  have HR := Lib.hid hA
  have HRB := Lib.hid hB
  have HL := Lib.hid (fun W (h : Below w.heap.size w W) => all11 W)
  have HA := Lib.hid (fun W (h : Below w.heap.size w W) => awake11 W (hgl.below h))
  have HF := Lib.hid hf
  have HFB := Lib.hid hg
  obtain ⟨⟨T, q, e⟩, hR⟩ : ∃ R, dcR 64 1048576 f m = R := ⟨_, rfl⟩
  have H1 : Hid (∀ W, Below w.heap.size w W → Calls Tryz.prog 17 #[.slice A m c, .agg #[.int .i64 64, .int .i64 1048576, .bool false]] W fun x w' => ∃ A2 c2, x = .returned (.tuple #[vv T (.slice A2 T.l.length c2), .int .i64 (q : Int), .int .i64 (e : Int)]) ∧ Lst w' (.slice A2 T.l.length c2) T.l ∧ Below W.heap.size W w') := Lib.hid fun W hW => decode_parts 64 1048576 (by decide) (by decide) (hA.below hW) hf ⟨hmc, by unfold maxLen; omega⟩ (hgl.below hW) hR
  have HQ : q ≤ m ∧ (e = 4 → q < m) := by
    rcases dcR_ways hf 64 1048576 with ⟨t, h1, _⟩ | ⟨q', e', h1, h2, _, h4⟩
    · rw [hR] at h1; injection h1 with _ h1; injection h1 with a b; subst a b; exact ⟨Nat.le_refl _, fun h => (by cases h)⟩
    · rw [hR] at h1; injection h1 with _ h1; injection h1 with a b; subst a b; exact ⟨h2, h4⟩
  have HX : Hid (e = 4 → ∀ G : Nat → Nat, ∀ M, (∀ j, j ≤ q → G j = f j) → q < M → (dcR 64 1048576 G M).2 = (q, 4)) := Lib.hid fun h G M h1 h2 => (dcR_first (n := m) (f := f) (by rw [hR, h]) h1 h2).1
  have HC : Hid (e = 4 → (dcR 64 1048576 f q).2.1 = q ∧ ((dcR 64 1048576 f q).2.2 = 0 ∨ (dcR 64 1048576 f q).2.2 = 3)) := Lib.hid fun h => dcR_cut (n := m) (by rw [hR, h])
  have HDP : Hid (∀ (W : World) (A : Option Addr) (n c : Nat) (f : Nat → Nat) (T : VT) (q e : Nat), Below w.heap.size w W → Rd W .u8 A n f → (∀ j, j < n → f j < 256) → n ≤ c → c ≤ maxLen → dcR 64 1048576 f n = (T, q, e) → Calls Tryz.prog 17 #[.slice A n c, .agg #[.int .i64 64, .int .i64 1048576, .bool false]] W fun x w' => ∃ A2 c2, x = .returned (.tuple #[vv T (.slice A2 T.l.length c2), .int .i64 (q : Int), .int .i64 (e : Int)]) ∧ Lst w' (.slice A2 T.l.length c2) T.l ∧ Below W.heap.size W w') := Lib.hid fun W A n c f T q e hW h1 h2 h3 h4 h5 => decode_parts 64 1048576 (by decide) (by decide) h1 h2 ⟨h3, h4⟩ (hgl.below hW) h5
  unfold vv at H1 HDP
  have HB0 := Lib.hid (Below.refl w.heap.size w)
  clear hR hA hB hf hg hgl
  go_enter Tryz.func5, Tryz.ntmps5
  go_wp2_with fail
  refine (HL.out _ HB0.out).mono ?_
  rintro x w1 ⟨rfl, b1⟩
  have B1 := Lib.hid b1
  clear b1
  go_wp2_with fail
  refine (H1.out _ B1.out).mono ?_
  rintro x w1' ⟨A2, c2, rfl, -, b2⟩
  have B2' := Lib.hid (B1.out.trans (b2.mono B1.out.size))
  clear b2 H1
  obtain ⟨w2, hw2⟩ : ∃ W, w1'.alloc (.cells #[.int .i64 T.k, .bool T.g, .int .u64 (T.n : Int), .string T.s, .slice A2 T.l.length c2] 25) = W := ⟨_, rfl⟩
  have B2 : Hid (Below w.heap.size w w2) := Lib.hid (by rw [← hw2]; exact B2'.out.alloc B2'.out.size _)
  have HW2 := Lib.hid hw2
  clear hw2 B2'
  go_upto_region 2 with fail
  rw [HW2.out]
  clear HW2
  by_cases he : e = 4
  · obtain ⟨h1, h2⟩ := HQ
    have hqm := h2 he
    have HX2 := Lib.hid (HX.out he)
    have HC2 := Lib.hid (HC.out he)
    subst he
    obtain ⟨l, hl⟩ : ∃ l, q + 1 = l := ⟨_, rfl⟩
    have e2 : (q : Int) + 1 = (l : Int) := by omega
    have i1 : decide ((q : Int) < 0) = false := decide_eq_false (by omega)
    have i2 : decide ((m : Int) ≤ (q : Int)) = false := decide_eq_false (by omega)
    have i2n : decide (m ≤ q) = false := decide_eq_false (by omega)
    have i5 : (l : Int) ≤ (c : Int) := by omega
    have i6 : (0 : Int) ≤ (l : Int) := by omega
    have i7 : (q : Int) ≤ (c : Int) := by omega
    have i8 : (0 : Int) ≤ (q : Int) := by omega
    rcases hform with ⟨_, h0, _⟩ | ⟨bb, off, rfl⟩
    · omega
    · obtain ⟨⟨T3, q3, e3⟩, hR3⟩ : ∃ R, dcR 64 1048576 (jn f l g) (l + lb) = R := ⟨_, rfl⟩
      obtain ⟨⟨T4, q4, e4⟩, hR4⟩ : ∃ R, dcR 64 1048576 f q = R := ⟨_, rfl⟩
      have h3 := HX2.out (jn f l g) (l + lb) (fun j hj => jn_lo _ _ (by omega)) (by omega)
      have h4 := HC2.out
      rw [hR3] at h3
      rw [hR4] at h4
      injection h3 with h3 h3'
      subst h3 h3'
      obtain ⟨h4, h4'⟩ := h4
      have h4e : q4 = q3 := h4
      have h4e' : e4 = 0 ∨ e4 = 3 := h4'
      subst h4e
      have HR3 := Lib.hid hR3
      have HR4 := Lib.hid hR4
      have HRl := Lib.hid ((HR.out.mono (show l ≤ m by omega)).below B2.out)
      have HRq := Lib.hid (HR.out.mono (show q4 ≤ m by omega))
      have HRb := Lib.hid (HRB.out.below B2.out)
      have HFl : Hid (∀ j, j < l + lb → jn f l g j < 256) := Lib.hid fun j hj => by
        by_cases e : j < l
        · rw [jn_lo _ g e]; exact HF.out j (by omega)
        · obtain ⟨t, rfl⟩ : ∃ t, j = l + t := ⟨j - l, by omega⟩
          rw [jn_hi]; exact HFB.out t (by omega)
      have HFq : Hid (∀ j, j < q4 → f j < 256) := Lib.hid fun j hj => HF.out j (by omega)
      have hll : l ≤ 1048576 := by omega
      clear h1 h2 hqm hl HX HC HX2 HC2 hR3 hR4 h4 h4'
      go_wp2_with (first
        | (at_builtin; refine wpList_app rfl _ _ _ rfl w2.heap.size 5 i0 _ 1 Tryz.underlying28 hi hz0 hz1 hz2 rfl .u8 _ 0 f rfl (World.ownsRow_lit w2 #[] 0 (Nat.le_refl _) (by simp [maxLen]) rfl) (some ⟨bb, off, none⟩) l c f rfl (HRl.out.alloc _) (by unfold maxLen; omega) (by omega) (by simp) ?_; intro v3 w3 hown3 hb3)
        | (at_builtin; refine wpList_app rfl _ _ _ rfl w2.heap.size 5 i0 _ 1 Tryz.underlying28 hi hz0 hz1 hz2 rfl .u8 _ (0 + l) (jn f 0 f) rfl hown3 B lb d g rfl (HRb.out.below (((Below.refl w2.heap.size w2).alloc (Nat.le_refl _) _).trans hb3)) (by unfold maxLen; omega) (by omega) (((Below.refl w2.heap.size w2).alloc (Nat.le_refl _) _).trans hb3).size ?_; intro v4 w4 hown4 hb4))
      rw [show jn f 0 f = f from jn_zero _ _, show 0 + l = l from Nat.zero_add _] at hown4
      obtain ⟨A4, c4, rfl, k1, k2, hr4⟩ := Rd.of_own hown4
      have B4 := Lib.hid (B2.out.trans (((((Below.refl w2.heap.size w2).alloc (Nat.le_refl _) _).trans hb3).trans hb4).mono B2.out.size))
      have HV4 := Lib.hid (And.intro k1 (And.intro k2 hr4))
      clear hown3 hb3 hown4 hb4 hr4 k1 k2
      go_wp2_with fail
      refine (HL.out _ B4.out).mono ?_
      rintro x w5 ⟨rfl, b5⟩
      have B5 := Lib.hid (B4.out.trans (b5.mono B4.out.size))
      have HV5 := Lib.hid (HV4.out.2.2.below b5)
      clear b5
      go_wp2_with fail
      refine (HDP.out _ _ _ _ _ T3 q4 4 B5.out HV5.out HFl.out HV4.out.1 HV4.out.2.1 HR3.out).mono ?_
      rintro x w6' ⟨A6, c6, rfl, -, b6⟩
      have B6' := Lib.hid (B5.out.trans (b6.mono B5.out.size))
      clear b6 HV4 HV5
      obtain ⟨w6, hw6⟩ : ∃ W, w6'.alloc (.cells #[.int .i64 T3.k, .bool T3.g, .int .u64 (T3.n : Int), .string T3.s, .slice A6 T3.l.length c6] 25) = W := ⟨_, rfl⟩
      have B6 : Hid (Below w.heap.size w w6) := Lib.hid (by rw [← hw6]; exact B6'.out.alloc B6'.out.size _)
      have HW6 := Lib.hid hw6
      clear hw6 B6'
      go_upto_region 7 with fail
      rw [HW6.out]
      clear HW6
      have B6d := B6.out.drew
      have C7 : Hid (∀ W, Below w.heap.size w W → Calls Tryz.prog 20 #[] W fun e w' => e = .returned (.agg #[.int .i64 64, .int .i64 1048576, .bool false]) ∧ Below W.heap.size W w' ∧ Below w.heap.size w w') := Lib.hid fun W hW => (HL.out W hW).mono fun e w' ⟨h1, h2⟩ => ⟨h1, h2, hW.trans (h2.mono hW.size)⟩
      have C8 : Hid (∀ W, Below w.heap.size w W → Calls Tryz.prog 17 #[.slice (some ⟨bb, off, none⟩) q4 c, .agg #[.int .i64 64, .int .i64 1048576, .bool false]] W fun x w' => ∃ A2 c2, x = .returned (.tuple #[.agg #[.int .i64 T4.k, .bool T4.g, .int .u64 (T4.n : Int), .string T4.s, .slice A2 T4.l.length c2], .int .i64 (q4 : Int), .int .i64 (e4 : Int)]) ∧ Below W.heap.size W w' ∧ Below w.heap.size w w') := Lib.hid fun W hW => (HDP.out W _ _ _ _ T4 q4 e4 hW (HRq.out.below hW) HFq.out (by omega) (by unfold maxLen; omega) HR4.out).mono fun x w' ⟨A2, c2, h1, _, h2⟩ => ⟨A2, c2, h1, h2, hW.trans (h2.mono hW.size)⟩
      have hs6 := B6.out.size
      clear HDP HL HA HR HRB HF HFB HFl HFq HR3 HR4 HRl HRq HRb hi hz0 hz1 hz2
      go_region_held3 (fun W' => Below w.heap.size w W')
        (first
          | with_reducible exact B6d
          | with_reducible exact Below.drew (Below.alloc B6.out hs6 _)
          | with_reducible exact Below.alloc ‹_› (Below.size ‹_›) _
          | with_reducible exact heldy_st ‹_› (by omega) _ _ _ _ _
          | with_reducible assumption)
        (first
          | (go_at_call 20
             (with_reducible refine (C7.out _ ‹_›).mono ?_)
             rintro x w7 ⟨rfl, r7, b7⟩
             have hs7 := b7.size
             (first
               | with_reducible have hz1 := bky_al (T := 25) (bx := #[.int .i64 0, .bool false, .int .u64 0, .string ⟨#[]⟩, .slice none 0 0]) r7
               | with_reducible have hz1 := bky_ald (T := 25) (bx := #[.int .i64 0, .bool false, .int .u64 0, .string ⟨#[]⟩, .slice none 0 0]) r7
               | skip))
          | (go_at_call 17
             (with_reducible refine (C8.out _ ‹_›).mono ?_)
             rintro x w8 ⟨A8, c8, rfl, r8, b8⟩
             have hs8 := b8.size
             (first
               | (with_reducible have hz2 := hz1.below r8 hz1.lt
                  obtain ⟨q0, q1, q2, q3, q4⟩ := hz2.c5
                  obtain ⟨f0, f1, f2, f3, f4⟩ := hz2.f5)
               | (with_reducible have hz2 := bky_al (T := 25) (bx := #[.int .i64 0, .bool false, .int .u64 0, .string ⟨#[]⟩, .slice none 0 0]) r8
                  obtain ⟨q0, q1, q2, q3, q4⟩ := hz2.c5
                  obtain ⟨f0, f1, f2, f3, f4⟩ := hz2.f5)
               | skip)))
      all_goals
        rcases h4e' with rfl | rfl
        all_goals
          go_wp2_with fail
          go_ret
          exact ⟨rfl, by first | with_reducible assumption | with_reducible exact heldy_st ‹_› (by omega) _ _ _ _ _⟩
  · have i0' : ((e : Int) != 4) = true := by simp; omega
    have i1 : decide ((q : Int) < 0) = false := decide_eq_false (by omega)
    have i2 : decide ((m : Int) < (q : Int)) = false := decide_eq_false (by omega)
    have i2n : decide (q ≤ m) = true := decide_eq_true (by omega)
    have HAA := Lib.hid (HA.out _ B2.out)
    clear HX HC HDP HL HA HQ
    go_wp2_with fail
    refine HAA.out.mono ?_
    rintro x w6 ⟨rfl, b6⟩
    have B6 := Lib.hid (B2.out.trans (b6.mono B2.out.size))
    clear b6
    go_wp2_with fail
    go_ret
    exact ⟨rfl, B6.out⟩
end Go.Proofs.YtpcladdipgchbaaGreatDoor.nn
