/- Joined texts, what is wanted of them: Tree, RefLeaf, Bt, Utf, RefNeed, Behind, Take, TakeAll, RefWithin, Check, Bits. -/
import Derived.Test.YteebokhpoppgeaaProg
import Derived.WalkKit
import Derived.Lib.Hide
import Derived.Lib.MinMax
import Derived.Deep.QuietTactic
import Derived.BigQuiet
import Derived.IntWalk
import Derived.Deep.CutBlock
import Derived.Deep.DeepCutAuto
import Derived.KernelRfl
import Derived.Below
import Derived.Deep.WholeRow
import Derived.Great.Walk
import Derived.Laws.BitsAllLaws
import Derived.RowKit
import Derived.StillTailTactics
import Derived.Deep.RegionHeld3
namespace Go.Proofs.Yteebokhpoppgeaa.nn
open Go.RowKit

/-- a tree of values -/
inductive VT where
  | mk (k : Int) (g : Bool) (n : Nat) (s : ByteArray) (l : List VT)
def VT.k : VT → Int | .mk k _ _ _ _ => k
def VT.g : VT → Bool | .mk _ g _ _ _ => g
def VT.n : VT → Nat | .mk _ _ n _ _ => n
def VT.s : VT → ByteArray | .mk _ _ _ s _ => s
def VT.l : VT → List VT | .mk _ _ _ _ l => l

mutual
/-- values and letters -/
def blk : VT → Nat | .mk _ _ _ s l => s.size + blkL l + 5
def blkL : List VT → Nat | [] => 1 | t :: r => blk t + blkL r
end
mutual
/-- numbers within their kinds -/
def wfT : VT → Prop | .mk k _ n _ l => -9223372036854775808 ≤ k ∧ k ≤ 9223372036854775807 ∧ n < 18446744073709551616 ∧ wfL l
def wfL : List VT → Prop | [] => True | t :: r => wfT t ∧ wfL r
end
theorem wfT_mk (t : VT) : wfT t ↔ -9223372036854775808 ≤ t.k ∧ t.k ≤ 9223372036854775807 ∧ t.n < 18446744073709551616 ∧ wfL t.l := by cases t; rfl
mutual
/-- how many values -/
def cnt : VT → Nat | .mk _ _ _ _ l => cntL l + 1
def cntL : List VT → Nat | [] => 0 | t :: r => cnt t + cntL r
end
theorem cnt_mk (t : VT) : cnt t = cntL t.l + 1 := by cases t; rfl
theorem cntL_app (a b : List VT) : cntL (a ++ b) = cntL a + cntL b := by
  induction a with
  | nil => simp [cntL]
  | cons t r ih => simp only [List.cons_append, cntL, ih]; omega
theorem cntL_take_succ {l : List VT} {i : Nat} (h : i < l.length) : cntL (l.take (i + 1)) = cntL (l.take i) + cnt l[i] := by
  rw [List.take_succ_eq_append_getElem h, cntL_app]
  simp [cntL]
theorem cnt_at {l : List VT} {i : Nat} (h : i < l.length) : cnt l[i] ≤ cntL l := by
  have h1 := cntL_take_succ h
  have h2 := cntL_app (l.take (i + 1)) (l.drop (i + 1))
  rw [List.take_append_drop] at h2
  omega
theorem cntL_take_le (l : List VT) (i : Nat) : cntL (l.take i) ≤ cntL l := by
  have h2 := cntL_app (l.take i) (l.drop i)
  rw [List.take_append_drop] at h2
  omega
theorem len_cntL (l : List VT) : l.length ≤ cntL l := by
  induction l with
  | nil => simp [cntL]
  | cons t r ih => have := cnt_mk t; simp only [List.length_cons, cntL]; omega

/-- the five cells of a value, from a place on; C: the slice of those within it -/
structure Row (w : World) (b o : Nat) (t : VT) (C : Value) : Prop where
  k : w.cell? ⟨b, o, none⟩ = some (.int .i64 t.k)
  g : w.cell? ⟨b, o + 1, none⟩ = some (.bool t.g)
  n : w.cell? ⟨b, o + 2, none⟩ = some (.int .u64 (t.n : Int))
  s : w.cell? ⟨b, o + 3, none⟩ = some (.string t.s)
  l : w.cell? ⟨b, o + 4, none⟩ = some C
/-- a slice holds a list of trees -/
inductive Lst (w : World) : Value → List VT → Prop where
  | nil_ {A : Option Addr} {c : Nat} : Lst w (.slice A 0 c) []
  | at_ {b off m c : Nat} {C : Nat → Value} {l : List VT} (hl : l.length = m) (hc : m ≤ c) (hb : b < w.heap.size) (hr : ∀ i (h : i < l.length), Row w b (off + i * 5) l[i] (C i)) (hk : ∀ i (h : i < l.length), Lst w (C i) l[i].l) : Lst w (.slice (some ⟨b, off, none⟩) m c) l
/-- a value that is handed over -/
def vv (t : VT) (C : Value) : Value := .agg #[.int .i64 t.k, .bool t.g, .int .u64 (t.n : Int), .string t.s, C]

theorem Row.below {w w' : World} {B b o : Nat} {t : VT} {C : Value} (h : Row w b o t C) (hB : Below B w w') (hb : b < B) : Row w' b o t C :=
  ⟨(hB.cell (p := ⟨b, o, none⟩) hb).trans h.k, (hB.cell (p := ⟨b, o + 1, none⟩) hb).trans h.g, (hB.cell (p := ⟨b, o + 2, none⟩) hb).trans h.n, (hB.cell (p := ⟨b, o + 3, none⟩) hb).trans h.s, (hB.cell (p := ⟨b, o + 4, none⟩) hb).trans h.l⟩
theorem Lst.keep {w w' : World} {v : Value} {l : List VT} (h : Lst w v l) : ∀ {B : Nat}, Below B w w' → w.heap.size ≤ B → Lst w' v l := by
  induction h with
  | nil_ => intro B _ _; exact .nil_
  | at_ hl hc hb hr hk ih =>
    intro B hB hs
    exact .at_ hl hc (Nat.lt_of_lt_of_le hb hB.size) (fun i h => (hr i h).below hB (Nat.lt_of_lt_of_le hb hs)) (fun i h => ih i h hB hs)
/-- a slice of trees: its address, its length -/
theorem Lst.out {w : World} {v : Value} {l : List VT} (h : Lst w v l) : ∃ (A : Option Addr) (c : Nat), v = .slice A l.length c ∧ l.length ≤ c ∧ ((True ∧ l = [] ∧ True) ∨ ∃ (b off : Nat) (C : Nat → Value), A = some ⟨b, off, none⟩ ∧ b < w.heap.size ∧ (∀ i (h : i < l.length), Row w b (off + i * 5) l[i] (C i)) ∧ ∀ i (h : i < l.length), Lst w (C i) l[i].l) := by
  cases h with
  | nil_ => exact ⟨_, _, rfl, Nat.zero_le _, .inl ⟨trivial, rfl, trivial⟩⟩
  | at_ hl hc hb hr hk =>
    subst hl
    exact ⟨_, _, rfl, hc, .inr ⟨_, _, _, rfl, hb, hr, hk⟩⟩
/-- a world behind: what was there is there; a value that was handed over lies in the first new block -/
structure Box (w : World) (t : VT) (C : Value) (W : World) : Prop where
  b : Below w.heap.size w W
  z : w.heap.size < W.heap.size
  r : Row W w.heap.size 0 t C
theorem Box.new (w : World) (t : VT) (C : Value) (T : TypeId) : Box w t C (w.alloc (.cells #[.int .i64 t.k, .bool t.g, .int .u64 (t.n : Int), .string t.s, C] T)) :=
  ⟨(Below.refl _ _).alloc (Nat.le_refl _) _, by simp, ⟨by simp, by simp, by simp, by simp, by simp⟩⟩
theorem Box.on {w W W' : World} {t : VT} {C : Value} (h : Box w t C W) (hB : Below W.heap.size W W') : Box w t C W' :=
  ⟨h.b.trans (hB.mono (Nat.le_of_lt h.z)), Nat.lt_of_lt_of_le h.z hB.size, h.r.below hB h.z⟩
theorem Box.low {w W W' : World} {t : VT} {C : Value} (h : Box w t C W) (hB : Below (w.heap.size + 1) W W') : Box w t C W' :=
  ⟨h.b.trans (hB.mono (Nat.le_succ _)), Nat.lt_of_lt_of_le h.z hB.size, h.r.below hB (Nat.lt_succ_self _)⟩
theorem Box.drew {w W : World} {t : VT} {C : Value} (h : Box w t C W) : Box w t C W.drew := h.on (Below.drew (Below.refl _ _))
/-- likewise of two values that were handed over -/
structure Box2 (w : World) (t : VT) (C : Value) (u : VT) (D : Value) (W : World) : Prop where
  b : Below w.heap.size w W
  z : w.heap.size + 1 < W.heap.size
  r : Row W w.heap.size 0 t C
  r2 : Row W (w.heap.size + 1) 0 u D
theorem Box2.new (w : World) (t : VT) (C : Value) (u : VT) (D : Value) (T : TypeId) : Box2 w t C u D ((w.alloc (.cells #[.int .i64 t.k, .bool t.g, .int .u64 (t.n : Int), .string t.s, C] T)).alloc (.cells #[.int .i64 u.k, .bool u.g, .int .u64 (u.n : Int), .string u.s, D] T)) := by
  have h := Box.new w t C T
  have h2 := Box.new (w.alloc (.cells #[.int .i64 t.k, .bool t.g, .int .u64 (t.n : Int), .string t.s, C] T)) u D T
  have hz : (w.alloc (.cells #[.int .i64 t.k, .bool t.g, .int .u64 (t.n : Int), .string t.s, C] T)).heap.size = w.heap.size + 1 := by simp
  have h3 := h2.z
  have h4 := h2.r
  rw [hz] at h3 h4
  exact ⟨(h.on h2.b).b, h3, (h.on h2.b).r, h4⟩
theorem Box2.on {w W W' : World} {t u : VT} {C D : Value} (h : Box2 w t C u D W) (hB : Below W.heap.size W W') : Box2 w t C u D W' :=
  ⟨h.b.trans (hB.mono (by have := h.z; omega)), Nat.lt_of_lt_of_le h.z hB.size, h.r.below hB (by have := h.z; omega), h.r2.below hB h.z⟩
theorem Box2.drew {w W : World} {t u : VT} {C D : Value} (h : Box2 w t C u D W) : Box2 w t C u D W.drew := h.on (Below.drew (Below.refl _ _))
/-- are two trees the same -/
noncomputable def eqv (t u : VT) : Bool := @decide (t = u) (Classical.propDecidable _)
theorem eqv_parts (t u : VT) : eqv t u = true ↔ t.k = u.k ∧ t.g = u.g ∧ t.n = u.n ∧ t.s = u.s ∧ t.l = u.l := by
  unfold eqv
  rw [@decide_eq_true_iff _ (Classical.propDecidable _)]
  cases t; cases u
  simp [VT.k, VT.g, VT.n, VT.s, VT.l]
theorem eqv_iff (t u : VT) : eqv t u = true ↔ t = u := by unfold eqv; rw [@decide_eq_true_iff _ (Classical.propDecidable _)]
end Go.Proofs.Yteebokhpoppgeaa.nn
namespace Go.Proofs.Yteebokhpoppgeaa.nn
open Go.RowKit

/-- is a value of this kind one without others -/
def lf (k : Int) : Bool := decide (k ≠ 11 ∧ k ≠ 12 ∧ k ≠ 13)
mutual
/-- how deep -/
def dep : VT → Nat | .mk k _ _ _ l => if k = 5 then 1 else if lf k then 0 else depL l + 1
def depL : List VT → Nat | [] => 0 | t :: r => max (dep t) (depL r)
end
theorem dep_mk (t : VT) : dep t = if t.k = 5 then 1 else if lf t.k then 0 else depL t.l + 1 := by cases t; rfl
theorem depL_app (a b : List VT) : depL (a ++ b) = max (depL a) (depL b) := by
  induction a with
  | nil => simp [depL]
  | cons t r ih => simp only [List.cons_append, depL, ih]; omega
theorem depL_take_succ {l : List VT} {i : Nat} (h : i < l.length) : depL (l.take (i + 1)) = max (depL (l.take i)) (dep l[i]) := by
  rw [List.take_succ_eq_append_getElem h, depL_app]
  simp [depL]
theorem neInt {c k : Int} (h : c ≠ k) : (c == k) = false ∧ (c != k) = true := ⟨by simp [h], by simp [h]⟩
theorem depL_le (N : Nat) : ∀ l : List VT, cntL l ≤ N → depL l ≤ N := by
  induction N with
  | zero =>
    intro l h
    cases l with
    | nil => exact Nat.le_refl _
    | cons t r => have := cnt_mk t; simp only [cntL] at h; omega
  | succ N ih =>
    intro l
    induction l with
    | nil => intro _; exact Nat.zero_le _
    | cons t r ihr =>
      intro h
      have h1 := cnt_mk t
      simp only [cntL] at h
      have h2 := ihr (by omega)
      have h3 := dep_mk t
      have h4 := ih t.l (by omega)
      simp only [depL]
      have : dep t ≤ N + 1 := by
        rw [h3]
        split
        · omega
        · split
          · omega
          · omega
      omega
theorem dep_le (t : VT) : dep t ≤ cnt t := by
  have h1 := dep_mk t
  have h2 := cnt_mk t
  have h3 := depL_le _ t.l (Nat.le_refl _)
  rw [h1]
  split
  · omega
  · split <;> omega
set_option maxRecDepth 100000 in
theorem rleaf_any (t : VT) (C : Value) (w : World) : Calls Try.prog 24 #[vv t C] w fun e w' => e = .returned (.bool (lf t.k)) ∧ Below w.heap.size w w' := by
  have HB0 := Lib.hid (Box.new w t C 36)
  unfold lf vv
  obtain ⟨k, hk⟩ : ∃ k, t.k = k := ⟨_, rfl⟩
  rw [hk] at HB0 ⊢
  clear hk
  by_cases h1 : k = 11
  · subst h1
    go_enter Try.func24, Try.ntmps24
    go_wp2_with fail
    go_ret
    exact ⟨rfl, HB0.out.b⟩
  · by_cases h2 : k = 12
    · subst h2
      go_enter Try.func24, Try.ntmps24
      go_wp2_with fail
      go_ret
      exact ⟨rfl, HB0.out.b⟩
    · obtain ⟨q1, q1'⟩ := neInt h1
      obtain ⟨q2, q2'⟩ := neInt h2
      by_cases h3 : k = 13
      · subst h3
        go_enter Try.func24, Try.ntmps24
        go_wp2_with fail
        go_ret
        exact ⟨rfl, HB0.out.b⟩
      · obtain ⟨q3, q3'⟩ := neInt h3
        rw [decide_eq_true (And.intro h1 (And.intro h2 h3))]
        clear h1 h2 h3
        go_enter Try.func24, Try.ntmps24
        go_wp2_with fail
        go_ret
        exact ⟨rfl, HB0.out.b⟩
set_option maxRecDepth 100000 in
set_option maxHeartbeats 1000000 in
theorem rdepth_any (N : Nat) : ∀ (t : VT) (C : Value) (w : World), cnt t ≤ N → N ≤ 4611686018427387904 → Lst w C t.l →
    Calls Try.prog 35 #[vv t C] w fun e w' => e = .returned (.int .i64 (dep t : Int)) ∧ Below w.heap.size w w' := by
  induction N with
  | zero => intro t C w h _ _; have := cnt_mk t; omega
  | succ N ih =>
    intro t C w hN hM hC
    have hdm := dep_mk t
    have hkk := @rleaf_any t C
    by_cases h5 : t.k = 5
    · rw [if_pos h5] at hdm
      have HB0 := Lib.hid (Box.new w t C 36)
      have HT := Lib.hid hdm
      rw [hdm]
      unfold vv
      rw [h5] at HB0 ⊢
      clear hdm hkk h5
      go_enter Try.func35, Try.ntmps35
      go_wp2_with fail
      go_ret
      exact ⟨rfl, HB0.out.b⟩
    · rw [if_neg h5] at hdm
      obtain ⟨q5, _⟩ := neInt h5
      by_cases hlf : lf t.k = true
      · rw [if_pos hlf] at hdm
        rw [hlf] at hkk
        have HB0 := Lib.hid (Box.new w t C 36)
        have HK := Lib.hid hkk
        rw [hdm]
        unfold vv at HK ⊢
        clear hdm hkk h5 hlf ih
        go_enter Try.func35, Try.ntmps35
        go_wp2_with fail
        refine (HK.out _).mono ?_
        rintro e w2 ⟨rfl, hb2⟩
        have hk2 := Lib.hid (HB0.out.on hb2)
        clear hb2
        go_wp2_with fail
        go_ret
        exact ⟨rfl, hk2.out.b⟩
      · have hlf2 : lf t.k = false := by simpa using hlf
        rw [if_neg hlf] at hdm
        rw [hlf2] at hkk
        have HK := Lib.hid hkk
        have HC := Lib.hid hC
        obtain ⟨A, c, rfl, hlc, hA⟩ := hC.out
        have hcm := cnt_mk t
        obtain ⟨l, hl⟩ : ∃ l, t.l = l := ⟨_, rfl⟩
        rw [hl] at hlc hA hcm HC hdm HK ⊢
        have hll := len_cntL l
        have hdl := depL_le N l (by omega)
        have HB0 := Lib.hid (Box.new w t (.slice A l.length c) 36)
        have HT := Lib.hid hdm
        unfold vv at HK ⊢
        clear hkk hlf hlf2 hdm h5
        go_enter Try.func35, Try.ntmps35
        go_wp2_with fail
        refine (HK.out _).mono ?_
        rintro e w2 ⟨rfl, hb2⟩
        have hk2 := Lib.hid (HB0.out.on hb2)
        clear hb2 q5
        go_wp2_with fail
        go_loopw [3, 4] (fun s3 s4 wr => ∃ i m : Nat, i ≤ l.length ∧ m ≤ N ∧ s3 = .int .i64 (m : Int) ∧ s4 = .int .i64 (i : Int) ∧ Hid (m = depL (l.take i)) ∧ Hid (Box w t (.slice A l.length c) wr)) (fun _ s4 _ => l.length - (intOf s4).toNat)
        case atStart => exact ⟨0, 0, Nat.zero_le _, by omega, rfl, rfl, Lib.hid rfl, hk2⟩
        case round =>
          obtain ⟨i, m, hi, hmN, rfl, rfl, hm, hk⟩ := hrel
          have h4 : wr.cell? ⟨w.heap.size, 4, none⟩ = some (.slice A l.length c) := hk.out.r.l
          by_cases hlt : i < l.length
          · rcases hA with ⟨_, h0, _⟩ | ⟨b, off, D, rfl, hb, hrow, hkid⟩
            · rw [h0] at hlt; exact absurd hlt (by simp)
            · obtain ⟨t', ht'⟩ : ∃ t', l[i] = t' := ⟨_, rfl⟩
              obtain ⟨C', hC'⟩ : ∃ C', D i = C' := ⟨_, rfl⟩
              have hr := hrow i hlt
              have hkl := hkid i hlt
              rw [ht', hC'] at hr hkl
              have hr2 := hr.below hk.out.b hb
              have r0 := hr2.k
              have r1 := hr2.g
              have r2 := hr2.n
              have r3 := hr2.s
              have r4 := hr2.l
              have hcn := cnt_at hlt
              rw [ht'] at hcn
              have hsum := depL_take_succ hlt
              rw [ht', ← hm.out] at hsum
              have hle := depL_le N (l.take (i + 1)) (Nat.le_trans (cntL_take_le l (i + 1)) (by omega))
              rw [hsum] at hle
              have HI := Lib.hid (ih t' C' wr (by omega) (by omega) (hkl.keep hk.out.b (Nat.le_refl _)))
              obtain ⟨k, hk'⟩ : ∃ k, dep t' = k := ⟨_, rfl⟩
              rw [hk'] at HI hsum hle
              have emax : max (m : Int) (k : Int) = ((max m k : Nat) : Int) := by omega
              obtain ⟨x, hx⟩ : ∃ x, max m k = x := ⟨_, rfl⟩
              rw [hx] at emax hsum hle
              have hm2 : Hid (x = depL (l.take (i + 1))) := Lib.hid hsum.symm
              have hkb : k ≤ x := by omega
              unfold vv at HI
              clear hr hr2 hkl hrow hkid ht' hC' hcn hsum hk' ih hx
              go_wp2_with fail
              refine HI.out.mono ?_
              rintro e w3 ⟨rfl, hb2⟩
              have hk2 := Lib.hid (hk.out.on hb2)
              clear hb2 r0 r1 r2 r3 r4 h4
              go_wp2_with fail
              go_roundw
              case rel => exact ⟨i + 1, x, hlt, hle, by go_num, by go_num, hm2, hk2⟩
              case measure => simp [intOf]; omega
          · obtain rfl : i = l.length := by omega
            have hmt : (m : Int) + 1 = (dep t : Int) := by rw [HT.out, hm.out, List.take_length]; simp
            have HT := Lib.hid hmt
            clear hmt
            go_wp2_with fail
            go_ret
            exact ⟨by rw [HT.out]; rfl, hk.out.b⟩
end Go.Proofs.Yteebokhpoppgeaa.nn
namespace Go.Proofs.Yteebokhpoppgeaa.nn

/-- byte i of a text -/
def bt (s : ByteArray) (i : Nat) : Nat := if h : i < s.size then s[i].toNat else 0
theorem bt_at {s : ByteArray} {i : Nat} (h : i < s.size) : bt s i = s[i].toNat := dif_pos h
theorem bt_lt (s : ByteArray) (i : Nat) : bt s i < 256 := by
  unfold bt
  split
  · exact s[i].toNat_lt
  · omega
end Go.Proofs.Yteebokhpoppgeaa.nn
namespace Go.Proofs.Yteebokhpoppgeaa.nn

/-- how many bytes a code point has that begins with x; 0: none does -/
def nd (x : Nat) : Nat := if x < 128 then 1 else if 194 ≤ x ∧ x ≤ 223 then 2 else if 224 ≤ x ∧ x ≤ 239 then 3 else if 240 ≤ x ∧ x ≤ 244 then 4 else 0
/-- the least and the greatest byte at place j of a code point that begins with x -/
def lt_ (x j : Nat) : Nat := if j = 1 then (if x = 224 then 160 else if x = 240 then 144 else 128) else 128
def mt_ (x j : Nat) : Nat := if j = 1 then (if x = 237 then 159 else if x = 244 then 143 else 191) else 191
def my (x j y : Nat) : Bool := decide (lt_ x j ≤ y ∧ y ≤ mt_ x j)

/-- what is due: so many bytes, the next one between low and high -/
structure Tl where
  c : Nat
  lo : Nat
  hi : Nat

def t0 : Tl := ⟨0, 0, 0⟩
def bh (x : Nat) : Tl := if nd x ≤ 1 then t0 else ⟨nd x - 1, lt_ x 1, mt_ x 1⟩
def ok (t : Tl) (x : Nat) : Bool := if t.c = 0 then decide (nd x ≠ 0) else decide (t.lo ≤ x ∧ x ≤ t.hi)
def nx (t : Tl) (x : Nat) : Tl := if t.c = 0 then bh x else if t.lo ≤ x ∧ x ≤ t.hi then ⟨t.c - 1, 128, 191⟩ else t

/-- the state behind i bytes from state t on, and whether all of them were taken -/
def go (f : Nat → Nat) (t : Tl) : Nat → Tl × Bool
  | 0 => (t, true)
  | i + 1 => if (go f t i).2 then (nx (go f t i).1 (f i), ok (go f t i).1 (f i)) else go f t i
def al (f : Nat → Nat) (t : Tl) (i : Nat) : Bool := (go f t i).2
def tk (f : Nat → Nat) (t : Tl) (i : Nat) : Tl := (go f t i).1
/-- how many of n bytes are taken -/
def sp (f : Nat → Nat) (t : Tl) : Nat → Nat
  | 0 => 0
  | n + 1 => if al f t (n + 1) then n + 1 else sp f t n

section
variable {f g : Nat → Nat} {t : Tl} {i j n m p : Nat}
theorem al_succ : al f t (i + 1) = (al f t i && ok (tk f t i) (f i)) := by
  unfold al tk
  rw [go]
  by_cases h : (go f t i).2 <;> simp [h]
theorem tk_succ (h : al f t i = true) : tk f t (i + 1) = nx (tk f t i) (f i) := by
  unfold al at h
  unfold tk
  rw [go, if_pos h]
theorem al_mono (h : al f t n = true) (hm : m ≤ n) : al f t m = true := by
  induction n with
  | zero => obtain rfl : m = 0 := by omega
            exact h
  | succ n ih =>
    rw [al_succ, Bool.and_eq_true] at h
    by_cases e : m = n + 1
    · subst e; rw [al_succ, h.1, h.2]; rfl
    · exact ih h.1 (by omega)
theorem dead (h : al f t m = false) (hm : m ≤ n) : al f t n = false := by
  cases hn : al f t n with
  | false => rfl
  | true => rw [al_mono hn hm] at h; cases h
theorem sp_le : sp f t n ≤ n := by
  induction n with
  | zero => simp [sp]
  | succ n ih => rw [sp]; split <;> omega
theorem sp_all (h : al f t n = true) : sp f t n = n := by
  cases n with
  | zero => rfl
  | succ n => rw [sp, if_pos h]
theorem sp_stop (h : al f t p = true) (h' : al f t (p + 1) = false) (hp : p ≤ n) : sp f t n = p := by
  induction n with
  | zero => obtain rfl : p = 0 := by omega
            rfl
  | succ n ih =>
    by_cases e : p = n + 1
    · subst e; rw [sp, if_pos h]
    · rw [sp, if_neg (by rw [dead h' (by omega)]; decide)]
      exact ih (by omega)
theorem sp_lt (h : al f t n = false) : sp f t n < n ∧ al f t (sp f t n + 1) = false := by
  induction n with
  | zero => cases h
  | succ n ih =>
    rw [sp, if_neg (by rw [h]; decide)]
    by_cases e : al f t n = true
    · rw [sp_all e]; exact ⟨by omega, h⟩
    · have := ih (by simpa using e)
      exact ⟨by omega, this.2⟩
end

/-- the states that are met -/
def Gd (t : Tl) : Prop := t.c = 0 ∨ (t.c = 1 ∧ t.lo = 128 ∧ t.hi = 191) ∨ (t.c = 2 ∧ (t.lo = 160 ∧ t.hi = 191 ∨ t.lo = 128 ∧ t.hi = 191 ∨ t.lo = 128 ∧ t.hi = 159)) ∨
  (t.c = 3 ∧ (t.lo = 144 ∧ t.hi = 191 ∨ t.lo = 128 ∧ t.hi = 191 ∨ t.lo = 128 ∧ t.hi = 143))
theorem gd_zero : Gd t0 := .inl rfl
theorem nd_cases (x : Nat) : (x < 128 ∧ nd x = 1) ∨ (194 ≤ x ∧ x ≤ 223 ∧ nd x = 2) ∨ (224 ≤ x ∧ x ≤ 239 ∧ nd x = 3) ∨ (240 ≤ x ∧ x ≤ 244 ∧ nd x = 4) ∨ ((128 ≤ x ∧ x < 194 ∨ 244 < x) ∧ nd x = 0) := by
  unfold nd
  repeat' split
  all_goals omega
theorem lt_cases (x : Nat) : (x = 224 ∧ lt_ x 1 = 160) ∨ (x = 240 ∧ lt_ x 1 = 144) ∨ (x ≠ 224 ∧ x ≠ 240 ∧ lt_ x 1 = 128) := by
  unfold lt_
  rw [if_pos rfl]
  repeat' split
  all_goals omega
theorem mt_cases (x : Nat) : (x = 237 ∧ mt_ x 1 = 159) ∨ (x = 244 ∧ mt_ x 1 = 143) ∨ (x ≠ 237 ∧ x ≠ 244 ∧ mt_ x 1 = 191) := by
  unfold mt_
  rw [if_pos rfl]
  repeat' split
  all_goals omega
theorem gd_bh (x : Nat) : Gd (bh x) := by
  have h1 := nd_cases x
  have h2 := lt_cases x
  have h3 := mt_cases x
  unfold bh
  split
  · exact gd_zero
  · unfold Gd
    dsimp only
    omega
theorem gd_nx {t : Tl} (h : Gd t) (x : Nat) : Gd (nx t x) := by
  unfold nx
  split
  · exact gd_bh x
  · split
    · unfold Gd at h ⊢
      dsimp only
      omega
    · exact h
theorem gd_go {f : Nat → Nat} {t : Tl} (h : Gd t) (i : Nat) : Gd (tk f t i) := by
  induction i with
  | zero => exact h
  | succ i ih =>
    unfold tk at ih ⊢
    rw [go]
    split
    · exact gd_nx ih _
    · exact ih
theorem gd_lt {t : Tl} (h : Gd t) : t.c < 4 := by unfold Gd at h; omega

/-- what Check answers -/
def ckA (f : Nat → Nat) (n : Nat) : Nat := sp f t0 n
def ckE (f : Nat → Nat) (n : Nat) : Nat := if al f t0 n then (if (tk f t0 n).c = 0 then 0 else 3) else 4

/-- all of i bytes may stand in a text of N bytes (N below 0: of however many) -/
def aw (f : Nat → Nat) (N : Int) : Nat → Bool
  | 0 => true
  | i + 1 => aw f N i && (al f t0 (i + 1) && decide (N < 0 ∨ ((tk f t0 (i + 1)).c : Int) + (i + 1) ≤ N))
def spw (f : Nat → Nat) (N : Int) : Nat → Nat
  | 0 => 0
  | n + 1 => if aw f N (n + 1) then n + 1 else spw f N n
/-- what is told of m bytes that stand in a text of N bytes -/
def wE (f : Nat → Nat) (N : Int) (m : Nat) : Nat := if aw f N m then (if (tk f t0 m).c ≠ 0 ∨ (m : Int) < N then 3 else 0) else 4

section
variable {f g : Nat → Nat} {N : Int} {i j k n m p : Nat}
theorem aw_mono (h : aw f N n = true) (hm : m ≤ n) : aw f N m = true := by
  induction n with
  | zero => obtain rfl : m = 0 := by omega
            exact h
  | succ n ih =>
    by_cases e : m = n + 1
    · subst e; exact h
    · rw [aw, Bool.and_eq_true] at h
      exact ih h.1 (by omega)
theorem aw_dead (h : aw f N m = false) (hm : m ≤ n) : aw f N n = false := by
  cases hn : aw f N n with
  | false => rfl
  | true => rw [aw_mono hn hm] at h; cases h
theorem spw_all (h : aw f N n = true) : spw f N n = n := by
  cases n with
  | zero => rfl
  | succ n => rw [spw, if_pos h]
theorem spw_stop (h : aw f N p = true) (h' : aw f N (p + 1) = false) (hp : p ≤ n) : spw f N n = p := by
  induction n with
  | zero => obtain rfl : p = 0 := by omega
            rfl
  | succ n ih =>
    by_cases e : p = n + 1
    · subst e; rw [spw, if_pos h]
    · rw [spw, if_neg (by rw [aw_dead h' (by omega)]; decide)]
      exact ih (by omega)
theorem aw_al (h : aw f N n = true) : al f t0 n = true := by
  cases n with
  | zero => rfl
  | succ n =>
    rw [aw, Bool.and_eq_true, Bool.and_eq_true] at h
    exact h.2.1
theorem aw_room (h : aw f N n = true) (h0 : 0 < n) : N < 0 ∨ ((tk f t0 n).c : Int) + n ≤ N := by
  obtain ⟨n, rfl⟩ : ∃ j, n = j + 1 := ⟨n - 1, by omega⟩
  rw [aw, Bool.and_eq_true, Bool.and_eq_true] at h
  have := of_decide_eq_true h.2.2
  omega
theorem aw_mk (h : aw f N n = true) (ha : al f t0 (n + 1) = true) (hr : N < 0 ∨ ((tk f t0 (n + 1)).c : Int) + (n + 1) ≤ N) : aw f N (n + 1) = true := by
  rw [aw, h, ha, Bool.true_and, Bool.true_and]
  exact decide_eq_true hr
theorem aw_neg (h : N < 0) : aw f N n = al f t0 n := by
  induction n with
  | zero => rfl
  | succ n ih =>
    rw [aw, ih, decide_eq_true (.inl h), Bool.and_true]
    cases e : al f t0 (n + 1) with
    | false => rw [Bool.and_false]
    | true => rw [al_mono e (Nat.le_succ n)]; rfl
theorem spw_neg (h : N < 0) : spw f N n = sp f t0 n := by
  induction n with
  | zero => rfl
  | succ n ih => rw [spw, sp, aw_neg h, ih]
theorem wE_neg (h : N < 0) : wE f N m = ckE f m := by
  unfold wE ckE
  rw [aw_neg h]
  by_cases hc : (tk f t0 m).c = 0
  · rw [if_pos hc, if_neg (show ¬ ((tk f t0 m).c ≠ 0 ∨ (m : Int) < N) by omega)]
  · rw [if_neg hc, if_pos (show ((tk f t0 m).c ≠ 0 ∨ (m : Int) < N) from .inl hc)]
/-- what is due never ends later than it did before -/
theorem due_step (h : al f t0 (i + 1) = true) (hc : (tk f t0 i).c ≠ 0) : (tk f t0 (i + 1)).c + (i + 1) = (tk f t0 i).c + i := by
  rw [al_succ, Bool.and_eq_true] at h
  rw [tk_succ h.1]
  have h2 := h.2
  unfold ok at h2
  unfold nx
  rw [if_neg hc] at h2 ⊢
  rw [if_pos (of_decide_eq_true h2)]
  show (tk f t0 i).c - 1 + (i + 1) = _
  omega

/-! one code point, byte by byte -/
/-- j of the k bytes of the code point that begins at i have come -/
def In (f : Nat → Nat) (i j k : Nat) : Prop := (tk f t0 (i + j)).c = k - j ∧ (j < k → (tk f t0 (i + j)).lo = lt_ (f i) j ∧ (tk f t0 (i + j)).hi = mt_ (f i) j)

theorem first_no (ha : al f t0 i = true) (hc : (tk f t0 i).c = 0) (h : nd (f i) = 0 ∨ 0 ≤ N ∧ N < (nd (f i) : Int) + i) : aw f N (i + 1) = false := by
  rw [aw]
  by_cases h0 : nd (f i) = 0
  · have : al f t0 (i + 1) = false := by
      rw [al_succ, ha]
      unfold ok
      rw [if_pos hc, h0]
      rfl
    rw [this]
    simp
  · have hr : ¬ (N < 0 ∨ ((tk f t0 (i + 1)).c : Int) + (i + 1) ≤ N) := by
      rw [tk_succ ha]
      unfold nx bh
      rw [if_pos hc]
      split
      · simp only [t0]; omega
      · dsimp only; omega
    rw [decide_eq_false hr]
    simp
theorem first_yes (hw : aw f N i = true) (hc : (tk f t0 i).c = 0) (h0 : nd (f i) ≠ 0) (h : N < 0 ∨ (nd (f i) : Int) + i ≤ N) : aw f N (i + 1) = true ∧ In f i 1 (nd (f i)) := by
  have ha := aw_al hw
  have ha1 : al f t0 (i + 1) = true := by
    rw [al_succ, ha]
    unfold ok
    rw [if_pos hc, decide_eq_true h0]
    rfl
  have ht : tk f t0 (i + 1) = bh (f i) := by
    rw [tk_succ ha]
    unfold nx
    rw [if_pos hc]
  have hd : (bh (f i)).c = nd (f i) - 1 ∧ (1 < nd (f i) → (bh (f i)).lo = lt_ (f i) 1 ∧ (bh (f i)).hi = mt_ (f i) 1) := by
    unfold bh
    split
    · exact ⟨by simp only [t0]; omega, fun h => by omega⟩
    · exact ⟨rfl, fun _ => ⟨rfl, rfl⟩⟩
  refine ⟨aw_mk hw ha1 ?_, ?_⟩
  · rw [ht, hd.1]; omega
  · unfold In
    rw [ht]
    exact hd
theorem next_no (ha : al f t0 (i + j) = true) (hi : In f i j k) (hj : j < k) (h : my (f i) j (f (i + j)) = false) : al f t0 (i + j + 1) = false := by
  obtain ⟨h1, h2⟩ := hi
  obtain ⟨h3, h4⟩ := h2 hj
  rw [al_succ, ha]
  unfold ok
  rw [if_neg (by omega), h3, h4]
  exact h
theorem next_yes (hw : aw f N (i + j) = true) (hi : In f i j k) (hj : j < k) (h1 : 1 ≤ j) (h : my (f i) j (f (i + j)) = true) : aw f N (i + j + 1) = true ∧ In f i (j + 1) k := by
  obtain ⟨e1, e2⟩ := hi
  obtain ⟨e3, e4⟩ := e2 hj
  have ha := aw_al hw
  have ha1 : al f t0 (i + j + 1) = true := by
    rw [al_succ, ha]
    unfold ok
    rw [if_neg (by omega), e3, e4]
    exact h
  refine ⟨aw_mk hw ha1 ?_, ?_⟩
  · have := due_step ha1 (by omega)
    have := aw_room hw (by omega)
    omega
  · unfold In
    rw [← Nat.add_assoc, tk_succ ha]
    unfold nx
    rw [if_neg (by omega), e3, e4, if_pos (of_decide_eq_true h), e1]
    refine ⟨by dsimp only; omega, fun _ => ⟨?_, ?_⟩⟩
    · unfold lt_; rw [if_neg (by omega)]
    · unfold mt_; rw [if_neg (by omega)]
theorem in_end (h : In f i k k) : (tk f t0 (i + k)).c = 0 := by rw [h.1]; omega
/-- the answers -/
theorem ans_no (hw : aw f N p = true) (h : aw f N (p + 1) = false) (hp : p < m) : spw f N m = p ∧ wE f N m = 4 :=
  ⟨spw_stop hw h (by omega), by unfold wE; rw [if_neg (by rw [aw_dead h (by omega)]; decide)]⟩
theorem ans_short (hw : aw f N m = true) (hi : (tk f t0 m).c ≠ 0) : spw f N m = m ∧ wE f N m = 3 :=
  ⟨spw_all hw, by unfold wE; rw [if_pos hw, if_pos (.inl hi)]⟩
theorem ans_less (hw : aw f N m = true) (hi : (m : Int) < N) : spw f N m = m ∧ wE f N m = 3 :=
  ⟨spw_all hw, by unfold wE; rw [if_pos hw, if_pos (.inr hi)]⟩
theorem ans_all (hw : aw f N m = true) (hi : (tk f t0 m).c = 0) (h : ¬ (m : Int) < N) : spw f N m = m ∧ wE f N m = 0 :=
  ⟨spw_all hw, by unfold wE; rw [if_pos hw, if_neg (by omega)]⟩
end
end Go.Proofs.Yteebokhpoppgeaa.nn
namespace Go.Proofs.Yteebokhpoppgeaa.nn
open Go.RowKit

set_option maxRecDepth 100000 in
theorem need_any (x : Nat) (w : World) (hx : x < 256) :
    Calls Try.prog 51 #[.int .u8 (x : Int)] w fun e w' => e = .returned (.int .i64 (nd x : Int)) ∧ w = w' := by
  rcases nd_cases x with ⟨h, e⟩ | ⟨h, h', e⟩ | ⟨h, h', e⟩ | ⟨h, h', e⟩ | ⟨h | h, e⟩
  all_goals
    rw [e]
    clear e
    go_enter Try.func51, Try.ntmps51
    go_wp2
    go_ret
    exact ⟨rfl, rfl⟩

theorem ret_yes {p : Prop} [Decidable p] (h : p) : Ending.returned (.bool (decide p)) = .returned (.bool true) := by rw [decide_eq_true h]
theorem ret_no {p : Prop} [Decidable p] (h : ¬ p) : Ending.returned (.bool (decide p)) = .returned (.bool false) := by rw [decide_eq_false h]
theorem my_mk {x j y L M : Nat} (hL : lt_ x j = L) (hM : mt_ x j = M) : my x j y = decide (L ≤ y ∧ y ≤ M) := by rw [← hL, ← hM]; rfl

set_option maxRecDepth 100000 in
set_option maxHeartbeats 1000000 in
theorem may_any (x j y : Nat) (w : World) (hx : x < 256) (hy : y < 256) (hj : j < 5) :
    Calls Try.prog 52 #[.int .u8 (x : Int), .int .i64 (j : Int), .int .u8 (y : Int)] w fun e w' => e = .returned (.bool (my x j y)) ∧ w = w' := by
  by_cases h1 : j = 1
  · subst h1
    have hl := lt_cases x
    have hm := mt_cases x
    by_cases a : x = 224 ∨ x = 237 ∨ x = 240 ∨ x = 244
    · clear hl hm
      rcases a with rfl | rfl | rfl | rfl
      · rw [my_mk (x := 224) (j := 1) (y := y) (L := 160) (M := 191) rfl rfl]
        by_cases b : 160 ≤ y
        · by_cases c : y ≤ 191
          · rw [decide_eq_true ⟨b, c⟩]
            go_enter Try.func52, Try.ntmps52
            go_wp2
            go_ret
            exact ⟨ret_yes (p := (y : Int) ≤ 191) (by omega), rfl⟩
          · rw [decide_eq_false (fun h => c h.2)]
            go_enter Try.func52, Try.ntmps52
            go_wp2
            go_ret
            exact ⟨ret_no (p := (y : Int) ≤ 191) (by omega), rfl⟩
        · rw [decide_eq_false (fun h => b h.1)]
          go_enter Try.func52, Try.ntmps52
          go_wp2
          go_ret
          exact ⟨rfl, rfl⟩
      · rw [my_mk (x := 237) (j := 1) (y := y) (L := 128) (M := 159) rfl rfl]
        by_cases b : 128 ≤ y
        · by_cases c : y ≤ 159
          · rw [decide_eq_true ⟨b, c⟩]
            go_enter Try.func52, Try.ntmps52
            go_wp2
            go_ret
            exact ⟨ret_yes (p := (y : Int) ≤ 159) (by omega), rfl⟩
          · rw [decide_eq_false (fun h => c h.2)]
            go_enter Try.func52, Try.ntmps52
            go_wp2
            go_ret
            exact ⟨ret_no (p := (y : Int) ≤ 159) (by omega), rfl⟩
        · rw [decide_eq_false (fun h => b h.1)]
          go_enter Try.func52, Try.ntmps52
          go_wp2
          go_ret
          exact ⟨rfl, rfl⟩
      · rw [my_mk (x := 240) (j := 1) (y := y) (L := 144) (M := 191) rfl rfl]
        by_cases b : 144 ≤ y
        · by_cases c : y ≤ 191
          · rw [decide_eq_true ⟨b, c⟩]
            go_enter Try.func52, Try.ntmps52
            go_wp2
            go_ret
            exact ⟨ret_yes (p := (y : Int) ≤ 191) (by omega), rfl⟩
          · rw [decide_eq_false (fun h => c h.2)]
            go_enter Try.func52, Try.ntmps52
            go_wp2
            go_ret
            exact ⟨ret_no (p := (y : Int) ≤ 191) (by omega), rfl⟩
        · rw [decide_eq_false (fun h => b h.1)]
          go_enter Try.func52, Try.ntmps52
          go_wp2
          go_ret
          exact ⟨rfl, rfl⟩
      · rw [my_mk (x := 244) (j := 1) (y := y) (L := 128) (M := 143) rfl rfl]
        by_cases b : 128 ≤ y
        · by_cases c : y ≤ 143
          · rw [decide_eq_true ⟨b, c⟩]
            go_enter Try.func52, Try.ntmps52
            go_wp2
            go_ret
            exact ⟨ret_yes (p := (y : Int) ≤ 143) (by omega), rfl⟩
          · rw [decide_eq_false (fun h => c h.2)]
            go_enter Try.func52, Try.ntmps52
            go_wp2
            go_ret
            exact ⟨ret_no (p := (y : Int) ≤ 143) (by omega), rfl⟩
        · rw [decide_eq_false (fun h => b h.1)]
          go_enter Try.func52, Try.ntmps52
          go_wp2
          go_ret
          exact ⟨rfl, rfl⟩
    · rw [my_mk (x := x) (j := 1) (y := y) (L := 128) (M := 191) (by omega) (by omega)]
      have a1 : ¬ x = 224 := fun h => a (.inl h)
      have a2 : ¬ x = 237 := fun h => a (.inr (.inl h))
      have a3 : ¬ x = 240 := fun h => a (.inr (.inr (.inl h)))
      have a4 : ¬ x = 244 := fun h => a (.inr (.inr (.inr h)))
      clear hl hm a
      by_cases b : 128 ≤ y
      · by_cases c : y ≤ 191
        · rw [decide_eq_true ⟨b, c⟩]
          go_enter Try.func52, Try.ntmps52
          go_wp2
          go_ret
          exact ⟨ret_yes (p := (y : Int) ≤ 191) (by omega), rfl⟩
        · rw [decide_eq_false (fun h => c h.2)]
          go_enter Try.func52, Try.ntmps52
          go_wp2
          go_ret
          exact ⟨ret_no (p := (y : Int) ≤ 191) (by omega), rfl⟩
      · rw [decide_eq_false (fun h => b h.1)]
        go_enter Try.func52, Try.ntmps52
        go_wp2
        go_ret
        exact ⟨rfl, rfl⟩
  · rw [my_mk (x := x) (j := j) (y := y) (L := 128) (M := 191) (by unfold lt_; rw [if_neg h1]) (by unfold mt_; rw [if_neg h1])]
    by_cases b : 128 ≤ y
    · by_cases c : y ≤ 191
      · rw [decide_eq_true ⟨b, c⟩]
        go_enter Try.func52, Try.ntmps52
        go_wp2
        go_ret
        exact ⟨ret_yes (p := (y : Int) ≤ 191) (by omega), rfl⟩
      · rw [decide_eq_false (fun h => c h.2)]
        go_enter Try.func52, Try.ntmps52
        go_wp2
        go_ret
        exact ⟨ret_no (p := (y : Int) ≤ 191) (by omega), rfl⟩
    · rw [decide_eq_false (fun h => b h.1)]
      go_enter Try.func52, Try.ntmps52
      go_wp2
      go_ret
      exact ⟨rfl, rfl⟩
end Go.Proofs.Yteebokhpoppgeaa.nn
namespace Go.Proofs.Yteebokhpoppgeaa.nn
open Go.RowKit Go.Great

def tlv (t : Tl) : Value := .agg #[.int .i64 (t.c : Int), .int .u8 (t.lo : Int), .int .u8 (t.hi : Int)]

def tab : Array Value := #[.int .u8 194, .int .u8 223, .int .i64 1, .int .u8 128, .int .u8 191, .int .u8 224, .int .u8 224, .int .i64 2, .int .u8 160, .int .u8 191,
  .int .u8 225, .int .u8 236, .int .i64 2, .int .u8 128, .int .u8 191, .int .u8 237, .int .u8 237, .int .i64 2, .int .u8 128, .int .u8 159,
  .int .u8 238, .int .u8 239, .int .i64 2, .int .u8 128, .int .u8 191, .int .u8 240, .int .u8 240, .int .i64 3, .int .u8 144, .int .u8 191,
  .int .u8 241, .int .u8 243, .int .i64 3, .int .u8 128, .int .u8 191, .int .u8 244, .int .u8 244, .int .i64 3, .int .u8 128, .int .u8 143]
/-- row k of the table -/
def bfr : Nat → Nat | 0 => 194 | 1 => 224 | 2 => 225 | 3 => 237 | 4 => 238 | 5 => 240 | 6 => 241 | _ => 244
def to_ : Nat → Nat | 0 => 223 | 1 => 224 | 2 => 236 | 3 => 237 | 4 => 239 | 5 => 240 | 6 => 243 | _ => 244
def tc : Nat → Nat | 0 => 1 | 1 => 2 | 2 => 2 | 3 => 2 | 4 => 2 | _ => 3
def tl : Nat → Nat | 1 => 160 | 5 => 144 | _ => 128
def th : Nat → Nat | 3 => 159 | 7 => 143 | _ => 191

def zer : Array Value := #[.int .u8 0, .int .u8 0, .int .i64 0, .int .u8 0, .int .u8 0, .int .u8 0, .int .u8 0, .int .i64 0, .int .u8 0, .int .u8 0,
  .int .u8 0, .int .u8 0, .int .i64 0, .int .u8 0, .int .u8 0, .int .u8 0, .int .u8 0, .int .i64 0, .int .u8 0, .int .u8 0,
  .int .u8 0, .int .u8 0, .int .i64 0, .int .u8 0, .int .u8 0, .int .u8 0, .int .u8 0, .int .i64 0, .int .u8 0, .int .u8 0,
  .int .u8 0, .int .u8 0, .int .i64 0, .int .u8 0, .int .u8 0, .int .u8 0, .int .u8 0, .int .i64 0, .int .u8 0, .int .u8 0]
theorem bhsz (w : World) (o : Obj) : (w.alloc o).heap.size = w.heap.size + 1 := by simp
theorem last2 (w : World) (o o' : Obj) : ((w.alloc o).alloc o').heap[w.heap.size + 1]? = some o' := by
  have := heap_alloc_last (w.alloc o) o'
  simpa using this
theorem setRow2 (w : World) (o : Obj) (c c' : Array Value) (t : TypeId) : ((w.alloc o).alloc (.cells c t)).setRow (w.heap.size + 1) c' = (w.alloc o).alloc (.cells c' t) := by
  have := World.setRow_alloc_new (w.alloc o) c c' t
  simpa using this
set_option maxRecDepth 100000 in
theorem ix (k : Nat) (h : k < 8) (w : World) : (Instr.index 108 (.agg tab) (.int .i64 (k : Int))).run Try.prog w = .ok (.agg #[.int .u8 (bfr k : Int), .int .u8 (to_ k : Int), .int .i64 (tc k : Int), .int .u8 (tl k : Int), .int .u8 (th k : Int)]) w := by
  match k, h with
  | 0, _ => exact (by kernel_rfl : (Instr.index 108 (.agg tab) (.int .i64 0)).run Try.prog w = .ok (.agg #[.int .u8 194, .int .u8 223, .int .i64 1, .int .u8 128, .int .u8 191]) w)
  | 1, _ => exact (by kernel_rfl : (Instr.index 108 (.agg tab) (.int .i64 1)).run Try.prog w = .ok (.agg #[.int .u8 224, .int .u8 224, .int .i64 2, .int .u8 160, .int .u8 191]) w)
  | 2, _ => exact (by kernel_rfl : (Instr.index 108 (.agg tab) (.int .i64 2)).run Try.prog w = .ok (.agg #[.int .u8 225, .int .u8 236, .int .i64 2, .int .u8 128, .int .u8 191]) w)
  | 3, _ => exact (by kernel_rfl : (Instr.index 108 (.agg tab) (.int .i64 3)).run Try.prog w = .ok (.agg #[.int .u8 237, .int .u8 237, .int .i64 2, .int .u8 128, .int .u8 159]) w)
  | 4, _ => exact (by kernel_rfl : (Instr.index 108 (.agg tab) (.int .i64 4)).run Try.prog w = .ok (.agg #[.int .u8 238, .int .u8 239, .int .i64 2, .int .u8 128, .int .u8 191]) w)
  | 5, _ => exact (by kernel_rfl : (Instr.index 108 (.agg tab) (.int .i64 5)).run Try.prog w = .ok (.agg #[.int .u8 240, .int .u8 240, .int .i64 3, .int .u8 144, .int .u8 191]) w)
  | 6, _ => exact (by kernel_rfl : (Instr.index 108 (.agg tab) (.int .i64 6)).run Try.prog w = .ok (.agg #[.int .u8 241, .int .u8 243, .int .i64 3, .int .u8 128, .int .u8 191]) w)
  | 7, _ => exact (by kernel_rfl : (Instr.index 108 (.agg tab) (.int .i64 7)).run Try.prog w = .ok (.agg #[.int .u8 244, .int .u8 244, .int .i64 3, .int .u8 128, .int .u8 143]) w)
theorem row_le (k : Nat) : bfr k < 256 ∧ to_ k < 256 ∧ tc k < 4 ∧ tl k < 256 ∧ th k < 256 := by
  refine ⟨?_, ?_, ?_, ?_, ?_⟩
  · unfold bfr; split <;> omega
  · unfold to_; split <;> omega
  · unfold tc; split <;> omega
  · unfold tl; split <;> omega
  · unfold th; split <;> omega
/-- the row that holds x tells its tail -/
theorem row_yes {k x : Nat} (hk : k < 8) (h1 : bfr k ≤ x) (h2 : x ≤ to_ k) : bh x = ⟨tc k, tl k, th k⟩ ∧ nd x ≠ 0 := by
  match k, hk with
  | 0, _ | 1, _ | 2, _ | 3, _ | 4, _ | 5, _ | 6, _ | 7, _ =>
    simp only [bfr, to_] at h1 h2
    have a := nd_cases x
    have b := lt_cases x
    have c := mt_cases x
    unfold bh
    rw [if_neg (by omega), Tl.mk.injEq]
    simp only [tc, tl, th]
    omega
theorem row_no {x : Nat} (hx : 127 < x) (h : ∀ k, k < 8 → ¬ (bfr k ≤ x ∧ x ≤ to_ k)) : bh x = t0 ∧ nd x = 0 := by
  have h0 := h 0 (by omega)
  have h1 := h 1 (by omega)
  have h2 := h 2 (by omega)
  have h3 := h 3 (by omega)
  have h4 := h 4 (by omega)
  have h5 := h 5 (by omega)
  have h6 := h 6 (by omega)
  have h7 := h 7 (by omega)
  simp only [bfr, to_] at h0 h1 h2 h3 h4 h5 h6 h7
  have a := nd_cases x
  have e : nd x = 0 := by omega
  exact ⟨by unfold bh; rw [if_pos (by omega)], e⟩

set_option maxHeartbeats 400000 in
theorem behind_low (x : Nat) (w : World) (hx : x < 128) :
    Calls Try.prog 65 #[.int .u8 x] w fun e w' => e = .returned (.tuple #[tlv t0, .bool true]) ∧ Below w.heap.size w w' := by
  go_enter Try.func65, Try.ntmps65
  go_wp2
  refine bodyPost_ret (v := .tuple #[tlv t0, .bool true]) (by simp [results, Try.results65, go_sem, tlv, t0]) rfl ⟨rfl, ?_⟩
  exact (Below.refl _ _).alloc (Nat.le_refl _) _

set_option maxRecDepth 100000 in
set_option maxHeartbeats 1000000 in
theorem behind_high (x : Nat) (w : World) (hx : x < 256) (hx' : 127 < x) :
    Calls Try.prog 65 #[.int .u8 x] w fun e w' => e = .returned (.tuple #[tlv (bh x), .bool (decide (nd x ≠ 0))]) ∧ Below w.heap.size w w' := by
  go_enter Try.func65, Try.ntmps65
  go_upto_region 3 with fail
  go_cut [4] from 10 to 26 (fun s4 wx => s4 = .pointer (some ⟨w.heap.size + 1, 0, none⟩) ∧ wx = (w.alloc (.cells #[.int .i64 0, .int .u8 0, .int .u8 0] 89)).alloc (.cells tab 108))
  case first =>
    apply wp_region_lit
    refine wpList_buildTo rfl 89 _ rfl (some 10) rfl #[.int .i64 1, .int .u8 128, .int .u8 191] (by kernel_rfl) ?_
    refine wpList_buildTo rfl 107 _ rfl (some 11) rfl #[.int .u8 194, .int .u8 223, .int .i64 1, .int .u8 128, .int .u8 191] (by kernel_rfl) ?_
    refine wpList_buildTo rfl 89 _ rfl (some 12) rfl #[.int .i64 2, .int .u8 160, .int .u8 191] (by kernel_rfl) ?_
    refine wpList_buildTo rfl 107 _ rfl (some 13) rfl #[.int .u8 224, .int .u8 224, .int .i64 2, .int .u8 160, .int .u8 191] (by kernel_rfl) ?_
    refine wpList_buildTo rfl 89 _ rfl (some 14) rfl #[.int .i64 2, .int .u8 128, .int .u8 191] (by kernel_rfl) ?_
    refine wpList_buildTo rfl 107 _ rfl (some 15) rfl #[.int .u8 225, .int .u8 236, .int .i64 2, .int .u8 128, .int .u8 191] (by kernel_rfl) ?_
    refine wpList_buildTo rfl 89 _ rfl (some 16) rfl #[.int .i64 2, .int .u8 128, .int .u8 159] (by kernel_rfl) ?_
    refine wpList_buildTo rfl 107 _ rfl (some 17) rfl #[.int .u8 237, .int .u8 237, .int .i64 2, .int .u8 128, .int .u8 159] (by kernel_rfl) ?_
    refine wpList_buildTo rfl 89 _ rfl (some 18) rfl #[.int .i64 2, .int .u8 128, .int .u8 191] (by kernel_rfl) ?_
    refine wpList_buildTo rfl 107 _ rfl (some 19) rfl #[.int .u8 238, .int .u8 239, .int .i64 2, .int .u8 128, .int .u8 191] (by kernel_rfl) ?_
    refine wpList_buildTo rfl 89 _ rfl (some 20) rfl #[.int .i64 3, .int .u8 144, .int .u8 191] (by kernel_rfl) ?_
    refine wpList_buildTo rfl 107 _ rfl (some 21) rfl #[.int .u8 240, .int .u8 240, .int .i64 3, .int .u8 144, .int .u8 191] (by kernel_rfl) ?_
    refine wpList_buildTo rfl 89 _ rfl (some 22) rfl #[.int .i64 3, .int .u8 128, .int .u8 191] (by kernel_rfl) ?_
    refine wpList_buildTo rfl 107 _ rfl (some 23) rfl #[.int .u8 241, .int .u8 243, .int .i64 3, .int .u8 128, .int .u8 191] (by kernel_rfl) ?_
    refine wpList_buildTo rfl 89 _ rfl (some 24) rfl #[.int .i64 3, .int .u8 128, .int .u8 143] (by kernel_rfl) ?_
    refine wpList_buildTo rfl 107 _ rfl (some 25) rfl #[.int .u8 244, .int .u8 244, .int .i64 3, .int .u8 128, .int .u8 143] (by kernel_rfl) ?_
    refine wpList_buildTo rfl 108 _ rfl (some 26) rfl tab (by kernel_rfl) ?_
    refine wpList_allocTo rfl (some 4) rfl (.pointer (some ⟨(w.alloc (.cells #[.int .i64 0, .int .u8 0, .int .u8 0] 89)).heap.size, 0, none⟩)) (.cells zer 108) (by kernel_rfl) ?_
    rw [bhsz]
    refine wpList_store_rowTo rfl 108 _ _ rfl rfl (w.heap.size + 1) tab (by kernel_rfl) (by kernel_rfl) 108 zer (last2 _ _ _) (by kernel_rfl) (by kernel_rfl) (by kernel_rfl) ?_
    rw [setRow2]
    refine wpList_frame (a' := { tmps := #[(.int .u8 (x : Int)), undef, (.pointer (some ⟨w.heap.size, 0, none⟩)), (.bool false), (.pointer (some ⟨w.heap.size + 1, 0, none⟩)), undef, undef, (.int .u8 (x : Int)), (.bool (decide ((x : Int) ≤ 127))), undef, (.agg #[.int .i64 1, .int .u8 128, .int .u8 191]), (.agg #[.int .u8 194, .int .u8 223, .int .i64 1, .int .u8 128, .int .u8 191]), (.agg #[.int .i64 2, .int .u8 160, .int .u8 191]), (.agg #[.int .u8 224, .int .u8 224, .int .i64 2, .int .u8 160, .int .u8 191]), (.agg #[.int .i64 2, .int .u8 128, .int .u8 191]), (.agg #[.int .u8 225, .int .u8 236, .int .i64 2, .int .u8 128, .int .u8 191]), (.agg #[.int .i64 2, .int .u8 128, .int .u8 159]), (.agg #[.int .u8 237, .int .u8 237, .int .i64 2, .int .u8 128, .int .u8 159]), (.agg #[.int .i64 2, .int .u8 128, .int .u8 191]), (.agg #[.int .u8 238, .int .u8 239, .int .i64 2, .int .u8 128, .int .u8 191]), (.agg #[.int .i64 3, .int .u8 144, .int .u8 191]), (.agg #[.int .u8 240, .int .u8 240, .int .i64 3, .int .u8 144, .int .u8 191]), (.agg #[.int .i64 3, .int .u8 128, .int .u8 191]), (.agg #[.int .u8 241, .int .u8 243, .int .i64 3, .int .u8 128, .int .u8 191]), (.agg #[.int .i64 3, .int .u8 128, .int .u8 143]), (.agg #[.int .u8 244, .int .u8 244, .int .i64 3, .int .u8 128, .int .u8 143]), (.agg tab), undef, undef, undef, undef, undef, undef, undef, undef, undef, undef, undef, undef, undef, undef, undef, undef, undef, undef], defers := [] }) (by kernel_rfl) ?_
    refine wpList_nil ?_
    rename_i hJ hK
    exact hK _ _ (Met.intro (hJ _ _ ⟨_, _, _, _, _, _, _, _, _, _, _, _, _, _, _, _, _, _, ⟨rfl, rfl⟩, rfl⟩))
  case rest =>
    obtain ⟨rfl, rfl⟩ := hcut
    go_upto_region 4 with fail
    apply wp_region_lit
    refine wpList_load_row rfl 108 (.tmp 4) rfl (w.heap.size + 1) rfl _ tab (0, 0) _ (last2 _ _ _) Try.underlying108 rfl (by kernel_rfl) ?_
    go_wp2
    go_loopw [28] (fun s28 wr => ∃ k : Nat, k ≤ 8 ∧ s28 = .int .i64 (k : Int) ∧ Hid (∀ j, j < k → ¬ (bfr j ≤ x ∧ x ≤ to_ j)) ∧ Below w.heap.size w wr ∧ w.heap.size < wr.heap.size ∧ wr.heap[w.heap.size]? = some (.cells #[.int .i64 0, .int .u8 0, .int .u8 0] 89 (0, 0))) (fun s28 _ => (8 - intOf s28).toNat)
    case atStart => exact ⟨0, by omega, rfl, Lib.hid (fun j hj => absurd hj (by omega)), ((Below.refl _ _).alloc (Nat.le_refl _) _).alloc (by rw [bhsz]; omega) _, by rw [bhsz, bhsz]; omega, (Below.heap_alloc _ _ _ (by rw [bhsz]; omega)).trans (heap_alloc_last _ _)⟩
    case round =>
      obtain ⟨k, hk, rfl, hno, hb, hs, hblk⟩ := hrel
      have c0 : wr.cell? ⟨w.heap.size, 0, none⟩ = some (.int .i64 0) := cell_of_row _ _ 0 _ _ _ hblk
      have c1 : wr.cell? ⟨w.heap.size, 1, none⟩ = some (.int .u8 0) := cell_of_row _ _ 1 _ _ _ hblk
      have c2 : wr.cell? ⟨w.heap.size, 2, none⟩ = some (.int .u8 0) := cell_of_row _ _ 2 _ _ _ hblk
      have f0 : ∀ i, wr.frozen? ⟨w.heap.size, i, none⟩ = false := fun i => by simp [World.frozen?, hblk]
      have hlt : ∀ o, w.heap.size < (wr.alloc o).heap.size := fun o => by rw [bhsz]; omega
      by_cases hk8 : k < 8
      · have hix := ix k hk8
        have hr := row_le k
        by_cases hy : bfr k ≤ x ∧ x ≤ to_ k
        · have HE := Lib.hid (row_yes hk8 hy.1 hy.2)
          obtain ⟨hl, hh⟩ := hy
          go_wp2_with fail
          refine bodyPost_ret (v := .tuple #[.agg #[.int .i64 (tc k : Int), .int .u8 (tl k : Int), .int .u8 (th k : Int)], .bool true]) (by
            have hne : ¬ w.heap.size = wr.heap.size := by omega
            simp [results, Try.results65, go_sem, World.cell?, World.setCell, World.alloc, Array.getElem?_push, Array.getElem?_modify, hblk, hne]) rfl ⟨?_, ?_⟩
          · rw [HE.out.1]
            simp [tlv, HE.out.2]
          · exact (((hb.setCell (Nat.le_refl _) _).setCell (Nat.le_refl _) _).setCell (Nat.le_refl _) _).alloc (by simp [World.setCell]; omega) _
        · have HN := Lib.hid (fun j (hj : j < k + 1) => show ¬ (bfr j ≤ x ∧ x ≤ to_ j) from by
            by_cases e : j = k
            · subst e; exact hy
            · exact hno.out j (by omega))
          by_cases hl : bfr k ≤ x
          · have hh : ¬ x ≤ to_ k := fun h => hy ⟨hl, h⟩
            clear hy
            go_wp2_with fail
            go_roundw
            case rel => exact ⟨k + 1, by omega, by go_num, HN, hb.alloc (Nat.le_of_lt hs) _, hlt _, (Below.heap_alloc _ _ _ hs).trans hblk⟩
            case measure => simp [intOf]; omega
          · clear hy
            go_wp2_with fail
            go_roundw
            case rel => exact ⟨k + 1, by omega, by go_num, HN, hb.alloc (Nat.le_of_lt hs) _, hlt _, (Below.heap_alloc _ _ _ hs).trans hblk⟩
            case measure => simp [intOf]; omega
      · obtain rfl : k = 8 := by omega
        have HE := Lib.hid (row_no hx' hno.out)
        clear hno
        go_wp2_with fail
        refine bodyPost_ret (v := .tuple #[tlv t0, .bool false]) (by simp [results, Try.results65, go_sem, tlv, t0, World.cell?, World.setCell, Array.getElem?_modify, hblk]) rfl ⟨?_, ?_⟩
        · rw [HE.out.1]
          simp [HE.out.2]
        · exact ((hb.setCell (Nat.le_refl _) _).setCell (Nat.le_refl _) _).setCell (Nat.le_refl _) _

theorem behind_any (x : Nat) (w : World) (hx : x < 256) :
    Calls Try.prog 65 #[.int .u8 x] w fun e w' => e = .returned (.tuple #[tlv (bh x), .bool (decide (nd x ≠ 0))]) ∧ Below w.heap.size w w' := by
  by_cases h : 127 < x
  · exact behind_high x w hx h
  · have e : nd x = 1 := by unfold nd; rw [if_pos (by omega)]
    have e2 : bh x = t0 := by unfold bh; rw [if_pos (by omega)]
    rw [e, e2]
    exact behind_low x w (by omega)
end Go.Proofs.Yteebokhpoppgeaa.nn
namespace Go.Proofs.Yteebokhpoppgeaa.nn
open Go.RowKit

/-- block g is just pre and, behind it, what is due -/
def tcs (pre : List Value) (t : Tl) : Array Value := (pre ++ ([Value.int .i64 (t.c : Int), Value.int .u8 (t.lo : Int), Value.int .u8 (t.hi : Int)] : List Value)).toArray
def Sc (w : World) (g : Nat) (e : TypeId) (pre : List Value) (t : Tl) : Prop := w.heap[g]? = some (.cells (tcs pre t) e (0, 0))

section
variable {w w' : World} {g : Nat} {e : TypeId} {pre : List Value} {t t' : Tl} {off : Nat}
theorem tcs_0 : (tcs pre t)[pre.length]? = some (.int .i64 (t.c : Int)) := by simp [tcs]
theorem tcs_1 : (tcs pre t)[pre.length + 1]? = some (.int .u8 (t.lo : Int)) := by simp [tcs]
theorem tcs_2 : (tcs pre t)[pre.length + 2]? = some (.int .u8 (t.hi : Int)) := by simp [tcs]
theorem Sc.lt (h : Sc w g e pre t) : g < w.heap.size := (Array.getElem?_eq_some_iff.1 h).1
theorem Sc.cell (h : Sc w g e pre t) (i : Nat) : w.cell? ⟨g, i, none⟩ = (tcs pre t)[i]? := cell_of_row w g i (tcs pre t) e (0, 0) h
theorem Sc.c0 (h : Sc w g e pre t) (ho : pre.length = off) : w.cell? ⟨g, off, none⟩ = some (.int .i64 (t.c : Int)) := by subst ho; rw [h.cell, tcs_0]
theorem Sc.c1 (h : Sc w g e pre t) (ho : pre.length = off) : w.cell? ⟨g, off + 1, none⟩ = some (.int .u8 (t.lo : Int)) := by subst ho; rw [h.cell, tcs_1]
theorem Sc.c2 (h : Sc w g e pre t) (ho : pre.length = off) : w.cell? ⟨g, off + 2, none⟩ = some (.int .u8 (t.hi : Int)) := by subst ho; rw [h.cell, tcs_2]
theorem Sc.frozen (h : Sc w g e pre t) (i : Nat) : w.frozen? ⟨g, i, none⟩ = false := by
  unfold Sc at h
  simp [World.frozen?, h]
theorem Sc.below {B : Nat} (h : Sc w g e pre t) (hb : Below B w w') (hg : g < B) : Sc w' g e pre t := (hb.block g hg).trans h
theorem Sc.alloc (h : Sc w g e pre t) (o : Obj) : Sc (w.alloc o) g e pre t := (Below.heap_alloc _ _ _ h.lt).trans h
theorem Sc.set3 (h : Sc w g e pre t) (ho : pre.length = off) (c lo hi : Nat) : Sc (((w.setCell ⟨g, off, none⟩ (.int .i64 (c : Int))).setCell ⟨g, off + 1, none⟩ (.int .u8 (lo : Int))).setCell ⟨g, off + 2, none⟩ (.int .u8 (hi : Int))) g e pre ⟨c, lo, hi⟩ := by
  subst ho
  unfold Sc at h ⊢
  simp only [World.setCell, Array.getElem?_modify, h, if_true, Option.map_some, Option.isSome_none, Bool.false_eq_true, if_false]
  congr 2
  apply Array.ext_getElem?
  intro i
  simp only [tcs, Array.getElem?_setIfInBounds, List.getElem?_toArray, List.size_toArray, Array.size_setIfInBounds, List.length_append, List.length_cons, List.length_nil]
  by_cases h0 : i < pre.length
  · rw [if_neg (by omega), if_neg (by omega), if_neg (by omega), List.getElem?_append_left h0, List.getElem?_append_left h0]
  · obtain ⟨j, rfl⟩ : ∃ j, i = pre.length + j := ⟨i - pre.length, by omega⟩
    match j with
    | 0 | 1 | 2 => simp
    | j + 3 => simp
theorem Sc.set3n (h : Sc w g e pre t) (ho : pre.length = off) (c : Nat) : Sc (((w.setCell ⟨g, off, none⟩ (.int .i64 (c : Int))).setCell ⟨g, off + 1, none⟩ (.int .u8 128)).setCell ⟨g, off + 2, none⟩ (.int .u8 191)) g e pre ⟨c, 128, 191⟩ := h.set3 ho c 128 191
theorem below_set3 {B : Nat} (h : Below B w w') (hg : B ≤ g) (a b c : Nat) (u v x : Value) : Below B w (((w'.setCell ⟨g, a, none⟩ u).setCell ⟨g, b, none⟩ v).setCell ⟨g, c, none⟩ x) :=
  ((h.setCell hg u).setCell hg v).setCell hg x
end

theorem behind_bd (x : Nat) : (bh x).c < 4 ∧ (bh x).lo < 256 ∧ (bh x).hi < 256 := by
  have a := nd_cases x
  have b := lt_cases x
  have c := mt_cases x
  unfold bh
  split
  · exact ⟨by decide, by decide, by decide⟩
  · exact ⟨by dsimp only; omega, by dsimp only; omega, by dsimp only; omega⟩

set_option maxRecDepth 100000 in
set_option maxHeartbeats 1000000 in
theorem take_first (t : Tl) (g off : Nat) (e : TypeId) (pre : List Value) (x : Nat) (w : World) (h : Sc w g e pre t) (ho : pre.length = off) (hz : t.c = 0) (c lo hi : Nat) (b : Bool) (_ : c < 4) (_ : lo < 256) (_ : hi < 256)
    (hB : Hid (Calls Try.prog 65 #[.int .u8 (x : Int)] w fun e w' => e = .returned (.tuple #[.agg #[.int .i64 (c : Int), .int .u8 (lo : Int), .int .u8 (hi : Int)], .bool b]) ∧ Below w.heap.size w w')) :
    Calls Try.prog 61 #[.pointer (some ⟨g, off, none⟩), .int .u8 (x : Int)] w fun r w' => r = .returned (.bool b) ∧ Below g w w' ∧ Sc w' g e pre ⟨c, lo, hi⟩ := by
  have c0 := h.c0 ho
  have hlt := h.lt
  rw [hz] at c0
  have hz' := Lib.hid hz
  have ho' := Lib.hid ho
  have h' := Lib.hid h
  clear hz ho h
  go_enter Try.func61, Try.ntmps61
  go_wp2_with fail
  refine hB.out.mono ?_
  rintro r w1 ⟨rfl, hb⟩
  have hs := h'.out.below hb hlt
  have hb1 := (Below.refl g w).trans (hb.mono (Nat.le_of_lt hlt))
  have hlt1 := hs.lt
  have f1 := hs.frozen
  have d0 := hs.c0 ho'.out
  have d1 := hs.c1 ho'.out
  have d2 := hs.c2 ho'.out
  have hs' := Lib.hid hs
  clear hs
  go_wp2_with fail
  go_ret
  exact ⟨rfl, (below_set3 hb1 (Nat.le_refl g) _ _ _ _ _ _).alloc (by simp [World.setCell]; omega) _, (hs'.out.set3 ho'.out c lo hi).alloc _⟩

set_option maxRecDepth 100000 in
set_option maxHeartbeats 1000000 in
theorem take_next (t : Tl) (g off : Nat) (e : TypeId) (pre : List Value) (x : Nat) (w : World) (h : Sc w g e pre t) (ho : pre.length = off) (_ : x < 256) (hz : t.c ≠ 0) (hc : t.c < 4) :
    Calls Try.prog 61 #[.pointer (some ⟨g, off, none⟩), .int .u8 (x : Int)] w fun r w' => r = .returned (.bool (ok t x)) ∧ Below g w w' ∧ Sc w' g e pre (nx t x) := by
  have e1 : ok t x = decide (t.lo ≤ x ∧ x ≤ t.hi) := by unfold ok; rw [if_neg hz]
  have e2 : nx t x = if t.lo ≤ x ∧ x ≤ t.hi then ⟨t.c - 1, 128, 191⟩ else t := by unfold nx; rw [if_neg hz]
  rw [e1, e2]
  clear e1 e2
  obtain ⟨c, lo, hi⟩ := t
  dsimp only at *
  have c0 := h.c0 ho
  have c1 := h.c1 ho
  have c2 := h.c2 ho
  have f0 := h.frozen
  have hlt := h.lt
  have ho' := Lib.hid ho
  have h' := Lib.hid h
  clear ho h
  obtain ⟨c', rfl⟩ : ∃ c', c = c' + 1 := ⟨c - 1, by omega⟩
  by_cases hy : lo ≤ x ∧ x ≤ hi
  · rw [if_pos hy, decide_eq_true hy]
    obtain ⟨hl, hh⟩ := hy
    go_enter Try.func61, Try.ntmps61
    go_wp2_with fail
    go_ret
    exact ⟨rfl, below_set3 (Below.refl g w) (Nat.le_refl g) _ _ _ _ _ _, h'.out.set3n ho'.out c'⟩
  · rw [if_neg hy, decide_eq_false hy]
    by_cases hl : lo ≤ x
    · have hh : ¬ x ≤ hi := fun h => hy ⟨hl, h⟩
      clear hy
      go_enter Try.func61, Try.ntmps61
      go_wp2_with fail
      go_ret
      exact ⟨rfl, Below.refl _ _, h'.out⟩
    · clear hy
      go_enter Try.func61, Try.ntmps61
      go_wp2_with fail
      go_ret
      exact ⟨rfl, Below.refl _ _, h'.out⟩

theorem take_any (t : Tl) (g off : Nat) (e : TypeId) (pre : List Value) (x : Nat) (w : World) (h : Sc w g e pre t) (ho : pre.length = off) (hx : x < 256) (hc : t.c < 4) :
    Calls Try.prog 61 #[.pointer (some ⟨g, off, none⟩), .int .u8 (x : Int)] w fun r w' => r = .returned (.bool (ok t x)) ∧ Below g w w' ∧ Sc w' g e pre (nx t x) := by
  by_cases hz : t.c = 0
  · have e1 : ok t x = decide (nd x ≠ 0) := by unfold ok; rw [if_pos hz]
    have e2 : nx t x = bh x := by unfold nx; rw [if_pos hz]
    rw [e1, e2]
    have hb := behind_bd x
    exact take_first t g off e pre x w h ho hz _ _ _ _ hb.1 hb.2.1 hb.2.2 (Lib.hid (behind_any x w hx))
  · exact take_next t g off e pre x w h ho hx hz hc
end Go.Proofs.Yteebokhpoppgeaa.nn
namespace Go.Proofs.Yteebokhpoppgeaa.nn
open Go.RowKit

theorem ret_n {k : IntKind} {a b : Nat} (h : a = b) : Ending.returned (.int k (a : Int)) = .returned (.int k (b : Int)) := by rw [h]
/-- behind a refused byte the state stays -/
theorem tk_dead {f : Nat → Nat} {t : Tl} {m n : Nat} (h : al f t m = false) (hm : m ≤ n) : tk f t n = tk f t m := by
  induction n with
  | zero => obtain rfl : m = 0 := by omega
            rfl
  | succ n ih =>
    by_cases e : m = n + 1
    · subst e; rfl
    · have hn := dead h (show m ≤ n by omega)
      rw [← ih (by omega)]
      unfold al at hn
      unfold tk
      rw [go, if_neg (by rw [hn]; decide)]

set_option maxRecDepth 100000 in
set_option maxHeartbeats 1000000 in
theorem takeS_any (s : ByteArray) (t : Tl) (g off : Nat) (e : TypeId) (pre : List Value) (w : World) (h : Sc w g e pre t) (ho : pre.length = off) (ht : Gd t) (hs : s.size ≤ maxLen) :
    Calls Try.prog 58 #[.pointer (some ⟨g, off, none⟩), .string s] w fun r w' => r = .returned (.int .i64 (sp (bt s) t s.size : Int)) ∧ Below g w w' ∧ Sc w' g e pre (tk (bt s) t s.size) := by
  unfold maxLen at hs
  have ho' := Lib.hid ho
  have h' := Lib.hid h
  clear ho h
  go_enter Try.func58, Try.ntmps58
  go_wp2
  go_loopw [8] (fun s8 wr => ∃ k : Nat, k ≤ s.size ∧ s8 = .int .i64 (k : Int) ∧ Hid (al (bt s) t k = true) ∧ Hid (Below g w wr) ∧ Hid (Sc wr g e pre (tk (bt s) t k))) (fun s8 _ => s.size - (intOf s8).toNat)
  case atStart => exact ⟨0, Nat.zero_le _, rfl, Lib.hid rfl, Lib.hid (Below.refl _ _), h'⟩
  case round =>
    obtain ⟨k, hk, rfl, hal, hb, hsc⟩ := hrel
    by_cases hlt : k < s.size
    · have hC := take_any (tk (bt s) t k) g off e pre (bt s k) wr hsc.out ho'.out (bt_lt s k) (gd_lt (gd_go ht k))
      rw [bt_at hlt] at hC
      have hok := bt_at hlt
      by_cases hy : ok (tk (bt s) t k) (bt s k) = true
      · rw [← hok, hy, hok] at hC
        have hal' : Hid (al (bt s) t (k + 1) = true) := Lib.hid (by rw [al_succ, hal.out, hy]; rfl)
        have htk : Hid (tk (bt s) t (k + 1) = nx (tk (bt s) t k) s[k].toNat) := Lib.hid (by rw [tk_succ hal.out, hok])
        have HC := Lib.hid hC
        clear hC hy hok
        go_wp2_with fail
        refine HC.out.mono ?_
        rintro r w1 ⟨rfl, hb1, hs1⟩
        have hb2 := Lib.hid (hb.out.trans hb1)
        have hs2 : Hid (Sc w1 g e pre (tk (bt s) t (k + 1))) := Lib.hid (by rw [htk.out]; exact hs1)
        clear hb1 hs1
        go_wp2_with fail
        go_roundw
        case rel => exact ⟨k + 1, by omega, by go_num, hal', hb2, hs2⟩
        case measure => simp [intOf]; omega
      · have hy' : ok (tk (bt s) t k) (bt s k) = false := by simpa using hy
        rw [← hok, hy', hok] at hC
        have hal' : al (bt s) t (k + 1) = false := by rw [al_succ, hal.out, hy']; rfl
        have hE : Hid (sp (bt s) t s.size = k) := Lib.hid (sp_stop hal.out hal' (by omega))
        have htk : Hid (tk (bt s) t s.size = nx (tk (bt s) t k) s[k].toNat) := Lib.hid (by rw [tk_dead hal' (by omega), tk_succ hal.out, hok])
        have HC := Lib.hid hC
        clear hC hy hok hy' hal'
        go_wp2_with fail
        refine HC.out.mono ?_
        rintro r w1 ⟨rfl, hb1, hs1⟩
        have hb2 := Lib.hid (hb.out.trans hb1)
        have hs2 : Hid (Sc w1 g e pre (tk (bt s) t s.size)) := Lib.hid (by rw [htk.out]; exact hs1)
        clear hb1 hs1
        go_wp2_with fail
        go_ret
        exact ⟨ret_n hE.out.symm, hb2.out, hs2.out⟩
    · obtain rfl : k = s.size := by omega
      have hE : Hid (sp (bt s) t s.size = s.size) := Lib.hid (sp_all hal.out)
      go_wp2_with fail
      go_ret
      exact ⟨ret_n hE.out.symm, hb.out, hsc.out⟩
end Go.Proofs.Yteebokhpoppgeaa.nn
namespace Go.Proofs.Yteebokhpoppgeaa.nn
open Go.RowKit

theorem drew_below {B : Nat} {a w : World} (h : Below B a w) (j : Nat) : Below B a (w.drewN j) := ⟨h.os, h.tape, h.output, h.size, h.block⟩
theorem ret_two {a b c d : Nat} (h1 : a = b) (h2 : c = d) : Ending.returned (.tuple #[.int .i64 (a : Int), .int .i64 (c : Int)]) = .returned (.tuple #[.int .i64 (b : Int), .int .i64 (d : Int)]) := by rw [h1, h2]
theorem nd_lt (x : Nat) : nd x < 5 := by have := nd_cases x; omega

set_option maxRecDepth 100000 in
set_option maxHeartbeats 1000000 in
theorem rwithin_any (s : ByteArray) (n : Int) (w : World) (hs : s.size ≤ maxLen) (hn : -1 ≤ n) (hn' : n ≤ maxLen) :
    Calls Try.prog 44 #[.string s, .int .i64 n] w fun r w' => r = .returned (.tuple #[.int .i64 (spw (bt s) n s.size : Int), .int .i64 (wE (bt s) n s.size : Int)]) ∧ Below w.heap.size w w' := by
  unfold maxLen at hs hn'
  go_enter Try.func44, Try.ntmps44
  go_wp2
  go_loopw [6] (fun s6 wr => ∃ i : Nat, i ≤ s.size ∧ s6 = .int .i64 (i : Int) ∧ Hid (aw (bt s) n i = true) ∧ Hid ((tk (bt s) t0 i).c = 0) ∧ Hid (Below w.heap.size w wr)) (fun s6 _ => s.size - (intOf s6).toNat)
  case atStart => exact ⟨0, Nat.zero_le _, rfl, Lib.hid rfl, Lib.hid rfl, Lib.hid (Below.refl _ _)⟩
  case round =>
    obtain ⟨i, hi, rfl, haw, hc, hb⟩ := hrel
    by_cases hlt : i < s.size
    · have hC := need_any (bt s i) wr (bt_lt s i)
      have hbi := bt_at hlt
      have hk5 := nd_lt (bt s i)
      obtain ⟨k, hk⟩ : ∃ k, nd (bt s i) = k := ⟨_, rfl⟩
      rw [hk] at hC hk5
      have HK := Lib.hid hk
      rw [hbi] at hC
      have HC := Lib.hid hC
      have HBI := Lib.hid hbi
      clear hC hbi hk
      by_cases hbad : k = 0 ∨ 0 ≤ n ∧ n < (k : Int) + i
      · have hno : aw (bt s) n (i + 1) = false := first_no (aw_al haw.out) hc.out (by rw [HK.out]; exact hbad)
        have HA := Lib.hid (ans_no haw.out hno hlt)
        clear hno
        by_cases hk0 : k = 0
        · subst hk0
          clear hbad
          go_wp2_with fail
          refine HC.out.mono ?_
          rintro r w1 ⟨rfl, rfl⟩
          go_wp2_with fail
          go_ret2
          exact ⟨ret_two HA.out.1.symm HA.out.2.symm, hb.out⟩
        · have h0 : 0 ≤ n := by omega
          have h1 : n - i < (k : Int) := by omega
          clear hbad
          go_wp2_with fail
          refine HC.out.mono ?_
          rintro r w1 ⟨rfl, rfl⟩
          go_wp2_with fail
          go_ret2
          exact ⟨ret_two HA.out.1.symm HA.out.2.symm, hb.out⟩
      · have hk0 : k ≠ 0 := by omega
        have hroom : n < 0 ∨ (k : Int) + i ≤ n := by omega
        obtain ⟨hy1, hy2⟩ := first_yes haw.out hc.out (by rw [HK.out]; exact hk0) (by rw [HK.out]; exact hroom)
        rw [HK.out] at hy2
        have HY1 := Lib.hid hy1
        have HY2 := Lib.hid hy2
        clear hy1 hy2 hbad
        by_cases h0 : 0 ≤ n
        all_goals
          first | (have h1 : (k : Int) ≤ n - i := by omega) | (have h1 : n < 0 := by omega)
          clear hroom
          have q1 : ((k : Int) == 0) = false := by simp; omega
          have q2 : n < 0 ∨ decide (n - (i : Int) < (k : Int)) = false := by first | exact .inl h1 | exact .inr (decide_eq_false (by omega))
          first | (have q3 := q2.resolve_left (by omega)) | skip
          clear q2
          go_wp2_with fail
          refine HC.out.mono ?_
          rintro r w1 ⟨rfl, rfl⟩
          go_wp2_with fail
          go_loopw [8] (fun s8 wq => ∃ j : Nat, 1 ≤ j ∧ j ≤ k ∧ i + j ≤ s.size ∧ s8 = .int .i64 (j : Int) ∧ Hid (aw (bt s) n (i + j) = true) ∧ Hid (In (bt s) i j k) ∧ Hid (Below w.heap.size w wq)) (fun s8 _ => k - (intOf s8).toNat)
          case atStart => exact ⟨1, by omega, by omega, by omega, rfl, HY1, HY2, hb⟩
          case round =>
            obtain ⟨j, hj1, hjk, hij, rfl, hawj, hin, hbq⟩ := hrel
            by_cases hj : j < k
            · by_cases he : i + j < s.size
              · have hbj := bt_at he
                have hC2 := fun wz => (may_any (bt s i) j (bt s (i + j)) wz (bt_lt s i) (bt_lt s _) (by omega)).mono (fun _ _ h => And.intro h.1 h.2.symm)
                by_cases hy : my (bt s i) j (bt s (i + j)) = true
                · obtain ⟨z1, z2⟩ := next_yes hawj.out hin.out hj hj1 hy
                  have Z1 := Lib.hid z1
                  have Z2 := Lib.hid z2
                  rw [hy, hbj, HBI.out] at hC2
                  have HC2 := Lib.hid hC2
                  clear z1 z2 hy hC2 hbj
                  go_wp2_with fail
                  have k1 : IntKind.i64.wrap ((i : Int) + (j : Int)) = (i : Int) + (j : Int) := IntWalk.i64_in _ (by omega)
                  have k2 : 0 ≤ (i : Int) + (j : Int) := by omega
                  have k3 : ((i : Int) + (j : Int)).toNat = i + j := by omega
                  go_quiet ((go_at_call 52; exact Calls.quiet_of_same (HC2.out _)))
                  clear k1
                  go_wp2_with fail
                  go_roundw
                  case rel => exact ⟨j + 1, by omega, by omega, by omega, by go_num, Z1, Z2, Lib.hid (drew_below hbq.out _)⟩
                  case measure => simp [intOf]; omega
                · have hy' : my (bt s i) j (bt s (i + j)) = false := by simpa using hy
                  have z1 : aw (bt s) n (i + j + 1) = false := by
                    cases hh : aw (bt s) n (i + j + 1) with
                    | false => rfl
                    | true => have := next_no (aw_al hawj.out) hin.out hj hy'; rw [aw_al hh] at this; cases this
                  have HA := Lib.hid (ans_no hawj.out z1 he)
                  rw [hy', hbj, HBI.out] at hC2
                  have HC2 := Lib.hid hC2
                  clear z1 hy hy' hC2 hbj
                  go_wp2_with fail
                  have k1 : IntKind.i64.wrap ((i : Int) + (j : Int)) = (i : Int) + (j : Int) := IntWalk.i64_in _ (by omega)
                  have k2 : 0 ≤ (i : Int) + (j : Int) := by omega
                  have k3 : ((i : Int) + (j : Int)).toNat = i + j := by omega
                  go_quiet ((go_at_call 52; exact Calls.quiet_of_same (HC2.out _)))
                  clear k1
                  go_wp2_with fail
                  go_ret2
                  exact ⟨ret_two HA.out.1.symm HA.out.2.symm, drew_below hbq.out _⟩
              · have hE : i + j = s.size := by omega
                have hA := ans_short (f := bt s) (N := n) (m := i + j) hawj.out (by rw [hin.out.1]; omega)
                rw [hE] at hA
                have HA := Lib.hid hA
                clear hA
                go_wp2_with fail
                go_ret2
                exact ⟨ret_two HA.out.1.symm HA.out.2.symm, hbq.out⟩
            · obtain rfl : j = k := by omega
              have HC0 := Lib.hid (in_end hin.out)
              go_wp2_with fail
              go_roundw
              case rel => exact ⟨i + j, by omega, by go_num, hawj, HC0, hbq⟩
              case measure => simp [intOf]; omega
    · obtain rfl : i = s.size := by omega
      by_cases hl : (s.size : Int) < n
      · have HA := Lib.hid (ans_less haw.out hl)
        by_cases h0 : 0 ≤ n
        · go_wp2_with fail
          go_ret2
          exact ⟨ret_two HA.out.1.symm HA.out.2.symm, hb.out⟩
        · omega
      · have HA := Lib.hid (ans_all haw.out hc.out hl)
        by_cases h0 : 0 ≤ n
        · go_wp2_with fail
          go_ret2
          exact ⟨ret_two HA.out.1.symm HA.out.2.symm, hb.out⟩
        · go_wp2_with fail
          go_ret2
          exact ⟨ret_two HA.out.1.symm HA.out.2.symm, hb.out⟩
end Go.Proofs.Yteebokhpoppgeaa.nn
namespace Go.Proofs.Yteebokhpoppgeaa.nn
open Go.RowKit

theorem rcheck_any (s : ByteArray) (w : World) (hs : s.size ≤ maxLen) :
    Calls Try.prog 39 #[.string s] w fun r w' => r = .returned (.tuple #[.int .i64 (ckA (bt s) s.size : Int), .int .i64 (ckE (bt s) s.size : Int)]) ∧ Below w.heap.size w w' := by
  have hC := rwithin_any s (-1) w hs (by omega) (by simp [maxLen])
  rw [spw_neg (by omega), wE_neg (by omega)] at hC
  have HC := Lib.hid hC
  clear hC
  have hA : ckA (bt s) s.size = sp (bt s) t0 s.size := rfl
  rw [hA]
  clear hA
  go_enter Try.func39, Try.ntmps39
  go_wp2_with fail
  refine HC.out.mono ?_
  rintro r w1 ⟨rfl, hb⟩
  go_wp2_with fail
  go_ret2
  exact ⟨rfl, hb⟩

theorem sc_new (w : World) : Sc (w.alloc (.cells #[.int .i64 0, .int .u8 0, .int .u8 0] 89)) w.heap.size 89 [] t0 := heap_alloc_last _ _

set_option maxRecDepth 100000 in
set_option maxHeartbeats 1000000 in
theorem check_any (s : ByteArray) (w : World) (hs : s.size ≤ maxLen) :
    Calls Try.prog 55 #[.string s] w fun r w' => r = .returned (.tuple #[.int .i64 (ckA (bt s) s.size : Int), .int .i64 (ckE (bt s) s.size : Int)]) ∧ Below w.heap.size w w' := by
  have HC := Lib.hid (takeS_any s t0 w.heap.size 0 89 [] _ (sc_new w) rfl gd_zero hs)
  have hle : sp (bt s) t0 s.size ≤ s.size := sp_le
  have H0 := Lib.hid (Below.refl w.heap.size w)
  have H1 := Lib.hid (fun o => (Below.refl w.heap.size w).alloc (Nat.le_refl _) o)
  unfold maxLen at hs
  by_cases hal : al (bt s) t0 s.size = true
  · have hE : ckA (bt s) s.size = s.size := sp_all hal
    rw [hE]
    rw [show sp (bt s) t0 s.size = s.size from hE] at HC
    have hc4 := gd_lt (gd_go gd_zero s.size (f := bt s))
    by_cases hz : (tk (bt s) t0 s.size).c = 0
    · have hE2 : ckE (bt s) s.size = 0 := by unfold ckE; rw [if_pos hal, if_pos hz]
      rw [hE2]
      have HZ := Lib.hid hz
      clear hz hE2 hE hal hle hc4
      go_enter Try.func55, Try.ntmps55
      go_wp2_with fail
      refine HC.out.mono ?_
      rintro r w1 ⟨rfl, hb, hsc⟩
      have c0 : w1.cell? ⟨w.heap.size, 0, none⟩ = some (.int .i64 0) := by
        have h := hsc.c0 (off := 0) rfl
        rw [HZ.out] at h
        exact h
      clear hsc
      go_wp2_with fail
      go_ret2
      exact ⟨rfl, (H1.out _).trans hb⟩
    · have hE2 : ckE (bt s) s.size = 3 := by unfold ckE; rw [if_pos hal, if_neg hz]
      rw [hE2]
      obtain ⟨c, hc⟩ : ∃ c, (tk (bt s) t0 s.size).c = c := ⟨_, rfl⟩
      have HZ := Lib.hid hc
      rw [hc] at hz hc4
      have hz' : 0 < c := by omega
      clear hz hE2 hE hal hle hc
      go_enter Try.func55, Try.ntmps55
      go_wp2_with fail
      refine HC.out.mono ?_
      rintro r w1 ⟨rfl, hb, hsc⟩
      have c0 := hsc.c0 (off := 0) rfl
      rw [HZ.out] at c0
      clear hsc
      go_wp2_with fail
      go_ret2
      exact ⟨rfl, (H1.out _).trans hb⟩
  · have hal' : al (bt s) t0 s.size = false := by simpa using hal
    have hE2 : ckE (bt s) s.size = 4 := by unfold ckE; rw [if_neg hal]
    rw [hE2]
    have hl := (sp_lt hal').1
    have hA : ckA (bt s) s.size = sp (bt s) t0 s.size := rfl
    rw [hA]
    clear hE2 hal hal' hA hle
    obtain ⟨p, hp⟩ : ∃ p, sp (bt s) t0 s.size = p := ⟨_, rfl⟩
    rw [hp] at HC hl
    rw [hp]
    clear hp
    go_enter Try.func55, Try.ntmps55
    go_wp2_with fail
    refine HC.out.mono ?_
    rintro r w1 ⟨rfl, hb, _⟩
    go_wp2_with fail
    go_ret2
    exact ⟨rfl, (H1.out _).trans hb⟩
end Go.Proofs.Yteebokhpoppgeaa.nn
namespace Go.Proofs.Yteebokhpoppgeaa.nn
open Go.RowKit

theorem ofInt_64 (a : Nat) (ha : a < 9223372036854775808) : (BitVec.ofInt 64 (a : Int)).toNat = a := by
  rw [BitVec.ofInt_natCast, BitVec.toNat_ofNat]
  exact Nat.mod_eq_of_lt (by omega)
theorem wrapi64_nat {n : Nat} (h : n < 9223372036854775808) : IntKind.i64.wrap (n : Int) = (n : Int) := IntWalk.i64_in _ ⟨by omega, by omega⟩
theorem i64_and_nat (a b : Nat) (ha : a < 9223372036854775808) (hb : b < 9223372036854775808) : bits .and .i64 (a : Int) (b : Int) = ((a &&& b : Nat) : Int) := by
  have hx : a &&& b < 2 ^ 63 := Nat.and_lt_two_pow _ (by omega)
  show IntKind.i64.wrap ((BitVec.ofInt 64 (a : Int) &&& BitVec.ofInt 64 (b : Int)).toNat : Int) = _
  rw [BitVec.toNat_and, ofInt_64 a ha, ofInt_64 b hb, wrapi64_nat (by omega)]
theorem and_mask (x k : Nat) : x &&& (2 ^ k - 1) = x % 2 ^ k := Nat.and_two_pow_sub_one_eq_mod x k
end Go.Proofs.Yteebokhpoppgeaa.nn
