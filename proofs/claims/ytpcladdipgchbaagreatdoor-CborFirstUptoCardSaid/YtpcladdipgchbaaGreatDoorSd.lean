/- Joined texts, what is wanted of them: Num, Mem, Write, AddRel, Append, Long, Add, Awake, RefSum, BitsNum, NatBytes, RefBytes, HdA, FromBytes, HdN, Bytes, RefAt, List. -/
import Derived.Below
import Derived.Laws.OwnMore
import Derived.Deep.AppendLies
import Derived.Deep.Draws
import Derived.Laws.Rows
import Derived.Maps.AppendAt
import Derived.RegionTactic
import Derived.OwnWalk
import Derived.Deep.RegionLaw
import Derived.WalkKit
import Derived.Deep.RegionHeld3
import Derived.Lib.BitFns
import Derived.Test.YtpcladdipgchbaaGreatDoorProg
import Derived.Laws.BytesArg
import Derived.Deep.WholeRow
import Derived.Lib.Hide
import Derived.Deep.QuietTactic
import Derived.BigQuiet
import Derived.IntWalk
import Derived.StillTailTactics
import Derived.Lib.UnsafeStr
import Derived.Lib.AppendStr
import Derived.WalkSpells
import Derived.Laws.BitsAllLaws
import Derived.Test.YtpcladdipgchbaaGreatDoorShelf
import Derived.Deep.RegionWith
import Derived.Deep.CutBlock
import Derived.Test.YtpcladdipgchbaaGreatDoorSa
namespace Go.Proofs.YtpcladdipgchbaaGreatDoor.nn

/-- the value of n limbs of f at base B, the lowest first -/
def sm (B : Nat) (f : Nat → Nat) : Nat → Nat
  | 0 => 0
  | n + 1 => sm B f n + f n * B ^ n

/-- the length without zero limbs at the end -/
def tr (f : Nat → Nat) : Nat → Nat
  | 0 => 0
  | n + 1 => if f n = 0 then tr f n else n + 1

/-- all limbs below B -/
def Lt (B : Nat) (f : Nat → Nat) (n : Nat) : Prop := ∀ i, i < n → f i < B

/-- trimmed: no zero limb at the end -/
def Trm (f : Nat → Nat) (n : Nat) : Prop := n = 0 ∨ f (n - 1) ≠ 0

/-- f with x at place k -/
def upd (f : Nat → Nat) (k x : Nat) : Nat → Nat := fun i => if i = k then x else f i

theorem upd_at (f : Nat → Nat) (k x : Nat) : upd f k x k = x := by simp [upd]
theorem upd_ne (f : Nat → Nat) {k x i : Nat} (h : i ≠ k) : upd f k x i = f i := by simp [upd, h]

theorem sm_congr (B : Nat) {f g : Nat → Nat} {n : Nat} (h : ∀ i, i < n → f i = g i) : sm B f n = sm B g n := by
  induction n with
  | zero => rfl
  | succ n ih => rw [sm, sm, ih (fun i hi => h i (by omega)), h n (by omega)]

theorem Lt.mono {B : Nat} {f : Nat → Nat} {n m : Nat} (h : Lt B f n) (hm : m ≤ n) : Lt B f m := fun i hi => h i (by omega)

theorem Lt.upd {B : Nat} {f : Nat → Nat} {n k x : Nat} (h : Lt B f n) (hx : x < B) : Lt B (upd f k x) n := fun i hi => by
  by_cases e : i = k
  · subst e; rw [upd_at]; exact hx
  · rw [upd_ne f e]; exact h i hi

theorem Lt.snoc {B : Nat} {f : Nat → Nat} {n x : Nat} (h : Lt B f n) (hx : x < B) : Lt B (nn.upd f n x) (n + 1) := fun i hi => by
  by_cases e : i = n
  · subst e; rw [upd_at]; exact hx
  · rw [upd_ne f e]; exact h i (by omega)

theorem sm_upd_out (B : Nat) (f : Nat → Nat) {n k : Nat} (x : Nat) (h : n ≤ k) : sm B (upd f k x) n = sm B f n :=
  sm_congr B fun i hi => upd_ne f (by omega)

theorem sm_snoc (B : Nat) (f : Nat → Nat) (n x : Nat) : sm B (upd f n x) (n + 1) = sm B f n + x * B ^ n := by
  rw [sm, sm_upd_out B f x (Nat.le_refl n), upd_at]

/-- the value from place k on -/
theorem sm_split (B : Nat) (f : Nat → Nat) (k m : Nat) : sm B f (k + m) = sm B f k + sm B (fun i => f (k + i)) m * B ^ k := by
  induction m with
  | zero => simp [sm]
  | succ m ih =>
    rw [← Nat.add_assoc, sm, ih, sm, Nat.add_mul, Nat.pow_add, Nat.mul_assoc, Nat.mul_comm (B ^ m) (B ^ k)]
    omega

theorem sm_upd (B : Nat) (f : Nat → Nat) {n k : Nat} (x : Nat) (h : k < n) : sm B (upd f k x) n + f k * B ^ k = sm B f n + x * B ^ k := by
  induction n with
  | zero => omega
  | succ n ih =>
    by_cases e : k = n
    · subst e
      rw [sm, sm_upd_out B f x (Nat.le_refl k), upd_at, sm]
      omega
    · rw [sm, sm, upd_ne f (by omega : n ≠ k)]
      have := ih (by omega)
      omega

end Go.Proofs.YtpcladdipgchbaaGreatDoor.nn
namespace Go.Proofs.YtpcladdipgchbaaGreatDoor.nn
open Go.RowKit

/-- the slice at address A reads as n integers f 0 .. f (n - 1) of kind k, in a block that is there -/
def Rd (w : World) (k : IntKind) (A : Option Addr) (n : Nat) (f : Nat → Nat) : Prop :=
  0 < n → ∃ b off, A = some ⟨b, off, none⟩ ∧ b < w.heap.size ∧ ∀ i, i < n → w.cell? ⟨b, off + i, none⟩ = some (.int k (f i : Int))

section
variable {w w' : World} {k : IntKind} {A : Option Addr} {n m : Nat} {f g : Nat → Nat}

theorem Rd.keep (h : Rd w k A n f) (hs : w.heap.size ≤ w'.heap.size) (hk : ∀ b o, b < w.heap.size → w'.cell? ⟨b, o, none⟩ = w.cell? ⟨b, o, none⟩) : Rd w' k A n f := fun hn => by
  obtain ⟨b, off, e, hb, hc⟩ := h hn
  exact ⟨b, off, e, by omega, fun i hi => (hk b _ hb).trans (hc i hi)⟩
theorem Rd.below (h : Rd w k A n f) (hb : Below w.heap.size w w') : Rd w' k A n f :=
  h.keep hb.size fun b o hlt => hb.cell (p := ⟨b, o, none⟩) hlt
theorem Rd.drew (h : Rd w k A n f) : Rd w.drew k A n f := h
theorem Rd.drewN (h : Rd w k A n f) (j : Nat) : Rd (w.drewN j) k A n f := h
theorem Rd.alloc (h : Rd w k A n f) (o : Obj) : Rd (w.alloc o) k A n f :=
  h.keep (by simp) fun _ _ hlt => World.cell?_alloc_lt w o _ hlt
theorem Rd.mono (h : Rd w k A n f) (hm : m ≤ n) : Rd w k A m f := fun h0 => by
  obtain ⟨b, off, e, hb, hc⟩ := h (by omega)
  exact ⟨b, off, e, hb, fun i hi => hc i (by omega)⟩
theorem Rd.congr (h : Rd w k A n f) (e : ∀ i, i < n → f i = g i) : Rd w k A n g := fun h0 => by
  obtain ⟨b, off, ea, hb, hc⟩ := h h0
  exact ⟨b, off, ea, hb, fun i hi => by rw [← e i hi]; exact hc i hi⟩
theorem Rd.lt {b o : Nat} (h : Rd w k A n f) (e : A = some ⟨b, o, none⟩) (h0 : 0 < n) : b < w.heap.size := by
  obtain ⟨b', o', e', hb, _⟩ := h h0
  rw [e] at e'
  injection e' with e'
  injection e' with e'
  omega
theorem Rd.none_ : Rd w k A 0 f := fun h => absurd h (by omega)

/-- the limbs as a list of values -/
def vl (k : IntKind) (f : Nat → Nat) (n : Nat) : List Value := (List.range n).map fun i => .int k (f i : Int)

theorem vl_length (k : IntKind) (f : Nat → Nat) (n : Nat) : (vl k f n).length = n := by simp [vl]
theorem vl_at (k : IntKind) (f : Nat → Nat) {n i : Nat} (h : i < n) : (vl k f n)[i]? = some (.int k (f i : Int)) := by simp [vl, h]
theorem vl_congr (k : IntKind) {n : Nat} (e : ∀ i, i < n → f i = g i) : vl k f n = vl k g n :=
  List.map_congr_left fun i hi => by rw [e i (List.mem_range.1 hi)]
theorem vl_one (k : IntKind) (f : Nat → Nat) (n : Nat) : ∀ u ∈ vl k f n, u.oneCell' = true := by
  intro u hu
  obtain ⟨i, _, rfl⟩ := List.mem_map.1 hu
  rfl
theorem vl_append (k : IntKind) (f g : Nat → Nat) (n m : Nat) : vl k f n ++ vl k g m = vl k (fun i => if i < n then f i else g (i - n)) (n + m) := by
  induction m with
  | zero =>
    simp only [vl, List.range_zero, List.map_nil, List.append_nil, Nat.add_zero]
    exact List.map_congr_left fun i hi => by rw [if_pos (List.mem_range.1 hi)]
  | succ m ih =>
    have e1 : vl k g (m + 1) = vl k g m ++ [.int k (g m : Int)] := by simp [vl, List.range_succ]
    have e2 : vl k (fun i => if i < n then f i else g (i - n)) (n + (m + 1)) = vl k (fun i => if i < n then f i else g (i - n)) (n + m) ++ [.int k (g m : Int)] := by
      simp only [vl, ← Nat.add_assoc, List.range_succ, List.map_append, List.map_cons, List.map_nil]
      rw [if_neg (by omega), Nat.add_sub_cancel_left]
    rw [e1, e2, ← ih, List.append_assoc]

/-- what the call owns reads as its limbs -/
theorem Rd.of_own {base : Nat} {e : TypeId} {v : Value} (h : w.ownsRow base e 1 v n (vl k f n)) : ∃ A c, v = .slice A n c ∧ n ≤ c ∧ c ≤ maxLen ∧ Rd w k A n f := by
  have hh := h
  rcases h.2 with ⟨rfl, rfl⟩ | ⟨b, cap, cur, rfl, _, hb, hc, hm, _⟩
  · exact ⟨none, 0, rfl, Nat.le_refl _, by simp [maxLen], Rd.none_⟩
  · refine ⟨_, cap, rfl, hc, hm, fun _ => ⟨b, 0, rfl, (Array.getElem?_eq_some_iff.1 hb).1, fun i hi => ?_⟩⟩
    rw [Nat.zero_add, hh.cellAt i (by omega)]
    exact vl_at k f hi

end

end Go.Proofs.YtpcladdipgchbaaGreatDoor.nn
namespace Go.Proofs.YtpcladdipgchbaaGreatDoor.nn
open Go.RowKit

/-- block g is just the cells cur of element type e, none frozen -/
def Bk (w : World) (g : Nat) (e : TypeId) (cur : Array Value) : Prop := w.heap[g]? = some (.cells cur e (0, 0))

/-- from place off on stand the limbs f -/
def Ints (cur : Array Value) (k : IntKind) (off n : Nat) (f : Nat → Nat) : Prop := ∀ i, i < n → cur[off + i]? = some (.int k (f i : Int))

/-- in block g, between off and off + n alone, something was written -/
structure Wrote (w w' : World) (g : Nat) (e : TypeId) (cur cur' : Array Value) (off n : Nat) : Prop where
  blk : Bk w' g e cur'
  size : cur'.size = cur.size
  out : ∀ i, i < off ∨ off + n ≤ i → cur'[i]? = cur[i]?
  grown : w.grownBy w' (some g)
  hsize : w'.heap.size = w.heap.size

section
variable {w w' w'' : World} {g : Nat} {e : TypeId} {cur cur' cur'' : Array Value} {off n m i : Nat} {k : IntKind} {f : Nat → Nat}

theorem Bk.lt (h : Bk w g e cur) : g < w.heap.size := (Array.getElem?_eq_some_iff.1 h).1
theorem Bk.cell (h : Bk w g e cur) (i : Nat) : w.cell? ⟨g, i, none⟩ = cur[i]? := cell_of_row w g i cur e (0, 0) h
theorem Bk.frozen (h : Bk w g e cur) (i : Nat) : w.frozen? ⟨g, i, none⟩ = false := by
  unfold Bk at h
  simp [World.frozen?, h]
theorem Bk.set_ (h : Bk w g e cur) (i : Nat) (u : Value) : Bk (w.setCell ⟨g, i, none⟩ u) g e (cur.setIfInBounds i u) := by
  unfold Bk at h ⊢
  simp [World.setCell, Array.getElem?_modify, h]
theorem Bk.drewN (h : Bk w g e cur) (j : Nat) : Bk (w.drewN j) g e cur := h
theorem Bk.below {B : Nat} (h : Bk w g e cur) (hb : Below B w w') (hg : g < B) : Bk w' g e cur := (hb.block g hg).trans h
theorem Bk.grown {row : Option Nat} (h : Bk w g e cur) (hb : w.grownBy w' row) (hg : some g ≠ row) : Bk w' g e cur := (hb.block g h.lt hg).trans h

theorem Ints.mono (h : Ints cur k off n f) (hm : m ≤ n) : Ints cur k off m f := fun i hi => h i (by omega)
theorem Ints.congr {f' : Nat → Nat} (h : Ints cur k off n f) (e : ∀ i, i < n → f i = f' i) : Ints cur k off n f' := fun i hi => by rw [← e i hi]; exact h i hi
theorem Ints.lt (h : Ints cur k off n f) (hi : i < n) : off + i < cur.size := (Array.getElem?_eq_some_iff.1 (h i hi)).1
theorem Ints.set_ (h : Ints cur k off n f) (i x : Nat) (hi : i < n) : Ints (cur.setIfInBounds (off + i) (.int k (x : Int))) k off n (upd f i x) := fun j hj => by
  rw [Array.getElem?_setIfInBounds]
  by_cases e : j = i
  · subst e; rw [if_pos rfl, if_pos (h.lt hi), upd_at]
  · rw [if_neg (by omega), upd_ne f e]; exact h j hj
theorem Wrote.refl (h : Bk w g e cur) (off n : Nat) : Wrote w w g e cur cur off n :=
  ⟨h, rfl, fun _ _ => rfl, ⟨rfl, rfl, rfl, Nat.le_refl _, fun _ _ _ => rfl⟩, rfl⟩
theorem Wrote.drewN (h : Wrote w w' g e cur cur' off n) (j : Nat) : Wrote w (w'.drewN j) g e cur cur' off n :=
  ⟨h.blk, h.size, h.out, ⟨h.grown.os, h.grown.tape, h.grown.output, h.grown.size, h.grown.block⟩, h.hsize⟩
theorem Wrote.set_ (h : Wrote w w' g e cur cur' off n) (i : Nat) (hi : i < n) (u : Value) : Wrote w (w'.setCell ⟨g, off + i, none⟩ u) g e cur (cur'.setIfInBounds (off + i) u) off n :=
  ⟨h.blk.set_ _ u, by rw [Array.size_setIfInBounds, h.size], fun j hj => by rw [Array.getElem?_setIfInBounds, if_neg (by omega)]; exact h.out j hj,
   ⟨h.grown.os, h.grown.tape, h.grown.output, by simpa [World.setCell] using h.grown.size, fun b hb hne => (Below.heap_setCell w' ⟨g, off + i, none⟩ u b (by rintro rfl; exact hne rfl)).trans (h.grown.block b hb hne)⟩,
   by simpa [World.setCell] using h.hsize⟩
theorem Wrote.trans (h : Wrote w w' g e cur cur' off n) (h' : Wrote w' w'' g e cur' cur'' off n) : Wrote w w'' g e cur cur'' off n :=
  ⟨h'.blk, h'.size.trans h.size, fun i hi => (h'.out i hi).trans (h.out i hi),
   ⟨h'.grown.os.trans h.grown.os, h'.grown.tape.trans h.grown.tape, h'.grown.output.trans h.grown.output, Nat.le_trans h.grown.size h'.grown.size,
    fun b hb hne => (h'.grown.block b (by have := h.hsize; omega) hne).trans (h.grown.block b hb hne)⟩, h'.hsize.trans h.hsize⟩
/-- a stretch within a stretch -/
theorem Wrote.wide (h : Wrote w w' g e cur cur' off n) {off' n' : Nat} (h1 : off' ≤ off) (h2 : off + n ≤ off' + n') : Wrote w w' g e cur cur' off' n' :=
  ⟨h.blk, h.size, fun i hi => h.out i (by omega), h.grown, h.hsize⟩
end

end Go.Proofs.YtpcladdipgchbaaGreatDoor.nn
namespace Go.Proofs.YtpcladdipgchbaaGreatDoor.nn
open Go.RowKit

/-- what holds when the first i limbs are added (m of h's), with the carry k -/
def AddRel (K : IntKind) (Bs : Nat) (w wr : World) (g : Nat) (e : TypeId) (cur : Array Value) (off n : Nat) (f h f' : Nat → Nat) (cur' : Array Value) (k i m : Nat) : Prop :=
  Wrote w wr g e cur cur' off n ∧ Ints cur' K off n f' ∧ Lt Bs f' n ∧ (∀ j, i ≤ j → j < n → f' j = f j) ∧
    sm Bs f' i + k * Bs ^ i = sm Bs f i + sm Bs h m

section
variable {K : IntKind} {Bs : Nat} {w wr : World} {g : Nat} {e : TypeId} {cur : Array Value} {off n : Nat} {f h f' : Nat → Nat} {cur' : Array Value} {k i m : Nat}

theorem carry_eq {a b c v k' Bs P : Nat} (hk : a + b + c = v + k' * Bs) : a * P + b * P + c * P = v * P + k' * (P * Bs) := by
  have e2 := congrArg (· * P) hk
  simp only [Nat.add_mul] at e2
  rw [Nat.mul_comm P Bs, ← Nat.mul_assoc]
  exact e2

theorem AddRel.step (H : AddRel K Bs w wr g e cur off n f h f' cur' k i i) (hi : i < n) (k' v : Nat) (hk : f' i + h i + k = v + k' * Bs) (hv : v < Bs) {z : Int} (hz : z = (v : Int)) :
    AddRel K Bs w (wr.setCell ⟨g, off + i, none⟩ (.int K z)) g e cur off n f h (upd f' i v) (cur'.setIfInBounds (off + i) (.int K (v : Int))) k' (i + 1) (i + 1) := by
  obtain ⟨h1, h2, h3, h4, h5⟩ := H
  rw [hz]
  refine ⟨h1.set_ i hi _, h2.set_ i _ hi, h3.upd hv, fun j ha hb => ?_, ?_⟩
  · rw [upd_ne f' (by omega)]; exact h4 j (by omega) hb
  · rw [sm_snoc, sm, sm, ← h4 i (Nat.le_refl _) hi, Nat.pow_succ]
    have := carry_eq (P := Bs ^ i) hk
    omega

/-- one more limb, of the greater number alone -/
theorem AddRel.more (H : AddRel K Bs w wr g e cur off n f h f' cur' k i m) (hi : i < n) (k' v : Nat) (hk : f' i + k = v + k' * Bs) (hv : v < Bs) {z : Int} (hz : z = (v : Int)) :
    AddRel K Bs w (wr.setCell ⟨g, off + i, none⟩ (.int K z)) g e cur off n f h (upd f' i v) (cur'.setIfInBounds (off + i) (.int K (v : Int))) k' (i + 1) m := by
  obtain ⟨h1, h2, h3, h4, h5⟩ := H
  rw [hz]
  refine ⟨h1.set_ i hi _, h2.set_ i _ hi, h3.upd hv, fun j ha hb => ?_, ?_⟩
  · rw [upd_ne f' (by omega)]; exact h4 j (by omega) hb
  · rw [sm_snoc, sm, ← h4 i (Nat.le_refl _) hi, Nat.pow_succ]
    have := carry_eq (a := f' i) (b := 0) (P := Bs ^ i) (by simpa using hk)
    omega

/-- the end: the limbs f' are the sum, but for the carry k -/
def AddEnd (K : IntKind) (Bs : Nat) (w w' : World) (g : Nat) (e : TypeId) (cur : Array Value) (off n : Nat) (f : Nat → Nat) (S k : Nat) : Prop :=
  ∃ (f' : Nat → Nat) (cur' : Array Value), Wrote w w' g e cur cur' off n ∧ Ints cur' K off n f' ∧ Lt Bs f' n ∧ sm Bs f' n + k * Bs ^ n = sm Bs f n + S

/-- where no carry is left the rest is as it was -/
theorem AddRel.done (H : AddRel K Bs w wr g e cur off n f h f' cur' k i m) (hi : i ≤ n) (he : i = n ∨ k = 0) : AddEnd K Bs w wr g e cur off n f (sm Bs h m) k := by
  obtain ⟨h1, h2, h3, h4, h5⟩ := H
  refine ⟨f', cur', h1, h2, h3, ?_⟩
  rcases he with rfl | rfl
  · exact h5
  · obtain ⟨j, rfl⟩ : ∃ j, n = i + j := ⟨n - i, by omega⟩
    rw [sm_split, sm_split Bs f, sm_congr Bs (f := fun t => f' (i + t)) (g := fun t => f (i + t)) (fun t ht => h4 (i + t) (by omega) (by omega))]
    simp only [Nat.zero_mul] at h5 ⊢
    omega
end
end Go.Proofs.YtpcladdipgchbaaGreatDoor.nn
namespace Go.Proofs.YtpcladdipgchbaaGreatDoor.nn
open Go.RowKit

/-- n limbs of f, then h's -/
def jn (f : Nat → Nat) (n : Nat) (h : Nat → Nat) : Nat → Nat := fun i => if i < n then f i else h (i - n)
theorem jn_lo (f h : Nat → Nat) {n i : Nat} (hi : i < n) : jn f n h i = f i := by simp [jn, hi]
theorem jn_hi (f h : Nat → Nat) (n i : Nat) : jn f n h (n + i) = h i := by
  rw [jn, if_neg (by omega), Nat.add_sub_cancel_left]
theorem jn_zero (f h : Nat → Nat) : jn f 0 h = h := by funext i; simp [jn]
theorem sm_jn (B : Nat) (f h : Nat → Nat) (n m : Nat) : sm B (jn f n h) (n + m) = sm B f n + sm B h m * B ^ n := by
  rw [sm_split, sm_congr B (f := jn f n h) (g := f) (fun i hi => jn_lo f h hi), sm_congr B (f := fun i => jn f n h (n + i)) (g := h) (fun i _ => jn_hi f h n i)]
theorem Lt.jn {B : Nat} {f h : Nat → Nat} {n m : Nat} (lf : Lt B f n) (lh : Lt B h m) : Lt B (nn.jn f n h) (n + m) := fun i hi => by
  by_cases e : i < n
  · rw [jn_lo f h e]; exact lf i e
  · have := jn_hi f h n (i - n)
    rw [show n + (i - n) = i from by omega] at this
    rw [this]; exact lh _ (by omega)

/-- a new block of one cell -/
theorem rd_one (w : World) (K : IntKind) (x : Nat) (e : TypeId) : Rd (w.alloc (.cells #[.int K (x : Int)] e)) K (some ⟨w.heap.size, 0, none⟩) 1 (fun _ => x) := fun _ =>
  ⟨w.heap.size, 0, rfl, by simp, fun i hi => by
    obtain rfl : i = 0 := by omega
    rw [World.cell?_alloc_at _ _ _ _ rfl]; rfl⟩

section
variable {P : Program} {w : World}

theorem run_app (base : Nat) (t ty e : TypeId) (i : TypeInfo) (z : Value) (bytes : Nat) (ht : P.underlying t = some (.slice e)) (hi : P.info? e = some i) (hz : i.zero = some z)
    (hsize : i.size = 1) (hby : i.bytes = bytes) (hzs : z.cells.size = 1)
    (K : IntKind) (v : Value) (n : Nat) (f : Nat → Nat) (hown : w.ownsRow base e 1 v n (vl K f n))
    (A : Option Addr) (m c : Nat) (h : Nat → Nat) (hr : Rd w K A m h) (h63 : n + m ≤ maxLen) (hbytes : (n + m) * bytes ≤ 140737488355328) (hbase : base ≤ w.heap.size) :
    ∃ v' w', (Builtin.append_ #[t, t] ty #[v, .slice A m c]).run P w = .ok v' w' ∧ w'.ownsRow base e 1 v' (n + m) (vl K (jn f n h) (n + m)) ∧ Below base w w' := by
  have hb0 : ∀ w' : World, w.grownBy w' v.ownBlock → Below base w w' := fun w' hg => (Below.refl base w).grown hg hbase (fun k hk => (hown.lt k hk).1)
  rcases A with _ | ad
  · have hm : m = 0 := by
      rcases Nat.eq_zero_or_pos m with h0 | h0
      · exact h0
      · obtain ⟨b, off, e, _⟩ := hr h0
        cases e
    subst hm
    have e1 : vl K (jn f n h) (n + 0) = vl K f n := vl_congr K fun i hi => jn_lo f h hi
    refine ⟨v, w, ?_, by rw [e1]; exact hown, Below.refl _ _⟩
    rcases hown.2 with ⟨rfl, rfl⟩ | ⟨g, cap, cur, rfl, _, _, hnc, _⟩
    · simp [Builtin.append_, run_underlying ht, sizeOf, typeInfo, hi, Builtin.lenOf, Builtin.firstCells]
    · simp [Builtin.append_, run_underlying ht, sizeOf, typeInfo, hi, Builtin.lenOf, Builtin.firstCells, hnc, storeCells]
  · have hcells : ∀ j u, (vl K h m)[j]? = some u → w.cell? (ad.add j) = some u := by
      intro j u hu
      have hj : j < m := by
        have := (List.getElem?_eq_some_iff.1 hu).1
        rwa [vl_length] at this
      obtain ⟨b, off, e1, _, hc⟩ := hr (by omega)
      injection e1 with e1
      subst e1
      rw [vl_at K h hj] at hu
      injection hu with hu
      subst hu
      have hadd : (⟨b, off, none⟩ : Addr).add j = ⟨b, off + j, none⟩ := by unfold Addr.add; split <;> simp_all
      rw [hadd]
      exact hc j hj
    obtain ⟨v', w', hrun, h2, h3, _⟩ := run_append_own_at (P := P) w base t ty e i z 1 bytes ht hi hz hsize hby hzs (by omega) v n _ hown ad m c (vl K h m) (by rw [vl_length, Nat.mul_one]) hcells (vl_one K h m) h63 hbytes hbase
    exact ⟨v', w', hrun, by rw [vl_append] at h2; exact h2, hb0 w' h3⟩

theorem wp_app {o : Oper} {a : Act} {R : Act → World → Prop} {Q : Exit → Act → World → Prop} (s x : Operand) (t : TypeId)
    (ho : o.op = .call { callee := .builtin .append, args := #[s, x], argTypes := #[t, t] })
    (base : Nat) (e : TypeId) (i : TypeInfo) (z : Value) (bytes : Nat) (ht : P.underlying t = some (.slice e)) (hi : P.info? e = some i) (hz : i.zero = some z)
    (hsize : i.size = 1) (hby : i.bytes = bytes) (hzs : z.cells.size = 1)
    (K : IntKind) (v : Value) (n : Nat) (f : Nat → Nat) (hs : a.eval s = v) (hown : w.ownsRow base e 1 v n (vl K f n))
    (A : Option Addr) (m c : Nat) (h : Nat → Nat) (hx : a.eval x = .slice A m c) (hr : Rd w K A m h) (h63 : n + m ≤ maxLen) (hbytes : (n + m) * bytes ≤ 140737488355328) (hbase : base ≤ w.heap.size)
    (k : ∀ v' w', w'.ownsRow base e 1 v' (n + m) (vl K (jn f n h) (n + m)) → Below base w w' → R (a.put o.dst v') w') : o.wp P a w R Q := by
  obtain ⟨v', w', hrun, h2, h3⟩ := run_app (P := P) base t o.type e i z bytes ht hi hz hsize hby hzs K v n f hown A m c h hr h63 hbytes hbase
  unfold Oper.wp execOp
  simp only [ho, resolve, invoke, builtin, Sem.run_bind, Sem.run_pure, Result.andThen_ok, List.map_toArray, List.map_cons, List.map_nil, hs, hx, hrun]
  exact k v' w' h2 h3

theorem wpList_app {ops : Array Oper} {rest : List Oper} {o : Oper} {a : Act} {Q : Exit → Act → World → Prop} (hgd : o.guard = none) (s x : Operand) (t : TypeId)
    (ho : o.op = .call { callee := .builtin .append, args := #[s, x], argTypes := #[t, t] })
    (base : Nat) (e : TypeId) (i : TypeInfo) (z : Value) (bytes : Nat) (ht : P.underlying t = some (.slice e)) (hi : P.info? e = some i) (hz : i.zero = some z)
    (hsize : i.size = 1) (hby : i.bytes = bytes) (hzs : z.cells.size = 1)
    (K : IntKind) (v : Value) (n : Nat) (f : Nat → Nat) (hs : a.eval s = v) (hown : w.ownsRow base e 1 v n (vl K f n))
    (A : Option Addr) (m c : Nat) (h : Nat → Nat) (hx : a.eval x = .slice A m c) (hr : Rd w K A m h) (h63 : n + m ≤ maxLen) (hbytes : (n + m) * bytes ≤ 140737488355328) (hbase : base ≤ w.heap.size)
    (k : ∀ v' w', w'.ownsRow base e 1 v' (n + m) (vl K (jn f n h) (n + m)) → Below base w w' → wpList P ops Q rest (a.put o.dst v') w') : wpList P ops Q (o :: rest) a w :=
  wpList_plain hgd fun _ hK => wp_app s x t ho base e i z bytes ht hi hz hsize hby hzs K v n f hs hown A m c h hx hr h63 hbytes hbase fun v' w' h2 h3 => hK _ _ (k v' w' h2 h3)

end
end Go.Proofs.YtpcladdipgchbaaGreatDoor.nn
namespace Go.Proofs.YtpcladdipgchbaaGreatDoor.nn
open Go.RowKit

/-- a slice of slices of 32-bit limbs -/
def Rds (w : World) (A : Option Addr) (n : Nat) (AA : Nat → Option Addr) (L C : Nat → Nat) (F : Nat → Nat → Nat) : Prop :=
  0 < n → ∃ b off, A = some ⟨b, off, none⟩ ∧ b < w.heap.size ∧ ∀ i, i < n → w.cell? ⟨b, off + i, none⟩ = some (.slice (AA i) (L i) (C i)) ∧ L i ≤ C i ∧ C i ≤ maxLen ∧ Rd w .u32 (AA i) (L i) (F i)

theorem Rds.keep {w w' : World} {A : Option Addr} {n : Nat} {AA : Nat → Option Addr} {L C : Nat → Nat} {F : Nat → Nat → Nat} (h : Rds w A n AA L C F)
    (hs : w.heap.size ≤ w'.heap.size) (hk : ∀ b o, b < w.heap.size → w'.cell? ⟨b, o, none⟩ = w.cell? ⟨b, o, none⟩) : Rds w' A n AA L C F := fun hn => by
  obtain ⟨b, off, e, hb, hc⟩ := h hn
  exact ⟨b, off, e, by omega, fun i hi => ⟨(hk b _ hb).trans (hc i hi).1, (hc i hi).2.1, (hc i hi).2.2.1, (hc i hi).2.2.2.keep hs hk⟩⟩
theorem Rds.below {w w' : World} {A : Option Addr} {n : Nat} {AA : Nat → Option Addr} {L C : Nat → Nat} {F : Nat → Nat → Nat} (h : Rds w A n AA L C F)
    (hb : Below w.heap.size w w') : Rds w' A n AA L C F :=
  h.keep hb.size fun b o hlt => hb.cell (p := ⟨b, o, none⟩) hlt

/-- is one of the first n too long? -/
def lg (L : Nat → Nat) (F : Nat → Nat → Nat) : Nat → Bool
  | 0 => false
  | n + 1 => lg L F n || decide (4096 < tr (F n) (L n))

end Go.Proofs.YtpcladdipgchbaaGreatDoor.nn
namespace Go.Proofs.YtpcladdipgchbaaGreatDoor.nn
open Go.RowKit

/-- the slice at A of length n reads as the trimmed number R -/
structure Num (w : World) (A : Option Addr) (n c : Nat) (f : Nat → Nat) (R : Nat) : Prop where
  le : n ≤ c
  cap : c ≤ maxLen
  rd : Rd w .u32 A n f
  lt : Lt (2 ^ 32) f n
  trm : Trm f n
  val : sm (2 ^ 32) f n = R

/-- the sum of the first i parts -/
def tot (L : Nat → Nat) (F : Nat → Nat → Nat) : Nat → Nat
  | 0 => 0
  | i + 1 => tot L F i + sm (2 ^ 32) (F i) (L i)

/-- what holds at the head of Add's loop -/
def AddLoop (old base : Nat) (w0 wr : World) (s : Value) (i n : Nat) (f : Nat → Nat) (L : Nat → Nat) (F : Nat → Nat → Nat) : Prop :=
  ∃ (n' : Nat) (f' : Nat → Nat), wr.ownsRow base 242 1 s n' (vl .u32 f' n') ∧ Below old w0 wr ∧ base ≤ wr.heap.size ∧ Lt (2 ^ 32) f' n' ∧ sm (2 ^ 32) f' n' = sm (2 ^ 32) f n + tot L F i ∧ n' ≤ 4096 + i

theorem AddLoop.below {old base : Nat} {w0 wr : World} {s : Value} {i n : Nat} {f : Nat → Nat} {L : Nat → Nat} {F : Nat → Nat → Nat} (h : AddLoop old base w0 wr s i n f L F) : Below old w0 wr := by
  obtain ⟨_, _, _, h, _⟩ := h
  exact h

end Go.Proofs.YtpcladdipgchbaaGreatDoor.nn
namespace Go.Proofs.YtpcladdipgchbaaGreatDoor.nn
open Go.RowKit

theorem hsz (w : World) (o : Obj) : (w.alloc o).heap.size = w.heap.size + 1 := by simp
end Go.Proofs.YtpcladdipgchbaaGreatDoor.nn
namespace Go.Proofs.YtpcladdipgchbaaGreatDoor.nn
open Go.RowKit

/-- what holds at the head of sum's loop -/
def SumRel (base : Nat) (w0 wr : World) (s : Value) (i k : Nat) (F : Nat → Nat) (G : Nat → Nat) : Prop :=
  ∃ f' : Nat → Nat, wr.ownsRow base 242 1 s i (vl .u32 f' i) ∧ Below base w0 wr ∧ base ≤ wr.heap.size ∧ Lt (2 ^ 32) f' i ∧ k ≤ 1 ∧ sm (2 ^ 32) f' i + k * (2 ^ 32) ^ i = sm (2 ^ 32) F i + sm (2 ^ 32) G i

theorem pow_s (B i : Nat) : B ^ (i + 1) = B ^ i * B := Nat.pow_succ B i

theorem SumRel.step {base : Nat} {w0 wr w1 : World} {v : Value} {i k : Nat} {F G f' : Nat → Nat} (o : Obj) (hF : F i < 2 ^ 32) (hG : G i < 2 ^ 32)
    (h2 : Below base w0 wr) (h3 : base ≤ wr.heap.size) (h4 : Lt (2 ^ 32) f' i) (h5 : k ≤ 1) (h6 : sm (2 ^ 32) f' i + k * (2 ^ 32) ^ i = sm (2 ^ 32) F i + sm (2 ^ 32) G i)
    (ho : w1.ownsRow base 242 1 v (i + 1) (vl .u32 (jn f' i (fun _ => (k + F i + G i) % 4294967296)) (i + 1))) (hb : Below base (wr.alloc o) w1) :
    SumRel base w0 w1 v (i + 1) ((k + F i + G i) / 4294967296) F G := by
  have hb1 := (h2.alloc h3 o).trans hb
  have hs := hb.size
  rw [hsz] at hs
  refine ⟨_, ho, hb1, by omega, h4.jn (m := 1) (fun _ _ => Nat.mod_lt _ (by decide)), by omega, ?_⟩
  have e1 : sm (2 ^ 32) (fun _ => (k + F i + G i) % 4294967296) 1 = (k + F i + G i) % 4294967296 := by simp [sm]
  rw [sm_jn, e1]
  simp only [sm]
  rw [pow_s (2 ^ 32) i]
  have e := carry_eq (P := (2 ^ 32) ^ i) (Bs := 2 ^ 32) (a := F i) (b := G i) (c := k) (v := (k + F i + G i) % 4294967296) (k' := (k + F i + G i) / 4294967296) (by omega)
  omega

end Go.Proofs.YtpcladdipgchbaaGreatDoor.nn
namespace Go.Proofs.YtpcladdipgchbaaGreatDoor.nn

/-- how many bits a number has -/
def bl (N : Nat) : Nat := if N = 0 then 0 else N.log2 + 1

theorem bl_lt (N : Nat) : N < 2 ^ bl N := by
  unfold bl
  split
  · omega
  · exact Nat.lt_log2_self
theorem bl_ge {N : Nat} (h : N ≠ 0) : 2 ^ (bl N - 1) ≤ N ∧ 0 < bl N := by
  unfold bl
  rw [if_neg h, Nat.add_sub_cancel]
  exact ⟨Nat.log2_self_le h, by omega⟩
end Go.Proofs.YtpcladdipgchbaaGreatDoor.nn
namespace Go.Proofs.YtpcladdipgchbaaGreatDoor.nn
open Go.RowKit

/-- the number of m bytes, the highest first -/
def be (b : Nat → Nat) : Nat → Nat
  | 0 => 0
  | k + 1 => be b k * 256 + b k
theorem pow256 (q r : Nat) : 256 ^ (4 * q + r) = 2 ^ (8 * r) * (2 ^ 32) ^ q := by
  rw [Nat.pow_add, Nat.mul_comm, Nat.pow_mul 256 4 q, Nat.pow_mul 2 8 r]
def BytRel (w wr : World) (g : Nat) (e : TypeId) (cur : Array Value) (m N i : Nat) : Prop :=
  ∃ (f' : Nat → Nat) (cur' : Array Value), Wrote w wr g e cur cur' 0 m ∧ Ints cur' .u8 0 m f' ∧ ∀ j, j < i → f' j = N / 256 ^ (m - 1 - j) % 256
theorem BytRel.step {w wr : World} {g : Nat} {e : TypeId} {cur : Array Value} {m N i : Nat} (h : BytRel w wr g e cur m N i) (hi : i < m) (v : Nat) (hv : v = N / 256 ^ (m - 1 - i) % 256) (z : Int) (hz : z = (v : Int)) : BytRel w (wr.setCell ⟨g, i, none⟩ (.int .u8 z)) g e cur m N (i + 1) := by
  subst hz
  obtain ⟨f', cur', h1, h2, h3⟩ := h
  have a := h1.set_ i hi (.int .u8 (v : Int))
  have b := h2.set_ i v hi
  rw [Nat.zero_add] at a b
  refine ⟨_, _, a, b, fun j hj => ?_⟩
  by_cases e : j = i
  · subst e; rw [upd_at]; exact hv
  · rw [upd_ne _ e]; exact h3 j (by omega)

end Go.Proofs.YtpcladdipgchbaaGreatDoor.nn
namespace Go.Proofs.YtpcladdipgchbaaGreatDoor.nn
open Go.RowKit

/-- how many bytes a number has -/
def nb (N : Nat) : Nat := (bl N + 7) / 8
theorem nb_zero : nb 0 = 0 := rfl
theorem nb_lt (N : Nat) : N < 256 ^ nb N := by
  refine Nat.lt_of_lt_of_le (bl_lt N) ?_
  rw [show (256 : Nat) = 2 ^ 8 from rfl, ← Nat.pow_mul]
  exact Nat.pow_le_pow_right (by decide) (by unfold nb; omega)
theorem nb_ge {N : Nat} (h : N ≠ 0) : 256 ^ (nb N - 1) ≤ N ∧ 0 < nb N := by
  obtain ⟨b1, b2⟩ := bl_ge h
  refine ⟨Nat.le_trans ?_ b1, by unfold nb; omega⟩
  rw [show (256 : Nat) = 2 ^ 8 from rfl, ← Nat.pow_mul]
  exact Nat.pow_le_pow_right (by decide) (by unfold nb; omega)
theorem nb_of {N j : Nat} (h1 : 256 ^ j ≤ N) (h2 : N < 256 ^ (j + 1)) : nb N = j + 1 := by
  have h3 : N ≠ 0 := by have := Nat.pow_pos (n := j) (by decide : 0 < 256); omega
  obtain ⟨h4, h5⟩ := nb_ge h3
  have h6 := nb_lt N
  rcases Nat.lt_trichotomy (nb N) (j + 1) with h | h | h
  · have : 256 ^ nb N ≤ 256 ^ j := Nat.pow_le_pow_right (by decide) (by omega)
    omega
  · exact h
  · have : 256 ^ (j + 1) ≤ 256 ^ (nb N - 1) := Nat.pow_le_pow_right (by decide) (by omega)
    omega
theorem nb_step {N0 N1 c : Nat} (h : N0 = N1 * 256 + c) (hc : c < 256) (hN : 0 < nb N1 ∨ c ≠ 0) : nb N0 = nb N1 + 1 := by
  by_cases h0 : N1 = 0
  · subst h0
    rw [nb_zero] at hN ⊢
    refine nb_of (j := 0) ?_ ?_
    · simp; omega
    · omega
  · obtain ⟨h1, h2⟩ := nb_ge h0
    have h3 := nb_lt N1
    obtain ⟨k, hk⟩ : ∃ k, nb N1 = k + 1 := ⟨nb N1 - 1, by omega⟩
    rw [hk] at h1 h3 ⊢
    rw [Nat.add_sub_cancel] at h1
    refine nb_of ?_ ?_
    · rw [Nat.pow_succ]; omega
    · rw [Nat.pow_succ]; omega

/-- the bytes of N stand in a row -/
def Byts (O : Nat → Nat) (N j : Nat) : Prop := j = nb N ∧ ∀ t, t < j → O t = N / 256 ^ (j - 1 - t) % 256
theorem Byts.step {O : Nat → Nat} {N0 N1 c j : Nat} (H : Byts O N1 j) (h : N0 = N1 * 256 + c) (hc : c < 256) (hN : 0 < j ∨ c ≠ 0) : Byts (jn O j (fun _ => c)) N0 (j + 1) := by
  obtain ⟨h1, h2⟩ := H
  refine ⟨by rw [h1, nb_step h hc (by rw [← h1]; exact hN)], fun t ht => ?_⟩
  by_cases e : t = j
  · subst e
    have := jn_hi O (fun _ => c) t 0
    rw [Nat.add_zero] at this
    rw [this, Nat.add_sub_cancel, Nat.sub_self, Nat.pow_zero, Nat.div_one, h]
    omega
  · rw [jn_lo O _ (by omega), h2 t (by omega), Nat.add_sub_cancel]
    obtain ⟨d, hd⟩ : ∃ d, j - t = d + 1 := ⟨j - t - 1, by omega⟩
    rw [hd, show j - 1 - t = d by omega, Nat.pow_succ, Nat.mul_comm (256 ^ d) 256, ← Nat.div_div_eq_div_mul, h, show (N1 * 256 + c) / 256 = N1 by omega]
end Go.Proofs.YtpcladdipgchbaaGreatDoor.nn
namespace Go.Proofs.YtpcladdipgchbaaGreatDoor.nn

/-- how many bytes a number needs behind the first -/
def hdS (n : Nat) : Nat := if n < 24 then 0 else if n < 256 then 1 else if n < 65536 then 2 else if n < 4294967296 then 4 else 8
/-- the info of so many bytes; 0: none -/
def hdI (k : Int) : Nat := if k = 1 then 24 else if k = 2 then 25 else if k = 4 then 26 else if k = 8 then 27 else 0
/-- is a head refused for its kind, or for the others' numbers -/
def hdX (M : Int) (n : Nat) (k : Int) : Bool := decide (M < 0 ∨ 7 < M ∨ (M = 7 ∧ ((24 ≤ n ∧ n ≤ 31) ∨ 255 < n ∨ 1 < k ∨ (k = 1 ∧ n < 32))))
/-- is there a head with so many bytes -/
def hdOk (M : Int) (n : Nat) (k : Int) : Bool := !hdX M n k && decide ((k = 0 ∨ hdI k ≠ 0) ∧ (hdS n : Int) ≤ k)
/-- byte i of a head with k bytes behind the first -/
def hdB (M n k i : Nat) : Nat := if i = 0 then M * 32 + (if k = 0 then n else hdI k) else n / 256 ^ (k - i) % 256
theorem hdI_cases (k : Int) : (k = 1 ∧ hdI k = 24) ∨ (k = 2 ∧ hdI k = 25) ∨ (k = 4 ∧ hdI k = 26) ∨ (k = 8 ∧ hdI k = 27) ∨ (k ≠ 1 ∧ k ≠ 2 ∧ k ≠ 4 ∧ k ≠ 8 ∧ hdI k = 0) := by
  unfold hdI
  by_cases h1 : k = 1
  · subst h1; simp
  · by_cases h2 : k = 2
    · subst h2; simp
    · by_cases h4 : k = 4
      · subst h4; simp
      · by_cases h8 : k = 8
        · subst h8; simp
        · simp [h1, h2, h4, h8]
theorem hdS_cases (n : Nat) : (n < 24 ∧ hdS n = 0) ∨ (24 ≤ n ∧ n < 256 ∧ hdS n = 1) ∨ (256 ≤ n ∧ n < 65536 ∧ hdS n = 2) ∨ (65536 ≤ n ∧ n < 4294967296 ∧ hdS n = 4) ∨ (4294967296 ≤ n ∧ hdS n = 8) := by
  unfold hdS
  split
  · exact .inl ⟨‹_›, rfl⟩
  · split
    · exact .inr (.inl ⟨by omega, ‹_›, rfl⟩)
    · split
      · exact .inr (.inr (.inl ⟨by omega, ‹_›, rfl⟩))
      · split
        · exact .inr (.inr (.inr (.inl ⟨by omega, ‹_›, rfl⟩)))
        · exact .inr (.inr (.inr (.inr ⟨by omega, rfl⟩)))
theorem hdOk_parts {M : Int} {n : Nat} {k : Int} (h : hdOk M n k = true) : hdX M n k = false ∧ (0 ≤ M ∧ M ≤ 7) ∧ (k = 0 ∨ k = 1 ∨ k = 2 ∨ k = 4 ∨ k = 8) ∧ (hdS n : Int) ≤ k := by
  unfold hdOk at h
  simp only [Bool.and_eq_true, Bool.not_eq_true', decide_eq_true_eq] at h
  obtain ⟨h1, h2, h3⟩ := h
  have h4 := of_decide_eq_false h1
  refine ⟨h1, by omega, ?_, h3⟩
  have := hdI_cases k
  omega
/-- what Get answers of m bytes f: kind, info, number, how many bytes, error -/
def gtR (f : Nat → Nat) (m : Nat) : Nat × Nat × Nat × Nat × Nat :=
  if m = 0 then (0, 0, 0, 0, 3)
  else if (28 ≤ f 0 % 32 ∧ f 0 % 32 ≤ 30) ∨ (f 0 % 32 = 31 ∧ (f 0 / 32 < 2 ∨ f 0 / 32 = 6)) then (0, 0, 0, 0, 4)
  else if f 0 % 32 < 24 then (f 0 / 32, f 0 % 32, f 0 % 32, 1, 0)
  else if f 0 % 32 = 31 then (f 0 / 32, 31, 0, 1, 0)
  else if f 0 / 32 = 7 ∧ f 0 % 32 = 24 ∧ 1 < m ∧ f 1 < 32 then (0, 0, 0, 1, 4)
  else if m < 2 ^ (f 0 % 32 - 24) + 1 then (0, 0, 0, m, 3)
  else (f 0 / 32, f 0 % 32, be (fun i => f (1 + i)) (2 ^ (f 0 % 32 - 24)), 2 ^ (f 0 % 32 - 24) + 1, 0)
end Go.Proofs.YtpcladdipgchbaaGreatDoor.nn
namespace Go.Proofs.YtpcladdipgchbaaGreatDoor.nn
open Go.RowKit

/-- what holds when i of the m bytes b are in -/
def FbRel (w wr : World) (g : Nat) (e : TypeId) (cur : Array Value) (L m : Nat) (b : Nat → Nat) (i : Nat) : Prop :=
  ∃ (f' : Nat → Nat) (cur' : Array Value), Wrote w wr g e cur cur' 0 L ∧ Ints cur' .u32 0 L f' ∧ Lt (2 ^ 32) f' L ∧ sm (2 ^ 32) f' L = be b i * 256 ^ (m - i) ∧
    ∀ q r, 4 * q + r + 1 = m - i → r < 4 → f' q % 2 ^ (8 * (r + 1)) = 0 ∧ ∀ j, j < q → f' j = 0

theorem byte_in {o x r : Nat} (hr : r < 4) (hx : x < 256) (ho : o < 2 ^ 32) (hm : o % 2 ^ (8 * (r + 1)) = 0) :
    o + x * 2 ^ (8 * r) < 2 ^ 32 ∧ (o + x * 2 ^ (8 * r)) % 2 ^ (8 * r) = 0 ∧ bits BinOp.or IntKind.u32 (o : Int) ((x : Int) * 2 ^ (8 * r) % 4294967296) = ((o + x * 2 ^ (8 * r) : Nat) : Int) := by
  have e : (x : Int) * 2 ^ (8 * r) % 4294967296 = ((x * 2 ^ (8 * r) : Nat) : Int) := by
    have h1 : ((x * 2 ^ (8 * r) : Nat) : Int) = (x : Int) * 2 ^ (8 * r) := by simp
    rw [← h1]
    match r, hr with
    | 0, _ => omega
    | 1, _ => show ((x * 256 : Nat) : Int) % 4294967296 = ((x * 256 : Nat) : Int); omega
    | 2, _ => show ((x * 65536 : Nat) : Int) % 4294967296 = ((x * 65536 : Nat) : Int); omega
    | 3, _ => show ((x * 16777216 : Nat) : Int) % 4294967296 = ((x * 16777216 : Nat) : Int); omega
  rw [e]
  have hb : x * 2 ^ (8 * r) < 2 ^ (8 * (r + 1)) := by
    rw [Nat.mul_add, Nat.pow_add, Nat.mul_comm]
    exact Nat.mul_lt_mul_of_pos_left hx (Nat.two_pow_pos _)
  have hj : o ||| x * 2 ^ (8 * r) = o + x * 2 ^ (8 * r) := nat_join (8 * (r + 1)) o _ hm hb
  have hlt : o + x * 2 ^ (8 * r) < 2 ^ 32 := by
    rw [← hj]
    refine Nat.or_lt_two_pow ho ?_
    refine Nat.lt_of_lt_of_le hb (Nat.pow_le_pow_right (by decide) (by omega))
  refine ⟨hlt, ?_, ?_⟩
  · rw [Nat.add_mul_mod_self_right]
    rw [Nat.mul_add, Nat.pow_add] at hm
    exact Nat.mod_eq_zero_of_dvd (Nat.dvd_trans (Nat.dvd_mul_right _ _) (Nat.dvd_of_mod_eq_zero hm))
  · rw [u32_or_nat o _ ho (by omega), hj]

theorem FbRel.step {w wr : World} {g : Nat} {e : TypeId} {cur : Array Value} {L m : Nat} {b : Nat → Nat} {i q r : Nat} {f' : Nat → Nat} {cur' : Array Value} (h1 : Wrote w wr g e cur cur' 0 L) (h2 : Ints cur' .u32 0 L f') (h3 : Lt (2 ^ 32) f' L)
    (h4 : sm (2 ^ 32) f' L = be b i * 256 ^ (m - i)) (h5 : f' q % 2 ^ (8 * (r + 1)) = 0 ∧ ∀ j, j < q → f' j = 0) (hi : i < m) (hp : m - 1 - i = 4 * q + r) (hr : r < 4) (hq : q < L) (hx : b i < 256) (z : Int) (hz : z = ((f' q + b i * 2 ^ (8 * r) : Nat) : Int)) :
    FbRel w (wr.setCell ⟨g, q, none⟩ (.int .u32 z)).drew g e cur L m b (i + 1) := by
  subst hz
  obtain ⟨k1, k2, _⟩ := byte_in hr hx (h3 q hq) h5.1
  have a := h1.set_ q hq (.int .u32 ((f' q + b i * 2 ^ (8 * r) : Nat) : Int))
  have c := h2.set_ q (f' q + b i * 2 ^ (8 * r)) hq
  rw [Nat.zero_add] at a c
  refine ⟨_, _, a.drewN 1, c, h3.upd k1, ?_, fun q' r' hq' hr' => ?_⟩
  · have h6 := sm_upd (2 ^ 32) f' (k := q) (f' q + b i * 2 ^ (8 * r)) hq
    have e1 : m - i = 4 * q + r + 1 := by omega
    have e2 : m - (i + 1) = 4 * q + r := by omega
    rw [h4, e1, Nat.pow_succ 256 (4 * q + r), pow256, Nat.add_mul] at h6
    rw [e2, be, pow256]
    generalize (2 ^ 32) ^ q = D at *
    generalize 2 ^ (8 * r) = E at *
    have e3 : be b i * (E * D * 256) = be b i * 256 * (E * D) := by rw [Nat.mul_comm (E * D) 256, Nat.mul_assoc]
    have e4 : b i * E * D = b i * (E * D) := Nat.mul_assoc _ _ _
    rw [e3, e4] at h6
    rw [Nat.add_mul]
    omega
  · by_cases h0 : r = 0
    · subst h0
      have : q' + 1 = q ∧ r' = 3 := by omega
      obtain ⟨rfl, rfl⟩ := this
      refine ⟨?_, fun j hj => ?_⟩
      · rw [upd_ne _ (by omega), h5.2 q' (by omega)]
      · rw [upd_ne _ (by omega)]; exact h5.2 j (by omega)
    · have : q' = q ∧ r' + 1 = r := by omega
      obtain ⟨rfl, rfl⟩ := this
      refine ⟨?_, fun j hj => ?_⟩
      · rw [upd_at]; exact k2
      · rw [upd_ne _ (by omega)]; exact h5.2 j hj

theorem be_lt {b : Nat → Nat} {n : Nat} (h : ∀ i, i < n → b i < 256) : be b n < 256 ^ n := by
  induction n with
  | zero => simp [be]
  | succ n ih =>
    have h1 := ih fun i hi => h i (by omega)
    have h2 := h n (by omega)
    rw [be, Nat.pow_succ]
    omega

end Go.Proofs.YtpcladdipgchbaaGreatDoor.nn
namespace Go.Proofs.YtpcladdipgchbaaGreatDoor.nn

theorem be_of10 {N m : Nat} {O : Nat → Nat} (hN : N < 256 ^ m) (hO : ∀ i, i < m → O i = N / 256 ^ (m - 1 - i) % 256) : ∀ i, i ≤ m → be O i = N / 256 ^ (m - i) := by
  intro i
  induction i with
  | zero => intro _; rw [Nat.sub_zero, Nat.div_eq_of_lt hN]; rfl
  | succ i ih =>
    intro hi
    rw [be, ih (by omega), hO i (by omega), show m - i = (m - 1 - i) + 1 by omega, show m - (i + 1) = m - 1 - i by omega, Nat.pow_succ, ← Nat.div_div_eq_div_mul]
    omega
section
variable {f g : Nat → Nat} {m m' : Nat}
/-- the ways of Get -/
theorem gt_cases (f : Nat → Nat) (m : Nat) : ∃ M x K, f 0 / 32 = M ∧ f 0 % 32 = x ∧ 2 ^ (x - 24) = K ∧
    ((m = 0 ∧ gtR f m = (0, 0, 0, 0, 3)) ∨
     (0 < m ∧ ((28 ≤ x ∧ x ≤ 30) ∨ (x = 31 ∧ (M < 2 ∨ M = 6))) ∧ gtR f m = (0, 0, 0, 0, 4)) ∨
     (0 < m ∧ x < 24 ∧ gtR f m = (M, x, x, 1, 0)) ∨
     (0 < m ∧ x = 31 ∧ gtR f m = (M, 31, 0, 1, 0)) ∨
     (1 < m ∧ M = 7 ∧ x = 24 ∧ f 1 < 32 ∧ gtR f m = (0, 0, 0, 1, 4)) ∨
     (0 < m ∧ (x = 24 ∨ x = 25 ∨ x = 26 ∨ x = 27) ∧ m < K + 1 ∧ gtR f m = (0, 0, 0, m, 3)) ∨
     (K + 1 ≤ m ∧ (x = 24 ∨ x = 25 ∨ x = 26 ∨ x = 27) ∧ ¬ (M = 7 ∧ x = 24 ∧ f 1 < 32) ∧ gtR f m = (M, x, be (fun i => f (1 + i)) K, K + 1, 0))) := by
  refine ⟨_, _, _, rfl, rfl, rfl, ?_⟩
  unfold gtR
  obtain ⟨M, hM⟩ : ∃ M, f 0 / 32 = M := ⟨_, rfl⟩
  obtain ⟨x, hx⟩ : ∃ M, f 0 % 32 = M := ⟨_, rfl⟩
  have hx31 : x ≤ 31 := by omega
  rw [hM, hx]
  by_cases h0 : m = 0
  · exact .inl ⟨h0, by rw [if_pos h0]⟩
  · rw [if_neg h0]
    refine .inr ?_
    by_cases h1 : (28 ≤ x ∧ x ≤ 30) ∨ (x = 31 ∧ (M < 2 ∨ M = 6))
    · exact .inl ⟨by omega, h1, by rw [if_pos h1]⟩
    · rw [if_neg h1]
      refine .inr ?_
      by_cases h2 : x < 24
      · exact .inl ⟨by omega, h2, by rw [if_pos h2]⟩
      · rw [if_neg h2]
        refine .inr ?_
        by_cases h3 : x = 31
        · exact .inl ⟨by omega, h3, by rw [if_pos h3]⟩
        · rw [if_neg h3]
          refine .inr ?_
          by_cases h4 : M = 7 ∧ x = 24 ∧ 1 < m ∧ f 1 < 32
          · exact .inl ⟨h4.2.2.1, h4.1, h4.2.1, h4.2.2.2, by rw [if_pos h4]⟩
          · rw [if_neg h4]
            refine .inr ?_
            by_cases h5 : m < 2 ^ (x - 24) + 1
            · exact .inl ⟨by omega, by omega, h5, by rw [if_pos h5]⟩
            · rw [if_neg h5]
              have : 0 < 2 ^ (x - 24) := Nat.pow_pos (by decide)
              exact .inr ⟨by omega, by omega, fun h => h4 ⟨h.1, h.2.1, by omega, h.2.2⟩, rfl⟩
theorem two_k {x : Nat} (h : x = 24 ∨ x = 25 ∨ x = 26 ∨ x = 27) : (2 ^ (x - 24) = 1 ∧ x = 24 ∨ 2 ^ (x - 24) = 2 ∧ x = 25 ∨ 2 ^ (x - 24) = 4 ∧ x = 26 ∨ 2 ^ (x - 24) = 8 ∧ x = 27) := by
  rcases h with rfl | rfl | rfl | rfl <;> decide
/-- what errs as short: all there is, and less than 9 -/
theorem gt_short (h : (gtR f m).2.2.2.2 = 3) : (gtR f m).2.2.2.1 = m ∧ m < 9 := by
  obtain ⟨M, x, K, _, _, hK, h1 | h1 | h1 | h1 | h1 | h1 | h1⟩ := gt_cases f m
  · rw [h1.2]; exact ⟨h1.1.symm, by omega⟩
  · rw [h1.2.2] at h; cases h
  · rw [h1.2.2] at h; cases h
  · rw [h1.2.2] at h; cases h
  · rw [h1.2.2.2.2] at h; cases h
  · rw [h1.2.2.2]
    have := two_k h1.2.1
    exact ⟨rfl, by omega⟩
  · rw [h1.2.2.2] at h; cases h
theorem gt_errs : (gtR f m).2.2.2.2 = 0 ∨ (gtR f m).2.2.2.2 = 3 ∨ (gtR f m).2.2.2.2 = 4 := by
  obtain ⟨M, x, K, _, _, _, h1 | h1 | h1 | h1 | h1 | h1 | h1⟩ := gt_cases f m
  · rw [h1.2]; exact .inr (.inl rfl)
  · rw [h1.2.2]; exact .inr (.inr rfl)
  · rw [h1.2.2]; exact .inl rfl
  · rw [h1.2.2]; exact .inl rfl
  · rw [h1.2.2.2.2]; exact .inr (.inr rfl)
  · rw [h1.2.2.2]; exact .inr (.inl rfl)
  · rw [h1.2.2.2]; exact .inl rfl
/-- what errs errs with the same byte, whatever stands behind it -/
theorem gt_form {k : Nat} (h : (gtR f m).2.2.2.2 = 4) (hk : (gtR f m).2.2.2.1 = k) : k ≤ 1 ∧ k < m ∧ ∀ g m', (∀ i, i ≤ k → g i = f i) → k < m' → gtR g m' = (0, 0, 0, k, 4) := by
  obtain ⟨M, x, K, hM, hx, hK, h1 | h1 | h1 | h1 | h1 | h1 | h1⟩ := gt_cases f m
  · rw [h1.2] at h; cases h
  · rw [h1.2.2] at hk
    obtain rfl : 0 = k := hk
    refine ⟨by omega, h1.1, fun g m' hg hm => ?_⟩
    unfold gtR
    rw [hg 0 (by omega), hM, hx, if_neg (by omega), if_pos h1.2.1]
  · rw [h1.2.2] at h; cases h
  · rw [h1.2.2] at h; cases h
  · rw [h1.2.2.2.2] at hk
    obtain rfl : 1 = k := hk
    refine ⟨by omega, h1.1, fun g m' hg hm => ?_⟩
    unfold gtR
    rw [hg 0 (by omega), hg 1 (by omega), hM, hx, if_neg (by omega), if_neg (by omega), if_neg (by omega), if_neg (by omega), if_pos ⟨h1.2.1, h1.2.2.1, hm, h1.2.2.2.1⟩]
  · rw [h1.2.2.2] at h; cases h
  · rw [h1.2.2.2] at h; cases h
/-- a head that is written is read -/
theorem gt_back {M : Int} {n : Nat} {k : Int} (h : hdOk M n k = true) (hn : n < 18446744073709551616) (hf : ∀ i, i < k.toNat + 1 → f i = hdB M.toNat n k.toNat i) (hm : k.toNat + 1 ≤ m) : ∃ x, gtR f m = (M.toNat, x, n, k.toNat + 1, 0) := by
  obtain ⟨h1, h2, h3, h4⟩ := hdOk_parts h
  have h5 := hdS_cases n
  have h6 : ¬ _ := of_decide_eq_false h1
  obtain ⟨q, rfl⟩ : ∃ q : Nat, M = (q : Int) := ⟨M.toNat, by omega⟩
  rw [Int.toNat_natCast] at hf ⊢
  have f0 := hf 0 (by omega)
  have all : ∀ K x : Nat, K ≠ 0 → n < 256 ^ K → (∀ i, i < K + 1 → f i = hdB q n K i) → be (fun i => f (1 + i)) K = n := fun K x h0 hK hf => by
    have := be_of10 (O := fun i => f (1 + i)) hK (fun i hi => by
      show f (1 + i) = _
      rw [hf (1 + i) (by omega)]
      unfold hdB
      rw [if_neg (by omega), show K - (1 + i) = K - 1 - i by omega]) K (Nat.le_refl _)
    rw [this, Nat.sub_self, Nat.pow_zero, Nat.div_one]
  rcases h3 with rfl | rfl | rfl | rfl | rfl
  · refine ⟨n, ?_⟩
    have e : f 0 = q * 32 + n := f0
    unfold gtR
    rw [if_neg (by omega), if_neg (by omega), if_pos (by omega), show f 0 / 32 = q by omega, show f 0 % 32 = n by omega]
    rfl
  · refine ⟨24, ?_⟩
    have e : f 0 = q * 32 + 24 := f0
    have e1 : f 1 = n / 1 % 256 := hf 1 (by decide)
    have hm2 : 2 ≤ m := hm
    unfold gtR
    rw [if_neg (by omega), show f 0 / 32 = q by omega, show f 0 % 32 = 24 by omega, if_neg (by omega), if_neg (by omega), if_neg (by omega), if_neg (by omega), show 2 ^ (24 - 24) = 1 from rfl, if_neg (by omega), all 1 0 (by decide) (by omega) hf]
    rfl
  · refine ⟨25, ?_⟩
    have e : f 0 = q * 32 + 25 := f0
    have hm2 : 3 ≤ m := hm
    unfold gtR
    rw [if_neg (by omega), show f 0 / 32 = q by omega, show f 0 % 32 = 25 by omega, if_neg (by omega), if_neg (by omega), if_neg (by omega), if_neg (by omega), show 2 ^ (25 - 24) = 2 from rfl, if_neg (by omega), all 2 0 (by decide) (by omega) hf]
    rfl
  · refine ⟨26, ?_⟩
    have e : f 0 = q * 32 + 26 := f0
    have hm2 : 5 ≤ m := hm
    unfold gtR
    rw [if_neg (by omega), show f 0 / 32 = q by omega, show f 0 % 32 = 26 by omega, if_neg (by omega), if_neg (by omega), if_neg (by omega), if_neg (by omega), show 2 ^ (26 - 24) = 4 from rfl, if_neg (by omega), all 4 0 (by decide) (by omega) hf]
    rfl
  · refine ⟨27, ?_⟩
    have e : f 0 = q * 32 + 27 := f0
    have hm2 : 9 ≤ m := hm
    unfold gtR
    rw [if_neg (by omega), show f 0 / 32 = q by omega, show f 0 % 32 = 27 by omega, if_neg (by omega), if_neg (by omega), if_neg (by omega), if_neg (by omega), show 2 ^ (27 - 24) = 8 from rfl, if_neg (by omega), all 8 0 (by decide) (by omega) hf]
    rfl
end
end Go.Proofs.YtpcladdipgchbaaGreatDoor.nn
namespace Go.Proofs.YtpcladdipgchbaaGreatDoor.nn
open Go.RowKit

/-- the text of n bytes f -/
def pc (f : Nat → Nat) (n : Nat) : ByteArray := strOfNums ((List.range n).map fun i => (f i : Int))
theorem pc_size (f : Nat → Nat) (n : Nat) : (pc f n).size = n := by unfold pc; rw [strOfNums_size]; simp
theorem bt_pc {f : Nat → Nat} {n i : Nat} (h : i < n) (hf : f i < 256) : bt (pc f n) i = f i := by
  have h2 : i < (pc f n).size := by rw [pc_size]; exact h
  rw [bt_at h2]
  show ((pc f n).data[i]).toNat = f i
  have : (pc f n).data[i]? = some (UInt8.ofNat (f i)) := by
    unfold pc strOfNums
    simp [h]
  have e : (pc f n).data[i] = UInt8.ofNat (f i) := by
    have h3 := Array.getElem?_eq_getElem (xs := (pc f n).data) (i := i) h2
    rw [this] at h3
    injection h3 with h3
    exact h3.symm
  rw [e, UInt8.toNat_ofNat']
  omega

/-- a text made of a slice of bytes, nil or not -/
theorem conv_row (A : Option Addr) (n c : Nat) (f : Nat → Nat) (w : World) (h : Rd w .u8 A n f) :
    (convert 28 9 (.slice A n c)).run Tryz.prog w = .ok (.string (pc f n)) w := by
  by_cases h0 : 0 < n
  · obtain ⟨b, off, rfl, _, hc⟩ := h h0
    exact run_convert_bytes_arg w 28 5 Tryz.underlying28 Tryz.underlying5 b off n c _ (by simp) (fun i hi => by
      rw [hc i hi]
      simp [hi]) 9 Tryz.underlying9
  · obtain rfl : n = 0 := by omega
    have e : pc f 0 = ByteArray.empty := rfl
    rw [e]
    cases A with
    | none => exact run_convert_bytes_nil w 28 5 Tryz.underlying28 Tryz.underlying5 0 c 9 Tryz.underlying9
    | some a =>
      rw [run_convert_bytes_string w 28 9 5 (some a) 0 c Tryz.underlying28 Tryz.underlying5 Tryz.underlying9]
      exact run_bytesToString w a 0 c [] (run_loadCells_list (P := Tryz.prog) w a [] (fun j v hv => by simp at hv))
end Go.Proofs.YtpcladdipgchbaaGreatDoor.nn
namespace Go.Proofs.YtpcladdipgchbaaGreatDoor.nn
open Go.RowKit

/-- a list of whole numbers lies in memory -/
def Ri (w : World) (A : Option Addr) (zs : List Int) : Prop := zs = [] ∨ ∃ (b off : Nat), A = some ⟨b, off, none⟩ ∧ b < w.heap.size ∧ ∀ i (h : i < zs.length), w.cell? ⟨b, off + i, none⟩ = some (.int .i64 zs[i])
theorem Ri.keep {w w' : World} {A : Option Addr} {zs : List Int} (h : Ri w A zs) {B : Nat} (hB : Below B w w') (hs : w.heap.size ≤ B) : Ri w' A zs := by
  rcases h with h | ⟨b, off, h1, h2, h3⟩
  · exact .inl h
  · exact .inr ⟨b, off, h1, Nat.lt_of_lt_of_le h2 hB.size, fun i hi => (hB.cell (p := ⟨b, off + i, none⟩) (Nat.lt_of_lt_of_le h2 hs)).trans (h3 i hi)⟩
/-- the value at a path -/
def atP : VT → List Int → Option VT
  | t, [] => some t
  | t, z :: r => if h : 0 ≤ z ∧ z.toNat < t.l.length then atP (t.l[z.toNat]'h.2) r else none
def zt : VT := .mk 0 false 0 ⟨#[]⟩ []
def atV (r : Option VT) : VT := r.getD zt
def atE (r : Option VT) : Nat := match r with | some _ => 0 | none => 1
theorem atP_no {t : VT} {zs : List Int} {i : Nat} (h : i < zs.length) (hz : ¬ (0 ≤ zs[i] ∧ zs[i].toNat < t.l.length)) : atP t (zs.drop i) = none := by
  rw [List.drop_eq_getElem_cons h]
  unfold atP
  rw [dif_neg hz]
theorem atP_on {t : VT} {zs : List Int} {i j : Nat} (h : i < zs.length) (hz : zs[i] = (j : Int)) (hj : j < t.l.length) : atP t (zs.drop i) = atP t.l[j] (zs.drop (i + 1)) := by
  rw [List.drop_eq_getElem_cons h]
  have e : zs[i].toNat = j := by omega
  rw [atP, dif_pos ⟨by omega, by omega⟩]
  simp only [e]
/-- the cells of a value -/
def vc (t : VT) (C : Value) : Array Value := #[.int .i64 t.k, .bool t.g, .int .u64 (t.n : Int), .string t.s, C]
/-- two new blocks, each a value -/
structure Bx (w : World) (t : VT) (C : Value) (u : VT) (D : Value) (W : World) : Prop where
  b : Below w.heap.size w W
  r : Bk W w.heap.size 25 (vc t C)
  r2 : Bk W (w.heap.size + 1) 25 (vc u D)
theorem Bx.new (w : World) (t : VT) (C : Value) (u : VT) (D : Value) : Bx w t C u D ((w.alloc (.cells (vc t C) 25)).alloc (.cells (vc u D) 25)) := by
  have hz : (w.alloc (.cells (vc t C) 25)).heap.size = w.heap.size + 1 := by simp
  refine ⟨((Below.refl _ _).alloc (Nat.le_refl _) _).alloc (by simp) _, ?_, ?_⟩
  · exact (Below.heap_alloc _ _ _ (by simp)).trans (heap_alloc_last _ _)
  · have := heap_alloc_last (w.alloc (.cells (vc t C) 25)) (.cells (vc u D) 25)
    rw [hz] at this
    exact this
theorem below_set5 {B g : Nat} {w W : World} (h : Below B w W) (hg : B ≤ g) (a b c d e : Value) :
    Below B w (((((W.setCell ⟨g, 0, none⟩ a).setCell ⟨g, 1, none⟩ b).setCell ⟨g, 2, none⟩ c).setCell ⟨g, 3, none⟩ d).setCell ⟨g, 4, none⟩ e) :=
  ((((h.setCell hg _).setCell hg _).setCell hg _).setCell hg _).setCell hg _
theorem bk_set5 {W : World} {g : Nat} {T : TypeId} {t : VT} {C : Value} (h : Bk W g T (vc t C)) (a b c d e : Value) :
    Bk (((((W.setCell ⟨g, 0, none⟩ a).setCell ⟨g, 1, none⟩ b).setCell ⟨g, 2, none⟩ c).setCell ⟨g, 3, none⟩ d).setCell ⟨g, 4, none⟩ e) g T #[a, b, c, d, e] :=
  ((((h.set_ 0 a).set_ 1 b).set_ 2 c).set_ 3 d).set_ 4 e
theorem bk_other {W : World} {g g' j : Nat} {T : TypeId} {cs : Array Value} {v : Value} (h : Bk W g T cs) (hg : g' ≠ g) : Bk (W.setCell ⟨g', j, none⟩ v) g T cs := by
  unfold Bk at h ⊢
  simp [World.setCell, Array.getElem?_modify, h, hg]
theorem bk_other5 {W : World} {g g' : Nat} {T : TypeId} {cs : Array Value} (h : Bk W g T cs) (hg : g' ≠ g) (a b c d e : Value) :
    Bk (((((W.setCell ⟨g', 0, none⟩ a).setCell ⟨g', 1, none⟩ b).setCell ⟨g', 2, none⟩ c).setCell ⟨g', 3, none⟩ d).setCell ⟨g', 4, none⟩ e) g T cs :=
  bk_other (bk_other (bk_other (bk_other (bk_other h hg) hg) hg) hg) hg
end Go.Proofs.YtpcladdipgchbaaGreatDoor.nn
namespace Go.Proofs.YtpcladdipgchbaaGreatDoor.nn
open Go.RowKit

def gL (L : List UInt8) : Nat → Nat := fun i => (L.getD i 0).toNat
section
variable {i : Nat} {L M : List UInt8}
theorem gL_left (h : i < L.length) : gL (L ++ M) i = gL L i := by
  unfold gL
  simp [List.getD, List.getElem?_append_left h]
theorem gL_right : gL (L ++ M) (L.length + i) = gL M i := by
  unfold gL
  simp [List.getD, List.getElem?_append_right]
theorem gL_lt : gL L i < 256 := UInt8.toNat_lt _
theorem gL_at (h : i < L.length) : gL L i = (L[i]).toNat := by unfold gL; rw [List.getD_eq_getElem?_getD, List.getElem?_eq_getElem h]; rfl
theorem bc_vl (L : List UInt8) : Lib.byteCells L = vl .u8 (gL L) L.length := by
  apply List.ext_getElem?
  intro i
  by_cases h : i < L.length
  · rw [vl_at .u8 _ h, gL_at h]
    unfold Lib.byteCells
    rw [List.getElem?_map, List.getElem?_eq_getElem h]
    rfl
  · rw [List.getElem?_eq_none (by rw [Lib.byteCells_length]; omega), List.getElem?_eq_none (by rw [vl_length]; omega)]
theorem jn_list (L M : List UInt8) : ∀ i, i < L.length + M.length → jn (gL L) L.length (gL M) i = gL (L ++ M) i := fun i hi => by
  by_cases h : i < L.length
  · rw [jn_lo _ _ h, gL_left h]
  · obtain ⟨j, rfl⟩ : ∃ j, i = L.length + j := ⟨i - L.length, by omega⟩
    rw [jn_hi, gL_right]
theorem pc_list (L : List UInt8) : pc (gL L) L.length = ⟨L.toArray⟩ := by
  unfold pc strOfNums
  congr 2
  apply List.ext_getElem
  · simp
  · intro j h1 h2
    simp only [List.getElem_map, List.getElem_range]
    rw [gL_at h2]
    show UInt8.ofNat (L[j]).toNat = _
    exact UInt8.ofNat_toNat
/-- what the call owns reads as its bytes -/
theorem rd_list {w : World} {base : Nat} {e : TypeId} {v : Value} {n : Nat} (hn : n = L.length) (h : w.ownsRow base e 1 v n (Lib.byteCells L)) : ∃ A c, v = .slice A n c ∧ n ≤ c ∧ c ≤ maxLen ∧ Rd w .u8 A n (gL L) := by
  subst hn
  rw [bc_vl] at h
  exact Rd.of_own h
/-- what the call owns it owns behind a call that only makes memory -/
theorem own_below {w w' : World} {base : Nat} {e : TypeId} {size n : Nat} {v : Value} {xs : List Value} (h : w.ownsRow base e size v n xs) (hb : Below w.heap.size w w') : w'.ownsRow base e size v n xs :=
  h.kept (row := none) ⟨hb.os, hb.tape, hb.output, hb.size, fun k hk _ => hb.block k hk⟩ (by
    cases hv : v.ownBlock with
    | none => exact .inl rfl
    | some k => exact .inr (by simp))
/-- the text made of it -/
theorem conv_list {w : World} {base : Nat} {e : TypeId} {v : Value} {n : Nat} (hn : n = L.length) (h : w.ownsRow base e 1 v n (Lib.byteCells L)) :
    (convert 28 9 v).run Tryz.prog w = .ok (.string ⟨L.toArray⟩) w := by
  obtain ⟨A, c, rfl, _, _, hr⟩ := rd_list hn h
  subst hn
  rw [← pc_list]
  exact conv_row A L.length c (gL L) w hr
end

section
variable {P : Program} {w : World}
theorem wpList_appB {ops : Array Oper} {rest : List Oper} {o : Oper} {a : Act} {Q : Exit → Act → World → Prop} (hgd : o.guard = none) (s x : Operand) (t : TypeId)
    (ho : o.op = .call { callee := .builtin .append, args := #[s, x], argTypes := #[t, t] })
    (base : Nat) (e : TypeId) (i : TypeInfo) (z : Value) (ht : P.underlying t = some (.slice e)) (hi : P.info? e = some i) (hz : i.zero = some z)
    (hsize : i.size = 1) (hby : i.bytes = 1) (hzs : z.cells.size = 1)
    (v : Value) (n : Nat) (L : List UInt8) (hn : n = L.length) (hs : a.eval s = v) (hown : w.ownsRow base e 1 v n (Lib.byteCells L))
    (A : Option Addr) (m c : Nat) (M : List UInt8) (hm : m = M.length) (hx : a.eval x = .slice A m c) (hr : Rd w .u8 A m (gL M)) (hle : n + m ≤ 140737488355328) (hbase : base ≤ w.heap.size)
    (k : ∀ v' w', w'.ownsRow base e 1 v' (n + m) (Lib.byteCells (L ++ M)) → Below base w w' → wpList P ops Q rest (a.put o.dst v') w') : wpList P ops Q (o :: rest) a w := by
  subst hn hm
  rw [bc_vl] at hown
  refine wpList_app hgd s x t ho base e i z 1 ht hi hz hsize hby hzs .u8 v L.length (gL L) hs hown A M.length c (gL M) hx hr (by unfold maxLen; omega) (by omega) hbase fun v' w' h1 h2 => k v' w' ?_ h2
  rw [bc_vl, vl_congr .u8 (fun i hi => (jn_list L M i (by rw [List.length_append] at hi; exact hi)).symm), List.length_append]
  exact h1
theorem wpList_appS {ops : Array Oper} {rest : List Oper} {o : Oper} {a : Act} {Q : Exit → Act → World → Prop} (hgd : o.guard = none) (s x : Operand) (t u : TypeId)
    (ho : o.op = .call { callee := .builtin .append, args := #[s, x], argTypes := #[t, u] })
    (base : Nat) (e : TypeId) (i : TypeInfo) (ht : P.underlying t = some (.slice e)) (hu : P.underlying u = some .string) (hi : P.info? e = some i) (hz : i.zero = some (.int .u8 0))
    (hsize : i.size = 1) (hby : i.bytes = 1)
    (v : Value) (n : Nat) (L : List UInt8) (hs : a.eval s = v) (hown : w.ownsRow base e 1 v n (Lib.byteCells L)) (T : ByteArray) (hx : a.eval x = .string T)
    (hle : n + T.size ≤ 140737488355328) (hbase : base ≤ w.heap.size)
    (k : ∀ v' w', w'.ownsRow base e 1 v' (n + T.size) (Lib.byteCells (L ++ T.data.toList)) → Below base w w' → wpList P ops Q rest (a.put o.dst v') w') : wpList P ops Q (o :: rest) a w := by
  refine Lib.wpList_append_own_string w hgd s x t u ho base e i ht hu hi hz hsize hby v n _ hs hown T hx (by unfold maxLen; omega) hle hbase fun v' w' h1 h2 _ => k v' w' ?_ ((Below.refl base w).grown h2 hbase (fun k hk => (hown.lt k hk).1))
  rw [Lib.byteCells_append, ← Lib.strCells_eq]
  exact h1
end
end Go.Proofs.YtpcladdipgchbaaGreatDoor.nn
