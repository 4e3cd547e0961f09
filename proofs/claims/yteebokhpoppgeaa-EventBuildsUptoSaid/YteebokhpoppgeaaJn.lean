/- Joined texts, what is wanted of them: EvM, Bm, BmA, BmB, BmV, EvRun, Rb, RbV. -/
import Derived.BigRegion
import Derived.ChangeAlike
import Derived.Laws.AppendOwn
import Derived.Maps.AppendAt
import Derived.Laws.OwnMore
import Derived.Lib.Hide
import Derived.Deep.QuietTactic
import Derived.BigQuiet
import Derived.StillTailTactics
import Derived.IntWalk
import Derived.Deep.RegionHeld3
import Derived.Test.YteebokhpoppgeaaProg
import Derived.WalkKit
import Derived.Test.YteebokhpoppgeaaJa
import Derived.Test.YteebokhpoppgeaaJk
import Derived.Test.YteebokhpoppgeaaJc
import Derived.Test.YteebokhpoppgeaaJg
import Derived.Test.YteebokhpoppgeaaJe
namespace Go.Proofs.Yteebokhpoppgeaa.nn

/-- what is open, the innermost first; the whole value; how many values; how deep at most -/
structure Bst where
  op : List VT
  v : Option VT
  n : Nat
  most : Nat
/-- nothing -/
def emp : VT := .mk 0 false 0 ⟨#[]⟩ []
/-- an event's value, with nothing in it -/
def bare (e : Ev) : VT := .mk e.k e.g e.n e.s []
/-- likewise, but a tag with something in it -/
def asked (e : Ev) : VT := .mk e.k e.g e.n e.s (if e.k = 13 then [emp] else [])
/-- one value more within -/
def VT.snoc (p v : VT) : VT := .mk p.k p.g p.n p.s (p.l ++ [v])
/-- may what is open innermost end? -/
def endOk : List VT → Bool | [] => false | p :: _ => decide (p.k = 11) || (decide (p.k = 12) && decide (p.l.length % 2 = 0))
/-- is what is open innermost a tag 2 or 3? -/
def tag23 : List VT → Bool | [] => false | p :: _ => decide (p.k = 13) && (decide (p.n = 2) || decide (p.n = 3))
/-- may an event go on? -/
def mayB (S : Bst) (e : Ev) : Nat :=
  if S.v.isSome = true then 4
  else if e.k = 15 then (if (e.g = false ∧ e.n = 0 ∧ e.s.size = 0) ∧ endOk S.op = true then 0 else 4)
  else if oneB (asked e) = false ∨ (tag23 S.op = true ∧ e.k = 9 ∧ big e.s = true) then 4
  else if S.most < S.op.length + dep (bare e) ∨ 65536 ≤ S.n then 8
  else 0
/-- a whole value goes on -/
def addB : List VT → VT → List VT × Option VT
  | [], v => ([], some v)
  | p :: r, v => if p.k = 13 then addB r (p.snoc v) else (p.snoc v :: r, none)
/-- an event goes on -/
def putB (S : Bst) (e : Ev) : Bst :=
  if mayB S e ≠ 0 then S
  else if e.k = 15 then ⟨(addB S.op.tail (S.op.headD emp)).1, (addB S.op.tail (S.op.headD emp)).2, S.n, S.most⟩
  else if lf e.k = true then ⟨(addB S.op (bare e)).1, (addB S.op (bare e)).2, S.n + 1, S.most⟩
  else ⟨bare e :: S.op, none, S.n + 1, S.most⟩
def newB (d : Int) : Bst := ⟨[], none, 0, (min (max d 0) 64).toNat⟩
/-- events go on, till one errs: the state, how many went, the error -/
def runB : Bst → List Ev → Bst × Nat × Nat
  | S, [] => (S, 0, 0)
  | S, e :: r => if mayB S e = 0 then ((runB (putB S e) r).1, (runB (putB S e) r).2.1 + 1, (runB (putB S e) r).2.2) else (S, 0, mayB S e)
section
variable {S : Bst} {L M : List Ev}
end
end Go.Proofs.Yteebokhpoppgeaa.nn
namespace Go.Proofs.Yteebokhpoppgeaa.nn
open Go.RowKit

/-- a slice holds a list of trees, all in blocks of F -/
inductive Lsf (F : Nat → Prop) (w : World) : Value → List VT → Prop where
  | nil_ {A : Option Addr} {c : Nat} : Lsf F w (.slice A 0 c) []
  | at_ {b off m c : Nat} {C : Nat → Value} {l : List VT} (hl : l.length = m) (hc : m ≤ c) (h0 : F b) (hb : b < w.heap.size) (hr : ∀ i (h : i < l.length), Row w b (off + i * 5) l[i] (C i)) (hk : ∀ i (h : i < l.length), Lsf F w (C i) l[i].l) : Lsf F w (.slice (some ⟨b, off, none⟩) m c) l
theorem Lsf.lst {F : Nat → Prop} {w : World} {v : Value} {l : List VT} (h : Lsf F w v l) : Lst w v l := by
  induction h with
  | nil_ => exact .nil_
  | at_ hl hc h0 hb hr hk ih => exact .at_ hl hc hb hr ih
theorem Lsf.wide {F G : Nat → Prop} {w : World} {v : Value} {l : List VT} (h : Lsf F w v l) (hG : ∀ b, F b → b < w.heap.size → G b) : Lsf G w v l := by
  induction h with
  | nil_ => exact .nil_
  | at_ hl hc h0 hb hr hk ih => exact .at_ hl hc (hG _ h0 hb) hb hr ih
theorem Lsf.keep {F : Nat → Prop} {w w' : World} {v : Value} {l : List VT} (h : Lsf F w v l) (hs : w.heap.size ≤ w'.heap.size) (hb : ∀ b, F b → b < w.heap.size → w'.heap[b]? = w.heap[b]?) : Lsf F w' v l := by
  induction h with
  | nil_ => exact .nil_
  | at_ hl hc h0 hlt hr hk ih =>
    refine .at_ hl hc h0 (by omega) (fun i h => ?_) ih
    have e := hb _ h0 hlt
    have h := hr i h
    exact ⟨(World.cell?_of_block e).trans h.k, (World.cell?_of_block e).trans h.g, (World.cell?_of_block e).trans h.n, (World.cell?_of_block e).trans h.s, (World.cell?_of_block e).trans h.l⟩
/-- the nine cells of a build -/
def bmC (A : Option Addr) (c : Nat) (D : Value) (S : Bst) : Array Value :=
  #[.slice A S.op.length c, .bool S.v.isSome, .int .i64 (S.v.getD emp).k, .bool (S.v.getD emp).g, .int .u64 ((S.v.getD emp).n : Int), .string (S.v.getD emp).s, D, .int .i64 (S.n : Int), .int .i64 (S.most : Int)]
/-- one's own blocks, but for the build's and that of what is open -/
def Oth (O : Nat → Prop) (g : Nat) (A : Option Addr) (b : Nat) : Prop := O b ∧ b ≠ g ∧ ∀ a, A = some a → a.block ≠ b
/-- what is open, from the root on -/
def Opn (w : World) (g : Nat) (O : Nat → Prop) (A : Option Addr) (c : Nat) (l : List VT) : Prop :=
  l = [] ∨ ∃ (go : Nat) (C : Nat → Value), A = some ⟨go, 0, none⟩ ∧ O go ∧ go ≠ g ∧ l.length ≤ c ∧ (∀ o, w.frozen? ⟨go, o, none⟩ = false) ∧ ∀ i (h : i < l.length), Row w go (i * 5) l[i] (C i) ∧ Lsf (Oth O g A) w (C i) l[i].l
/-- a build in memory: block g; O: the blocks that are its own -/
structure Bm (w : World) (g : Nat) (O : Nat → Prop) (S : Bst) : Prop where
  o : O g
  lo : ∀ b, O b → b < w.heap.size
  x : ∃ A c D, Bk w g 38 (bmC A c D S) ∧ Opn w g O A c S.op.reverse ∧ Lsf (Oth O g A) w D (S.v.getD emp).l
/-- others' steps leave it alone -/
theorem Bm.keep {w w' : World} {g : Nat} {O : Nat → Prop} {S : Bst} (h : Bm w g O S) (hs : w.heap.size ≤ w'.heap.size) (hb : ∀ b, O b → w'.heap[b]? = w.heap[b]?) : Bm w' g O S := by
  obtain ⟨h1, h2, A, c, D, h3, h4, h5⟩ := h
  have ho : ∀ b, Oth O g A b → b < w.heap.size → w'.heap[b]? = w.heap[b]? := fun b hb1 _ => hb b hb1.1
  refine ⟨h1, fun b hb1 => Nat.lt_of_lt_of_le (h2 b hb1) hs, A, c, D, (hb g h1).trans h3, ?_, h5.keep hs ho⟩
  rcases h4 with h4 | ⟨go, C, h6, h7, h8, h9, h10, h11⟩
  · exact .inl h4
  · refine .inr ⟨go, C, h6, h7, h8, h9, fun o => (World.frozen?_of_block (hb go h7)).trans (h10 o), fun i hi => ?_⟩
    obtain ⟨r, k⟩ := h11 i hi
    have e := hb go h7
    exact ⟨⟨(World.cell?_of_block e).trans r.k, (World.cell?_of_block e).trans r.g, (World.cell?_of_block e).trans r.n, (World.cell?_of_block e).trans r.s, (World.cell?_of_block e).trans r.l⟩, k.keep hs ho⟩
theorem Opn.top {w : World} {g : Nat} {O : Nat → Prop} {A : Option Addr} {c : Nat} {p : VT} {r : List VT} (h : Opn w g O A c (p :: r).reverse) : ∃ go C, A = some ⟨go, 0, none⟩ ∧ O go ∧ go ≠ g ∧ r.length + 1 ≤ c ∧ (∀ o, w.frozen? ⟨go, o, none⟩ = false) ∧ Row w go (r.length * 5) p C ∧ Lsf (Oth O g A) w C p.l := by
  rcases h with h | ⟨go, C, h1, h2, h3, h4, h5, h6⟩
  · simp at h
  · have hl : (p :: r).reverse.length = r.length + 1 := by simp
    have hi : r.length < (p :: r).reverse.length := by omega
    have e : (p :: r).reverse[r.length] = p := by simp
    obtain ⟨h7, h8⟩ := h6 r.length hi
    rw [e] at h7 h8
    exact ⟨go, C r.length, h1, h2, h3, by omega, h5, h7, h8⟩
theorem Bm.below {w w' : World} {g : Nat} {O : Nat → Prop} {S : Bst} (h : Bm w g O S) (hB : Below w.heap.size w w') : Bm w' g O S := h.keep hB.size fun b hb => hB.block b (h.lo b hb)
/-- the innermost that is open -/
def lastB (S : Bst) : VT := S.op.headD (.mk (-1) false 0 ⟨#[]⟩ [])
set_option maxRecDepth 100000 in
set_option maxHeartbeats 2000000 in
theorem rlast_any (S : Bst) (g : Nat) (O : Nat → Prop) (w : World) (h : Bm w g O S) (hn : S.op.length ≤ 1048577) :
    Calls Try.prog 22 #[.pointer (some ⟨g, 0, none⟩)] w fun e w' => ∃ C, e = .returned (vv (lastB S) C) ∧ Lsf O w C (lastB S).l ∧ Below w.heap.size w w' := by
  obtain ⟨h1, h2, A, c, D, h3, h4, h5⟩ := h
  have hg := h2 g h1
  obtain ⟨op, v, n, most⟩ := S
  simp only at h4 hn
  obtain ⟨W1, hW1⟩ : ∃ W1, w.alloc (.cells #[.int .i64 0, .bool false, .int .u64 0, .string ⟨#[]⟩, .slice none 0 0] 36) = W1 := ⟨_, rfl⟩
  have hb : Bk W1 w.heap.size 36 (vc zt (.slice none 0 0)) := by rw [← hW1]; exact heap_alloc_last _ _
  have HB := Lib.hid hb
  have HBF : Hid (Below w.heap.size w W1) := Lib.hid (by rw [← hW1]; exact (Below.refl _ _).alloc (Nat.le_refl _) _)
  have bc0 : W1.cell? ⟨w.heap.size, 0, none⟩ = some (.int .i64 0) := hb.cell 0
  have bf0 : W1.frozen? ⟨w.heap.size, 0, none⟩ = false := hb.frozen 0
  have bc1 : W1.cell? ⟨w.heap.size, 1, none⟩ = some (.bool false) := hb.cell 1
  have bf1 : W1.frozen? ⟨w.heap.size, 1, none⟩ = false := hb.frozen 1
  have bc2 : W1.cell? ⟨w.heap.size, 2, none⟩ = some (.int .u64 0) := hb.cell 2
  have bf2 : W1.frozen? ⟨w.heap.size, 2, none⟩ = false := hb.frozen 2
  have bc3 : W1.cell? ⟨w.heap.size, 3, none⟩ = some (.string ⟨#[]⟩) := hb.cell 3
  have bf3 : W1.frozen? ⟨w.heap.size, 3, none⟩ = false := hb.frozen 3
  have bc4 : W1.cell? ⟨w.heap.size, 4, none⟩ = some (.slice none 0 0) := hb.cell 4
  have bf4 : W1.frozen? ⟨w.heap.size, 4, none⟩ = false := hb.frozen 4
  have a0 : W1.cell? ⟨g, 0, none⟩ = some (.slice A op.length c) := (HBF.out.cell (p := ⟨g, 0, none⟩) hg).trans (h3.cell 0)
  have hle : w.heap.size ≤ w.heap.size := Nat.le_refl _
  clear hb h3 h5
  cases op with
  | nil =>
    simp only [List.length_nil] at a0
    unfold vv lastB
    simp only [List.headD_nil, VT.k, VT.g, VT.n, VT.s, VT.l]
    clear h4
    go_enter Try.func22, Try.ntmps22
    go_wp2_with fail
    exact bodyPost_ret (v := .agg #[.int .i64 (-1), .bool false, .int .u64 0, .string ⟨#[]⟩, .slice none 0 0]) (by simp [results, Try.results22, go_sem, bc0, bc1, bc2, bc3, bc4]) rfl ⟨.slice none 0 0, rfl, .nil_, below_set5 HBF.out hle _ _ _ _ _⟩
  | cons p r =>
    obtain ⟨go, C, rfl, ho, hne, hc, hf, hr, hl⟩ := h4.top
    have hgo := h2 go ho
    have hr1 := hr.below HBF.out hgo
    have HL := Lib.hid (hl.wide (G := O) fun b hb _ => hb.1)
    obtain ⟨A', m, c', rfl⟩ : ∃ A' m c', C = .slice A' m c' := by
      obtain ⟨A', c', e, _⟩ := hl.lst.out
      exact ⟨A', _, c', e⟩
    have r0 := hr1.k
    have r1 := hr1.g
    have r2 := hr1.n
    have r3 := hr1.s
    have r4 := hr1.l
    obtain ⟨n0, hn0⟩ : ∃ n0, r.length = n0 := ⟨_, rfl⟩
    simp only [List.length_cons] at a0 hn
    rw [hn0] at r0 r1 r2 r3 r4 a0 hn hc
    have hsub : IntKind.i64.wrap (((n0 + 1 : Nat) : Int) - 1) = (n0 : Int) := by rw [IntWalk.i64_in _ ⟨by omega, by omega⟩]; omega
    unfold vv lastB
    simp only [List.headD_cons]
    clear h4 hr hl hr1 hn0 hf
    go_enter Try.func22, Try.ntmps22
    go_wp2_with fail
    go_region
    all_goals
      go_wp2_with fail
      exact bodyPost_ret (v := .agg #[.int .i64 p.k, .bool p.g, .int .u64 (p.n : Int), .string p.s, .slice A' m c']) (by simp [results, Try.results22, go_sem, bc0, bc1, bc2, bc3, bc4]) rfl ⟨_, rfl, HL.out, (below_set5 HBF.out hle _ _ _ _ _).drew⟩
end Go.Proofs.Yteebokhpoppgeaa.nn
namespace Go.Proofs.Yteebokhpoppgeaa.nn
open Go.RowKit

/-- a slice's place reads as trees -/
def Srv (F : Nat → Prop) (w : World) (A : Option Addr) (l : List VT) : Prop := l = [] ∨ ∃ (b off : Nat) (D : Nat → Value), A = some ⟨b, off, none⟩ ∧ ∀ i (h : i < l.length), Row w b (off + i * 5) l[i] (D i) ∧ Lsf F w (D i) l[i].l
theorem Lsf.src {F : Nat → Prop} {w : World} {v : Value} {l : List VT} (h : Lsf F w v l) : ∃ A c, v = .slice A l.length c ∧ Srv F w A l := by
  cases h with
  | nil_ => exact ⟨_, _, rfl, .inl rfl⟩
  | at_ hl hc h0 hb hr hk =>
    subst hl
    exact ⟨_, _, rfl, .inr ⟨_, _, _, rfl, fun i h => ⟨hr i h, hk i h⟩⟩⟩
/-- a row of one's own, from block B on, that holds trees; these lie in blocks of F -/
def Vo (F : Nat → Prop) (B : Nat) (w : World) (v : Value) (l : List VT) : Prop := ∃ C : Nat → Value, w.ownsRow B 36 5 v l.length (rcs C 0 l) ∧ ∀ j (h : j < l.length), Lsf F w (C j) l[j].l
theorem rcs_congr (C D : Nat → Value) (l : List VT) : ∀ i, (∀ j, j < l.length → C (i + j) = D (i + j)) → rcs C i l = rcs D i l := by
  induction l with
  | nil => intro i _; rfl
  | cons t r ih =>
    intro i h
    have h0 := h 0 (by simp)
    rw [Nat.add_zero] at h0
    simp only [rcs, h0]
    rw [ih (i + 1) fun j hj => by have := h (j + 1) (by simp; omega); rw [show i + (j + 1) = i + 1 + j by omega] at this; exact this]
theorem rcs_shift (C : Nat → Value) (l : List VT) : ∀ i k, rcs (fun j => C (j - k)) (i + k) l = rcs C i l := by
  induction l with
  | nil => intro i k; rfl
  | cons t r ih =>
    intro i k
    have := ih (i + 1) k
    rw [show i + 1 + k = i + k + 1 by omega] at this
    simp only [rcs, Nat.add_sub_cancel, this]
theorem rcs_app (C : Nat → Value) (a b : List VT) : ∀ i, rcs C i (a ++ b) = rcs C i a ++ rcs C (i + a.length) b := by
  induction a with
  | nil => intro i; simp [rcs]
  | cons t r ih =>
    intro i
    simp only [List.cons_append, rcs, ih, List.length_cons]
    rw [show i + 1 + r.length = i + (r.length + 1) by omega]
theorem rcs_both (C D : Nat → Value) (a b : List VT) : rcs (fun j => if j < a.length then C j else D (j - a.length)) 0 (a ++ b) = rcs C 0 a ++ rcs D 0 b := by
  rw [rcs_app]
  congr 1
  · exact rcs_congr _ _ a 0 fun j hj => by simp [hj]
  · rw [← rcs_shift D b 0 a.length]
    exact rcs_congr _ _ b _ fun j hj => by
      show (if 0 + a.length + j < a.length then C (0 + a.length + j) else D (0 + a.length + j - a.length)) = _
      rw [if_neg (by omega)]
theorem Vo.src {F : Nat → Prop} {w : World} {A : Option Addr} {l : List VT} (h : Srv F w A l) : ∃ C : Nat → Value, (∀ j (h : j < l.length), Lsf F w (C j) l[j].l) ∧ (l = [] ∨ ∃ ad, A = some ad ∧ ∀ j u, (rcs C 0 l)[j]? = some u → w.cell? (ad.add j) = some u) := by
  rcases h with rfl | ⟨b, off, D, rfl, h⟩
  · exact ⟨fun _ => .slice none 0 0, fun j h => by simp at h, .inl rfl⟩
  · refine ⟨D, fun j hj => (h j hj).2, .inr ⟨_, rfl, fun j u hu => ?_⟩⟩
    have hj : j < l.length * 5 := by
      have := (List.getElem?_eq_some_iff.1 hu).1
      rw [rcs_len] at this
      exact this
    obtain ⟨q, r, hr5, rfl⟩ : ∃ q r, r < 5 ∧ j = q * 5 + r := ⟨j / 5, j % 5, by omega, by omega⟩
    have hq : q < l.length := by omega
    obtain ⟨r0, r1, r2, r3, r4⟩ := rcs_at D l 0 q hq
    have hR := (h q hq).1
    have ha : (⟨b, off, none⟩ : Addr).add (q * 5 + r) = ⟨b, off + q * 5 + r, none⟩ := by unfold Addr.add; split <;> simp_all <;> omega
    rw [ha]
    have hcase : r = 0 ∨ r = 1 ∨ r = 2 ∨ r = 3 ∨ r = 4 := by omega
    rcases hcase with rfl | rfl | rfl | rfl | rfl
    · rw [Nat.add_zero, r0] at hu; injection hu with hu; subst hu; exact hR.k
    · rw [r1] at hu; injection hu with hu; subst hu; exact hR.g
    · rw [r2] at hu; injection hu with hu; subst hu; exact hR.n
    · rw [r3] at hu; injection hu with hu; subst hu; exact hR.s
    · rw [r4, Nat.zero_add] at hu; injection hu with hu; subst hu; exact hR.l
theorem run_vals (F : Nat → Prop) (B : Nat) (w : World) (ty : TypeId) (v : Value) (l l2 : List VT) (A : Option Addr) (c : Nat) (hv : Vo F B w v l) (hs : Srv F w A l2) (hF : ∀ b, F b → b < B) (hB : B ≤ w.heap.size) (hn : l.length + l2.length ≤ 1099511627776) :
    ∃ v' w', (Builtin.append_ #[34, 34] ty #[v, .slice A l2.length c]).run Try.prog w = .ok v' w' ∧ Vo F B w' v' (l ++ l2) ∧ w.grownBy w' v.ownBlock := by
  obtain ⟨i0, hi, hz0, hz1, hz2⟩ : ∃ i0, Try.prog.info? 36 = some i0 ∧ i0.zero = some (.agg #[.int .i64 0, .bool false, .int .u64 0, .string ⟨#[]⟩, .slice none 0 0]) ∧ i0.size = 5 ∧ i0.bytes = 64 := info_parts info_val3
  obtain ⟨C, hown, hC⟩ := hv
  obtain ⟨D, hD, hsrc⟩ := Vo.src hs
  have hkeep : ∀ {w' : World}, w.grownBy w' v.ownBlock → ∀ {u : Value} {x : List VT}, Lsf F w u x → Lsf F w' u x := fun {w'} hg {u x} hu => hu.keep hg.size fun b hb hlt => hg.block b hlt fun e => by
    have h1 := hown.lt b e.symm
    have h2 := hF b hb
    omega
  rcases hsrc with rfl | ⟨ad, rfl, hnews⟩
  · have hr : (Builtin.append_ #[34, 34] ty #[v, .slice A ([] : List VT).length c]).run Try.prog w = .ok v w := by
      rcases hown.2 with ⟨rfl, _⟩ | ⟨g, cap, cur, rfl, _, _, hnc, _⟩
      · cases A <;> simp [Builtin.append_, run_underlying Try.underlying34, sizeOf, typeInfo, hi, Builtin.lenOf, Builtin.firstCells, loadCells, loadCellsFrom]
      · cases A <;> simp [Builtin.append_, run_underlying Try.underlying34, sizeOf, typeInfo, hi, Builtin.lenOf, Builtin.firstCells, loadCells, loadCellsFrom, hnc, storeCells]
    exact ⟨v, w, hr, by rw [List.append_nil]; exact ⟨C, hown, hC⟩, ⟨rfl, rfl, rfl, Nat.le_refl _, fun _ _ _ => rfl⟩⟩
  · have h1 : ∀ u ∈ rcs D 0 l2, u.oneCell' = true := rcs_one D l2 0 fun j h => by
      obtain ⟨A3, c3, h3, _⟩ := (hD j h).lst.out
      rw [Nat.zero_add]
      exact ⟨_, _, _, h3⟩
    obtain ⟨v', w', hr, ho, hg, _⟩ := run_append_own_at (P := Try.prog) w B 34 ty 36 i0 _ 5 64 Try.underlying34 hi hz0 hz1 hz2 rfl (by decide) v l.length (rcs C 0 l) hown ad l2.length c (rcs D 0 l2) (rcs_len _ _ _) hnews h1 (by unfold maxLen; omega) (by omega) hB
    refine ⟨v', w', hr, ⟨_, by rw [rcs_both C D l l2, List.length_append]; exact ho, fun j hj => ?_⟩, hg⟩
    by_cases h : j < l.length
    · rw [if_pos h, List.getElem_append_left h]
      exact hkeep hg (hC j h)
    · rw [if_neg h, List.getElem_append_right (by omega)]
      exact hkeep hg (hD _ _)
theorem step_vals {ops : Array Oper} {o : Oper} {a : Act} {w : World} {K : Act → World → Prop} {Q : Exit → Act → World → Prop} {E : Prop} (hgd : o.guard = none) (s x : Operand)
    (ho : o.op = .call { callee := .builtin .append, args := #[s, x], argTypes := #[34, 34] })
    (F : Nat → Prop) (B : Nat) (v : Value) (l l2 : List VT) (A : Option Addr) (m c : Nat) (hs : a.eval s = v) (hx : a.eval x = .slice A m c) (hm : m = l2.length) (hv : Vo F B w v l) (hsrc : Srv F w A l2) (hF : ∀ b, F b → b < B) (hB : B ≤ w.heap.size) (hn : l.length + l2.length ≤ 1099511627776)
    (h : ∀ v' w', Vo F B w' v' (l ++ l2) → w.grownBy w' v.ownBlock → Below B w w' → K (a.put o.dst v') w') :
    if Region.wanted o (yielded ops a.tmps) = true then Oper.wp Try.prog o a w K Q else E := by
  have hw : Region.wanted o (yielded ops a.tmps) = true := by simp [Region.wanted, hgd]
  rw [if_pos hw]
  subst hm
  obtain ⟨v', w', hr, h1, h2⟩ := run_vals F B w o.type v l l2 A c hv hsrc hF hB hn
  unfold Oper.wp execOp
  simp only [ho, resolve, invoke, builtin, Sem.run_bind, Sem.run_pure, Result.andThen_ok, List.map_toArray, List.map_cons, List.map_nil, hs, hx, hr]
  obtain ⟨_, ho, _⟩ := hv
  exact h _ _ h1 h2 ((Below.refl _ _).grown h2 hB fun k hk => (ho.lt k hk).1)
end Go.Proofs.Yteebokhpoppgeaa.nn
namespace Go.Proofs.Yteebokhpoppgeaa.nn
open Go.RowKit

/-- a build in memory, with its slice and its value's -/
structure Bmx (w : World) (g : Nat) (O : Nat → Prop) (A : Option Addr) (c : Nat) (D : Value) (S : Bst) : Prop where
  o : O g
  lo : ∀ b, O b → b < w.heap.size
  b : Bk w g 38 (bmC A c D S)
  r : Opn w g O A c S.op.reverse
  l : Lsf (Oth O g A) w D (S.v.getD emp).l
theorem set5_frozen (W : World) (g o : Nat) (a b c d e : Value) (q : Addr) : (set5 W g o a b c d e).frozen? q = W.frozen? q := by
  unfold set5
  simp only [World.frozen?_setCell]
theorem Lsf.oth {O : Nat → Prop} {g go z : Nat} {w : World} {v : Value} {l : List VT} (h : Lsf (fun b => Oth O g (some ⟨go, 0, none⟩) b ∨ z ≤ b) w v l) (hg : g < z) (hgo : go < z) : Lsf (Oth (fun b => O b ∨ (z ≤ b ∧ b < w.heap.size)) g (some ⟨go, 0, none⟩)) w v l :=
  h.wide fun b hb hlt => by
    rcases hb with hb | hb
    · exact ⟨.inl hb.1, hb.2⟩
    · exact ⟨.inr ⟨hb, hlt⟩, by omega, fun a ha => by injection ha with ha; subst ha; show go ≠ b; omega⟩
theorem Oth.more {O O2 : Nat → Prop} {g : Nat} {A : Option Addr} (hO : ∀ b, O b → O2 b) {b : Nat} (h : Oth O g A b) : Oth O2 g A b := ⟨hO b h.1, h.2⟩
theorem add_end {wr wc : World} {g go c z N M n0 : Nat} {O : Nat → Prop} {D v : Value} {p t : VT} {r : List VT}
    (ho : O g) (hog : O go) (hne : go ≠ g) (hlo : ∀ b, O b → b < wr.heap.size) (hz : wr.heap.size ≤ z) (hzc : z ≤ wc.heap.size)
    (hb : Bk wr g 38 (bmC (some ⟨go, 0, none⟩) c D ⟨p :: r, none, N, M⟩)) (hr : Opn wr g O (some ⟨go, 0, none⟩) c (p :: r).reverse) (hl : Lsf (Oth O g (some ⟨go, 0, none⟩)) wr D [])
    (hk : ∀ b, b < wr.heap.size → wc.heap[b]? = wr.heap[b]?) (hn : r.length = n0) (hL : Lsf (fun b => Oth O g (some ⟨go, 0, none⟩) b ∨ z ≤ b) wc v (p.l ++ [t])) :
    Bm (set5 wc go (n0 * 5) (.int .i64 p.k) (.bool p.g) (.int .u64 (p.n : Int)) (.string p.s) v) g (fun b => O b ∨ (z ≤ b ∧ b < wc.heap.size)) ⟨p.snoc t :: r, none, N, M⟩ := by
  have hgr := hlo g ho
  have hgor := hlo go hog
  obtain ⟨Wf, hWf⟩ : ∃ Wf, set5 wc go (n0 * 5) (.int .i64 p.k) (.bool p.g) (.int .u64 (p.n : Int)) (.string p.s) v = Wf := ⟨_, rfl⟩
  rw [hWf]
  have hs : Wf.heap.size = wc.heap.size := by rw [← hWf]; exact set5_size _ _ _ _ _ _ _ _
  have hot : ∀ b, b ≠ go → Wf.heap[b]? = wc.heap[b]? := fun b h => by rw [← hWf]; exact set5_other _ _ _ _ _ _ _ _ _ h
  subst hn
  have hOO : ∀ b, Oth (fun b => O b ∨ (z ≤ b ∧ b < wc.heap.size)) g (some ⟨go, 0, none⟩) b → b ≠ go := fun b h => fun e => h.2.2 _ rfl e.symm
  have hO1 : ∀ b, Oth O g (some ⟨go, 0, none⟩) b → b < wr.heap.size → Wf.heap[b]? = wr.heap[b]? := fun b h hlt => (hot b fun e => h.2.2 _ rfl e.symm).trans (hk b hlt)
  refine ⟨.inl ho, fun b h => ?_, some ⟨go, 0, none⟩, c, D, (hot g (Ne.symm hne)).trans ((hk g hgr).trans hb), ?_, ?_⟩
  · show b < Wf.heap.size
    rcases h with h | h
    · have := hlo b h; omega
    · omega
  · rcases hr with hr | ⟨go', C, e, h2, h3, h4, h5, h6⟩
    · simp at hr
    · injection e with e
      injection e with e
      subst e
      have hl1 : (p :: r).reverse.length = r.length + 1 := by simp
      have hl2 : (p.snoc t :: r).reverse.length = r.length + 1 := by simp
      refine .inr ⟨go, fun i => if i = r.length then v else C i, rfl, .inl hog, hne, by show (p.snoc t :: r).reverse.length ≤ c; omega, fun o => ?_, fun i hi => ?_⟩
      · show Wf.frozen? _ = false
        rw [← hWf, set5_frozen]
        exact (World.frozen?_of_block (a := ⟨go, o, none⟩) (hk go hgor)).trans (h5 o)
      · have hi : i < (p.snoc t :: r).reverse.length := hi
        dsimp only
        by_cases hir : i = r.length
        · subst hir
          have e1 : (p.snoc t :: r).reverse[r.length] = p.snoc t := by simp
          obtain ⟨h7, _⟩ := h6 r.length (by omega)
          have e2 : (p :: r).reverse[r.length]'(by omega) = p := by simp
          rw [e2] at h7
          rw [e1, if_pos rfl]
          have e3 : wc.heap[go]? = wr.heap[go]? := hk go hgor
          have h8 : Row wc go (r.length * 5) p (C r.length) := ⟨(World.cell?_of_block e3).trans h7.k, (World.cell?_of_block e3).trans h7.g, (World.cell?_of_block e3).trans h7.n, (World.cell?_of_block e3).trans h7.s, (World.cell?_of_block e3).trans h7.l⟩
          have h9 := set5_row h8 (p.snoc t) v
          rw [show set5 wc go (r.length * 5) (.int .i64 (p.snoc t).k) (.bool (p.snoc t).g) (.int .u64 ((p.snoc t).n : Int)) (.string (p.snoc t).s) v = Wf from hWf] at h9
          exact ⟨⟨h9.k, h9.g, h9.n, h9.s, h9.l⟩, (hL.oth (by omega) (by omega)).keep (Nat.le_of_eq hs.symm) fun b hb _ => hot b (hOO b hb)⟩
        · rw [if_neg hir]
          have hi2 : i < r.length := by omega
          obtain ⟨h7, h8⟩ := h6 i (by omega)
          have e1 : (p.snoc t :: r).reverse[i] = (p :: r).reverse[i]'(by omega) := by
            simp only [List.reverse_cons]
            rw [List.getElem_append_left (by simpa using hi2), List.getElem_append_left (by simpa using hi2)]
          rw [e1]
          have e3 : wc.heap[go]? = wr.heap[go]? := hk go hgor
          have far : ∀ j, j < 5 → Wf.cell? ⟨go, i * 5 + j, none⟩ = wr.cell? ⟨go, i * 5 + j, none⟩ := fun j hj => by
            rw [← hWf, set5_far _ _ _ _ _ _ _ _ _ (by omega)]
            exact World.cell?_of_block e3
          exact ⟨⟨(far 0 (by omega)).trans h7.k, (far 1 (by omega)).trans h7.g, (far 2 (by omega)).trans h7.n, (far 3 (by omega)).trans h7.s, (far 4 (by omega)).trans h7.l⟩,
            (h8.keep (w' := Wf) (by omega) fun b hb hlt => hO1 b hb hlt).wide fun b hb _ => Oth.more (fun _ => .inl) hb⟩
  · exact (hl.keep (w' := Wf) (by omega) fun b hb hlt => hO1 b hb hlt).wide fun b hb _ => Oth.more (fun _ => .inl) hb
theorem Mv.fin {w wr W : World} {O O1 O2 : Nat → Prop} (h : Mv No O w O1 wr) (hO : ∀ b, O1 b → O2 b) (hn : ∀ b, O2 b → O1 b ∨ (wr.heap.size ≤ b ∧ b < W.heap.size)) (hs : wr.heap.size ≤ W.heap.size) (h1 : W.os = wr.os) (h2 : W.tape = wr.tape) (h3 : W.output = wr.output) (hk : ∀ b, b < w.heap.size → ¬ O1 b → W.heap[b]? = wr.heap[b]?) : Mv No O w O2 W where
  os := h1.trans h.os
  tape := h2.trans h.tape
  output := h3.trans h.output
  size := Nat.le_trans h.size hs
  more := fun b hb => hO b (h.more b hb)
  new := fun b hb => by
    rcases hn b hb with h4 | h4
    · rcases h.new b h4 with h5 | h5
      · exact .inl h5
      · exact .inr ⟨h5.1, Nat.lt_of_lt_of_le h5.2 hs⟩
    · exact .inr ⟨Nat.le_trans h.size h4.1, h4.2⟩
  kept := fun b hb hO0 hE => by
    have h4 : ¬ O1 b := fun h5 => by
      rcases h.new b h5 with h6 | h6
      · exact hO0 h6
      · omega
    exact (hk b hb h4).trans (h.kept b hb hO0 hE)
theorem Opn.tail {w W : World} {g go c : Nat} {O O2 : Nat → Prop} {p : VT} {r : List VT} (h : Opn w g O (some ⟨go, 0, none⟩) c (p :: r).reverse) (hO : ∀ b, O b → O2 b) (hs : w.heap.size ≤ W.heap.size) (hk : ∀ b, O b → b ≠ g → b < w.heap.size → W.heap[b]? = w.heap[b]?) (hgo : go < w.heap.size) : Opn W g O2 (some ⟨go, 0, none⟩) c r.reverse := by
  rcases h with hr | ⟨go', C, e, h2, h3, h4, h5, h6⟩
  · simp at hr
  · injection e with e
    injection e with e
    subst e
    have hl1 : (p :: r).reverse.length = r.length + 1 := by simp
    have e3 : W.heap[go]? = w.heap[go]? := hk go h2 h3 hgo
    refine .inr ⟨go, C, rfl, hO _ h2, h3, by simp; omega, fun o => (World.frozen?_of_block (a := ⟨go, o, none⟩) e3).trans (h5 o), fun i hi => ?_⟩
    have hi2 : i < r.length := by simpa using hi
    obtain ⟨h7, h8⟩ := h6 i (by omega)
    have e1 : r.reverse[i] = (p :: r).reverse[i]'(by omega) := by
      simp only [List.reverse_cons]
      rw [List.getElem_append_left (by simpa using hi2)]
    rw [e1]
    exact ⟨⟨(World.cell?_of_block e3).trans h7.k, (World.cell?_of_block e3).trans h7.g, (World.cell?_of_block e3).trans h7.n, (World.cell?_of_block e3).trans h7.s, (World.cell?_of_block e3).trans h7.l⟩,
      (h8.keep hs fun b hb hlt => hk b hb.1 hb.2.1 hlt).wide fun b hb _ => Oth.more hO hb⟩
theorem add_next {wr wc : World} {g go c z N M n0 vb : Nat} {O : Nat → Prop} {D v C : Value} {p t u : VT} {r : List VT} {T : TypeId}
    (ho : O g) (hog : O go) (hlo : ∀ b, O b → b < wr.heap.size) (hz : wr.heap.size ≤ z) (hzc : z ≤ wc.heap.size)
    (hb : Bk wr g 38 (bmC (some ⟨go, 0, none⟩) c D ⟨p :: r, none, N, M⟩)) (hr : Opn wr g O (some ⟨go, 0, none⟩) c (p :: r).reverse) (hl : Lsf (Oth O g (some ⟨go, 0, none⟩)) wr D [])
    (hk : ∀ b, b < wr.heap.size → wc.heap[b]? = wr.heap[b]?) (hn : r.length = n0) (hL : Lsf (fun b => Oth O g (some ⟨go, 0, none⟩) b ∨ z ≤ b) wc v (p.l ++ [t])) (hv : Bk wc vb T (vc u C)) (hvo : ¬ O vb) (hvz : vb < z) (hgv : g ≠ vb) :
    Bmx (set5 (wc.setCell ⟨g, 0, none⟩ (.slice (some ⟨go, 0, none⟩) n0 c)) vb 0 (.int .i64 p.k) (.bool p.g) (.int .u64 (p.n : Int)) (.string p.s) v) g (fun b => O b ∨ (z ≤ b ∧ b < wc.heap.size)) (some ⟨go, 0, none⟩) c D ⟨r, none, N, M⟩ ∧
    Bk (set5 (wc.setCell ⟨g, 0, none⟩ (.slice (some ⟨go, 0, none⟩) n0 c)) vb 0 (.int .i64 p.k) (.bool p.g) (.int .u64 (p.n : Int)) (.string p.s) v) vb T (vc (p.snoc t) v) ∧
    Lsf (Oth (fun b => O b ∨ (z ≤ b ∧ b < wc.heap.size)) g (some ⟨go, 0, none⟩)) (set5 (wc.setCell ⟨g, 0, none⟩ (.slice (some ⟨go, 0, none⟩) n0 c)) vb 0 (.int .i64 p.k) (.bool p.g) (.int .u64 (p.n : Int)) (.string p.s) v) v (p.snoc t).l := by
  have hgr := hlo g ho
  have hgor := hlo go hog
  have hbk : Bk (set5 (wc.setCell ⟨g, 0, none⟩ (.slice (some ⟨go, 0, none⟩) n0 c)) vb 0 (.int .i64 p.k) (.bool p.g) (.int .u64 (p.n : Int)) (.string p.s) v) vb T (vc (p.snoc t) v) := by
    have hv2 : Bk (wc.setCell ⟨g, 0, none⟩ (.slice (some ⟨go, 0, none⟩) n0 c)) vb T (vc u C) := (Below.heap_setCell wc ⟨g, 0, none⟩ _ vb (Ne.symm hgv)).trans hv
    exact ((((hv2.set_ 0 _).set_ 1 _).set_ 2 _).set_ 3 _).set_ 4 _
  obtain ⟨Wf, hWf⟩ : ∃ Wf, set5 (wc.setCell ⟨g, 0, none⟩ (.slice (some ⟨go, 0, none⟩) n0 c)) vb 0 (.int .i64 p.k) (.bool p.g) (.int .u64 (p.n : Int)) (.string p.s) v = Wf := ⟨_, rfl⟩
  rw [hWf] at hbk ⊢
  have hs : Wf.heap.size = wc.heap.size := by rw [← hWf, set5_size]; simp [World.setCell]
  have hot : ∀ b, b ≠ g → b ≠ vb → Wf.heap[b]? = wc.heap[b]? := fun b h1 h2 => by
    rw [← hWf, set5_other _ _ _ _ _ _ _ _ _ h2]
    exact Below.heap_setCell wc ⟨g, 0, none⟩ _ b h1
  have hg : Wf.heap[g]? = (wc.setCell ⟨g, 0, none⟩ (.slice (some ⟨go, 0, none⟩) n0 c)).heap[g]? := by rw [← hWf, set5_other _ _ _ _ _ _ _ _ _ hgv]
  have hbg : Bk wc g 38 (bmC (some ⟨go, 0, none⟩) c D ⟨p :: r, none, N, M⟩) := (hk g hgr).trans hb
  have hO1 : ∀ b, O b → b ≠ g → b < wr.heap.size → Wf.heap[b]? = wr.heap[b]? := fun b h1 h2 h3 => (hot b h2 fun e => hvo (e ▸ h1)).trans (hk b h3)
  subst hn
  refine ⟨⟨.inl ho, fun b h => ?_, hg.trans (hbg.set_ 0 _), hr.tail (fun _ => .inl) (by omega) hO1 hgor, ?_⟩, hbk, ?_⟩
  · rcases h with h | h
    · have := hlo b h; omega
    · omega
  · exact (hl.keep (w' := Wf) (by omega) fun b hb hlt => hO1 b hb.1 hb.2.1 hlt).wide fun b hb _ => Oth.more (fun _ => .inl) hb
  · refine (hL.oth (by omega) (by omega)).keep (Nat.le_of_eq hs.symm) fun b hb hlt => hot b hb.2.1 fun e => ?_
    rcases hb.1 with h | h
    · exact hvo (e ▸ h)
    · omega
end Go.Proofs.Yteebokhpoppgeaa.nn
namespace Go.Proofs.Yteebokhpoppgeaa.nn
open Go.RowKit

theorem Vo.al {F : Nat → Prop} {B : Nat} {w : World} {v : Value} {l : List VT} (h : Vo F B w v l) (hF : ∀ b, F b → b < w.heap.size) (o : Obj) : Vo F B (w.alloc o) v l := by
  obtain ⟨C, h1, h2⟩ := h
  exact ⟨C, h1.alloc o, fun j hj => (h2 j hj).keep (by simp) fun b hb _ => Below.heap_alloc w o b (hF b hb)⟩
theorem Vo.form {F : Nat → Prop} {B : Nat} {w : World} {v : Value} {l : List VT} {n : Nat} (h : Vo F B w v l) (hn : n = l.length) : ∃ A c, v = .slice A n c ∧ n ≤ c := by
  subst hn
  obtain ⟨C, h1, _⟩ := h
  rcases h1.2 with ⟨rfl, h0⟩ | ⟨g, cap, cur, rfl, _, _, hc, _⟩
  · exact ⟨none, 0, by rw [h0], by omega⟩
  · exact ⟨_, cap, rfl, hc⟩
theorem Vo.lsf {F : Nat → Prop} {B : Nat} {w : World} {v : Value} {l : List VT} (h : Vo F B w v l) : Lsf (fun b => F b ∨ B ≤ b) w v l := by
  obtain ⟨C, h1, h2⟩ := h
  rcases h1.2 with ⟨rfl, h0⟩ | ⟨g, cap, cur, rfl, hb, hg, hc, _, _, ht⟩
  · have : l = [] := List.eq_nil_of_length_eq_zero h0
    subst this
    exact .nil_
  · have hcell : ∀ j u, (rcs C 0 l)[j]? = some u → w.cell? ⟨g, j, none⟩ = some u := fun j u hu => by
      rw [cell_of_row w g j cur _ (0, 0) hg]
      have hj : j < l.length * 5 := by have := (List.getElem?_eq_some_iff.1 hu).1; rw [rcs_len] at this; exact this
      rw [← ht, List.getElem?_take_of_lt (by omega)] at hu
      rw [← hu]
      simp
    refine .at_ (C := C) rfl hc (.inr hb) (Array.getElem?_eq_some_iff.1 hg).1 (fun i hi => ?_) fun i hi => (h2 i hi).wide fun b hb _ => .inl hb
    obtain ⟨r0, r1, r2, r3, r4⟩ := rcs_at C l 0 i hi
    rw [Nat.zero_add] at r4
    rw [Nat.zero_add]
    exact ⟨hcell _ _ r0, hcell _ _ r1, hcell _ _ r2, hcell _ _ r3, hcell _ _ r4⟩
theorem bm_last2 (w : World) (o o' : Obj) : ((w.alloc o).alloc o').heap[w.heap.size + 1]? = some o' := by
  have := heap_alloc_last (w.alloc o) o'
  simpa using this
theorem Vo.drew {F : Nat → Prop} {B : Nat} {w : World} {v : Value} {l : List VT} (h : Vo F B w v l) : Vo F B w.drew v l := by
  obtain ⟨C, h1, h2⟩ := h
  exact ⟨C, h1, fun j hj => (h2 j hj).keep (Nat.le_refl _) fun b hb _ => rfl⟩
theorem Vo.lit {F : Nat → Prop} {B : Nat} (w : World) {k : Nat} (hB : B ≤ w.heap.size) (hk : k = w.heap.size) : Vo F B (w.alloc (.cells #[] 36)) (.slice (some ⟨k, 0, none⟩) 0 0) [] := by
  subst hk
  exact ⟨fun _ => .slice none 0 0, World.ownsRow_lit w #[] 0 hB (by simp [maxLen]) rfl, fun j h => by simp at h⟩
theorem Srv.keep {F : Nat → Prop} {w w' : World} {A : Option Addr} {l : List VT} (h : Srv F w A l) (hA : ∀ a, A = some a → l ≠ [] → w'.heap[a.block]? = w.heap[a.block]?) (hs : w.heap.size ≤ w'.heap.size) (hF : ∀ b, F b → b < w.heap.size → w'.heap[b]? = w.heap[b]?) : Srv F w' A l := by
  rcases h with h | ⟨b, off, D, rfl, h⟩
  · exact .inl h
  · by_cases hl : l = []
    · exact .inl hl
    · refine .inr ⟨b, off, D, rfl, fun i hi => ?_⟩
      obtain ⟨r, k⟩ := h i hi
      have e : w'.heap[b]? = w.heap[b]? := hA _ rfl hl
      exact ⟨⟨(World.cell?_of_block e).trans r.k, (World.cell?_of_block e).trans r.g, (World.cell?_of_block e).trans r.n, (World.cell?_of_block e).trans r.s, (World.cell?_of_block e).trans r.l⟩, k.keep hs hF⟩
theorem Srv.one {F : Nat → Prop} {w : World} {k : Nat} {T : TypeId} {t : VT} {C : Value} (h : Bk w k T (vc t C)) (hC : Lsf F w C t.l) : Srv F w (some ⟨k, 0, none⟩) [t] := by
  refine .inr ⟨k, 0, fun _ => C, rfl, fun i hi => ?_⟩
  have : i = 0 := by simpa using hi
  subst this
  exact ⟨⟨h.cell 0, h.cell 1, h.cell 2, h.cell 3, h.cell 4⟩, hC⟩
theorem Mv.al0 (E O : Nat → Prop) (W : World) (o : Obj) : Mv E O W O (W.alloc o) := ⟨rfl, rfl, rfl, by simp, fun _ h => h, fun _ h => .inl h, fun b hb _ _ => Below.heap_alloc _ _ _ hb⟩
theorem Lsf.al {F : Nat → Prop} {w : World} {v : Value} {l : List VT} (h : Lsf F w v l) (hF : ∀ b, F b → b < w.heap.size) (o : Obj) : Lsf F (w.alloc o) v l := h.keep (by simp) fun b hb _ => Below.heap_alloc w o b (hF b hb)
theorem off_g {W : World} {g j b : Nat} {v : Value} (h : b ≠ g) : (W.setCell ⟨g, j, none⟩ v).heap[b]? = W.heap[b]? := Below.heap_setCell W ⟨g, j, none⟩ v b h
theorem setCell_sz (W : World) (a : Addr) (v : Value) : (W.setCell a v).heap.size = W.heap.size := by simp [World.setCell]
theorem Mv.cell {E O : Nat → Prop} {W0 : World} {O0 : Nat → Prop} {W : World} (h : Mv E O0 W0 O W) {g j : Nat} (hg : O g) (v : Value) : Mv E O0 W0 O (W.setCell ⟨g, j, none⟩ v) :=
  h.trans ⟨rfl, rfl, rfl, by simp [World.setCell], fun _ h => h, fun _ h => .inl h, fun b _ hO _ => Below.heap_setCell W ⟨g, j, none⟩ v b fun e => hO (by rw [e]; exact hg)⟩
end Go.Proofs.Yteebokhpoppgeaa.nn
namespace Go.Proofs.Yteebokhpoppgeaa.nn

theorem may_some {S : Bst} {e : Ev} {x : VT} (h : S.v = some x) : mayB S e = 4 := by unfold mayB; rw [if_pos (by rw [h]; rfl)]
theorem oneB_leaf {k : Int} {g : Bool} {n : Nat} {s : ByteArray} (h : k ≠ 13) : asked ⟨k, g, n, s⟩ = .mk k g n s [] := by unfold asked; rw [if_neg h]
theorem dep_bare (e : Ev) : dep (bare e) = if e.k = 5 then 1 else if lf e.k then 0 else 1 := by
  rw [dep_mk]; rfl
theorem oneB_11 {k : Int} {g : Bool} {n : Nat} {s : ByteArray} {l m : List VT} (hk : k = 11) (h : oneB (.mk k g n s l) = true) : oneB (.mk k g n s m) = true := by subst hk; exact h
theorem oneB_12 {k : Int} {g : Bool} {n : Nat} {s : ByteArray} {l : List VT} (hk : k = 12) : oneB (.mk k g n s l) = (oneB (.mk k g n s []) && decide (l.length % 2 = 0)) := by
  subst hk
  show (_ && decide (l.length % 2 = 0)) = ((_ && decide (([] : List VT).length % 2 = 0)) && decide (l.length % 2 = 0))
  rw [show decide (([] : List VT).length % 2 = 0) = true from rfl, Bool.and_true]
  rfl
theorem oneB_13 {k : Int} {g : Bool} {n : Nat} {s : ByteArray} {l : List VT} (hk : k = 13) : oneB (.mk k g n s l) = (oneB (.mk k g n s [emp]) && (decide (l.length = 1) && !guise n l)) := by
  subst hk
  have h1 : ∀ m, oneB (.mk 13 g n s m) = (sE (.mk 13 g n s m) && !g && decide (m.length = 1) && !guise n m) := fun m => rfl
  rw [h1, h1]
  have h2 : guise n [emp] = false := by
    unfold guise emp
    simp [VT.k]
  rw [h2]
  show (sE (.mk 13 g n s []) && !g && decide (l.length = 1) && !guise n l) = (sE (.mk 13 g n s []) && !g && true && true && (decide (l.length = 1) && !guise n l))
  cases sE (.mk 13 g n s []) <;> cases g <;> simp
theorem guise_one {n : Nat} {c : VT} : guise n [c] = (decide (n = 2 ∨ n = 3) && (decide (c.k = 9) && big c.s)) := rfl
theorem tag23_cons {p : VT} {r : List VT} : tag23 (p :: r) = true ↔ p.k = 13 ∧ (p.n = 2 ∨ p.n = 3) := by unfold tag23; simp
theorem addB_open {p v : VT} {r : List VT} (h : p.k ≠ 13) : addB (p :: r) v = (p.snoc v :: r, none) := by unfold addB; rw [if_neg h]
theorem addB_tag {p v : VT} {r : List VT} (h : p.k = 13) : addB (p :: r) v = addB r (p.snoc v) := by rw [addB, if_pos h]
/-- the events of what is open -/
def flat : List VT → List Ev | [] => [] | p :: r => flat r ++ (evOf p :: evsL p.l)
def full (a : List VT × Option VT) : List Ev := match a.2 with | some t => evs t | none => flat a.1
def cntO : List VT → Nat | [] => 0 | p :: r => cntO r + (cntL p.l + 1)
/-- what is open is right, as far as it goes -/
def OpOk (most : Nat) : List VT → Prop
  | [] => True
  | p :: r => (p.k = 11 ∨ p.k = 12 ∨ p.k = 13 ∧ p.l = []) ∧ oneB (asked (evOf p)) = true ∧ rgtL p.l = true ∧ r.length + 1 + depL p.l ≤ most ∧ OpOk most r
/-- what a tree that is built has come to -/
def AddOk (most : Nat) (L : List Ev) (n : Nat) (a : List VT × Option VT) : Prop :=
  full a = L ∧ (∀ t, a.2 = some t → a.1 = [] ∧ rgt t = true ∧ dep t ≤ most ∧ cnt t = n) ∧ (a.2 = none → OpOk most a.1 ∧ cntO a.1 = n)
theorem depL_snoc (l : List VT) (v : VT) : depL (l ++ [v]) = max (depL l) (dep v) := by
  rw [depL_app]
  show max (depL l) (max (dep v) 0) = _
  omega
theorem cntL_snoc (l : List VT) (v : VT) : cntL (l ++ [v]) = cntL l + cnt v := by rw [cntL_app]; rfl
theorem rgtL_snoc (l : List VT) (v : VT) : rgtL (l ++ [v]) = (rgtL l && rgt v) := by
  rw [rgtL_app]
  show (rgtL l && (rgt v && true)) = _
  rw [Bool.and_true]
theorem evsL_snoc (l : List VT) (v : VT) : evsL (l ++ [v]) = evsL l ++ evs v := by
  rw [evsL_app]
  show evsL l ++ (evs v ++ []) = _
  rw [List.append_nil]
theorem add_ok {most : Nat} : ∀ (op : List VT) (v : VT), OpOk most op → rgt v = true → ¬ (tag23 op = true ∧ v.k = 9 ∧ big v.s = true) → op.length + dep v ≤ most → AddOk most (flat op ++ evs v) (cntO op + cnt v) (addB op v)
  | [], v, _, hr, _, hd => ⟨rfl, fun t ht => by injection ht with ht; subst ht; exact ⟨rfl, hr, by simpa using hd, by simp [cntO]⟩, fun h => by cases h⟩
  | p :: r, v, ho, hr, hg, hd => by
    obtain ⟨hk, ha, hL, hdl, hR⟩ := ho
    rw [List.length_cons] at hd
    by_cases k13 : p.k = 13
    · have hl : p.l = [] := by
        rcases hk with h | h | h
        · omega
        · omega
        · exact h.2
      have e1 : p.snoc v = .mk p.k p.g p.n p.s [v] := by unfold VT.snoc; rw [hl]; rfl
      have hlf : lf p.k = false := by rw [k13]; rfl
      have hdv : dep (.mk p.k p.g p.n p.s [v]) = dep v + 1 := by
        rw [dep_mk]
        show (if p.k = 5 then 1 else if lf p.k = true then 0 else depL [v] + 1) = _
        rw [if_neg (by omega), hlf]
        show max (dep v) 0 + 1 = _
        omega
      have hcv : cnt (.mk p.k p.g p.n p.s [v]) = cnt v + 1 := rfl
      have hrv : rgt (.mk p.k p.g p.n p.s [v]) = true := by
        rw [rgt_mk, Bool.and_eq_true, Bool.and_eq_true]
        refine ⟨⟨?_, ?_⟩, ?_⟩
        · rw [oneB_13 k13, Bool.and_eq_true, Bool.and_eq_true]
          refine ⟨?_, rfl, ?_⟩
          · unfold asked evOf at ha
            rw [if_pos (show (⟨p.k, p.g, p.n, p.s⟩ : Ev).k = 13 from k13)] at ha
            exact ha
          · rw [guise_one, Bool.not_eq_true']
            refine Bool.eq_false_iff.2 fun h => hg ?_
            rw [Bool.and_eq_true, Bool.and_eq_true] at h
            exact ⟨tag23_cons.2 ⟨k13, of_decide_eq_true h.1⟩, of_decide_eq_true h.2.1, h.2.2⟩
        · show (!(lf p.k) || _) = true
          rw [hlf]; rfl
        · show (rgt v && true) = true
          rw [hr]; rfl
      have hev : evs (.mk p.k p.g p.n p.s [v]) = evOf p :: evs v := by
        rw [evs_mk, if_neg (by show ¬ (p.k = 11 ∨ p.k = 12); omega), List.append_nil]
        show _ :: (evs v ++ []) = _
        rw [List.append_nil]
        rfl
      have := add_ok (most := most) r (.mk p.k p.g p.n p.s [v]) hR hrv (by intro h; have : p.k = 9 := h.2.1; omega) (by omega)
      rw [addB_tag k13, e1]
      have e2 : flat (p :: r) ++ evs v = flat r ++ evs (.mk p.k p.g p.n p.s [v]) := by
        rw [hev]
        show flat r ++ (evOf p :: evsL p.l) ++ evs v = _
        rw [hl, List.append_assoc]
        rfl
      have e3 : cntO (p :: r) + cnt v = cntO r + cnt (.mk p.k p.g p.n p.s [v]) := by
        rw [hcv]
        show cntO r + (cntL p.l + 1) + cnt v = _
        rw [hl]
        show cntO r + (0 + 1) + cnt v = _
        omega
      rw [e2, e3]
      exact this
    · rw [addB_open k13]
      refine ⟨?_, fun t ht => (by cases ht), fun _ => ⟨⟨?_, ha, ?_, ?_, hR⟩, ?_⟩⟩
      · show flat r ++ (evOf p :: evsL (p.l ++ [v])) = flat r ++ (evOf p :: evsL p.l) ++ evs v
        rw [evsL_snoc, List.append_assoc]
        rfl
      · show p.k = 11 ∨ p.k = 12 ∨ p.k = 13 ∧ _
        rcases hk with h | h | h
        · exact .inl h
        · exact .inr (.inl h)
        · exact absurd h.1 k13
      · show rgtL (p.l ++ [v]) = true
        rw [rgtL_snoc, hL, hr]
        rfl
      · show r.length + 1 + depL (p.l ++ [v]) ≤ most
        rw [depL_snoc]
        omega
      · show cntO r + (cntL (p.l ++ [v]) + 1) = cntO r + (cntL p.l + 1) + cnt v
        rw [cntL_snoc]
        omega
/-- what a state has come to -/
def Inv (S : Bst) (L : List Ev) : Prop := AddOk S.most L S.n (S.op, S.v) ∧ S.n ≤ 65536
theorem ba_nil {s : ByteArray} (h : s.size = 0) : s = ⟨#[]⟩ := by
  have h2 : s.data.size = 0 := h
  exact ByteArray.ext (Array.eq_empty_of_size_eq_zero h2)
theorem put_ok {S : Bst} {L : List Ev} {e : Ev} (h : Inv S L) (hm : mayB S e = 0) : Inv (putB S e) (L ++ [e]) := by
  obtain ⟨⟨h1, _, h2⟩, h3⟩ := h
  obtain ⟨op, v, n, most⟩ := S
  have hv : v = none := by
    cases v with
    | none => rfl
    | some x => rw [may_some rfl] at hm; cases hm
  subst hv
  obtain ⟨hO, hC⟩ := h2 rfl
  have hO' : OpOk most op := hO
  have hC' : cntO op = n := hC
  have hF : flat op = L := h1
  have h3' : n ≤ 65536 := h3
  have hp := hm
  unfold mayB at hp
  rw [if_neg (by simp)] at hp
  unfold putB
  rw [if_neg (by rw [hm]; simp)]
  by_cases k15 : e.k = 15
  · rw [if_pos k15] at hp ⊢
    have hq : (e.g = false ∧ e.n = 0 ∧ e.s.size = 0) ∧ endOk op = true := Classical.byContradiction fun hn => by rw [if_neg hn] at hp; cases hp
    obtain ⟨⟨q1, q2, q3⟩, q4⟩ := hq
    have he : e = evEnd := by
      cases e
      simp only at k15 q1 q2 q3
      subst k15 q1 q2
      rw [ba_nil q3]
      rfl
    match op, hO', hC', hF, q4 with
    | p :: r, hO', hC', hF, q4 =>
      obtain ⟨hk, ha, hL, hdl, hR⟩ := hO'
      have hk11 : p.k = 11 ∨ p.k = 12 ∧ p.l.length % 2 = 0 := by
        unfold endOk at q4
        rw [Bool.or_eq_true, Bool.and_eq_true, decide_eq_true_eq, decide_eq_true_eq, decide_eq_true_eq] at q4
        exact q4
      have hlf : lf p.k = false := by
        rcases hk11 with h | h
        · rw [h]; rfl
        · rw [h.1]; rfl
      have hdv : dep p = depL p.l + 1 := by
        rw [dep_mk, if_neg (by omega), hlf]
        rfl
      have hrv : rgt p = true := by
        rw [rgt_mk, hL, hlf, Bool.and_true]
        show (oneB p && true) = true
        rw [Bool.and_true]
        rw [oneB_leaf (by show p.k ≠ 13; omega)] at ha
        rcases hk11 with h | h
        · cases p; exact oneB_11 h ha
        · obtain ⟨k', g', n', s', l'⟩ := p
          have h12 : k' = 12 := h.1
          rw [oneB_12 h12, show oneB (.mk k' g' n' s' []) = true from ha, decide_eq_true (show l'.length % 2 = 0 from h.2)]
          rfl
      have := add_ok (most := most) r p hR hrv (by intro hh; omega) (by omega)
      refine ⟨?_, h3'⟩
      have e2 : L ++ [e] = flat r ++ evs p := by
        rw [← hF, he, evs_mk, if_pos (by omega)]
        show flat r ++ (evOf p :: evsL p.l) ++ [evEnd] = _
        rw [List.append_assoc]
        rfl
      have e3 : n = cntO r + cnt p := by rw [← hC', cnt_mk]; rfl
      rw [e2]
      show AddOk most (flat r ++ evs p) n (addB r p)
      rw [e3]
      exact this
  · rw [if_neg k15] at hp ⊢
    have q1 : ¬ (oneB (asked e) = false ∨ (tag23 op = true ∧ e.k = 9 ∧ big e.s = true)) := fun hn => by rw [if_pos hn] at hp; cases hp
    rw [if_neg q1] at hp
    have q2 : ¬ (most < op.length + dep (bare e) ∨ 65536 ≤ n) := fun hn => by rw [if_pos hn] at hp; cases hp
    have q3 : oneB (asked e) = true := by cases h : oneB (asked e) with
      | true => rfl
      | false => exact absurd (.inl h) q1
    have q4 : ¬ (tag23 op = true ∧ e.k = 9 ∧ big e.s = true) := fun h => q1 (.inr h)
    have hd := dep_bare e
    by_cases hl : lf e.k = true
    · rw [if_pos hl]
      have k13 := ((lf_iff e.k).1 hl).2.2
      have k11 := ((lf_iff e.k).1 hl).1
      have k12 := ((lf_iff e.k).1 hl).2.1
      have ea : asked e = bare e := by unfold asked bare; rw [if_neg k13]
      rw [ea] at q3
      have hrv : rgt (bare e) = true := by
        rw [rgt_mk, q3]
        show (true && (!(lf e.k) || true) && true) = true
        rw [Bool.or_true]
        rfl
      have := add_ok (most := most) op (bare e) hO' hrv q4 (by omega)
      refine ⟨?_, by show n + 1 ≤ 65536; omega⟩
      have e2 : evs (bare e) = [e] := by
        rw [evs_mk, if_neg (by show ¬ (e.k = 11 ∨ e.k = 12); omega)]
        rfl
      rw [← hF]
      show AddOk most (flat op ++ [e]) (n + 1) (addB op (bare e))
      rw [← hC', ← e2]
      exact this
    · rw [if_neg hl]
      have hl' : lf e.k = false := by cases h : lf e.k with
        | true => exact absurd h hl
        | false => rfl
      have hk : e.k = 11 ∨ e.k = 12 ∨ e.k = 13 := Classical.byContradiction fun hn => hl ((lf_iff e.k).2 ⟨fun h => hn (.inl h), fun h => hn (.inr (.inl h)), fun h => hn (.inr (.inr h))⟩)
      rw [if_neg (by omega), hl'] at hd
      have hd1 : dep (bare e) = 1 := by rw [hd]; rfl
      refine ⟨⟨?_, fun t ht => (by cases ht), fun _ => ⟨⟨?_, q3, rfl, ?_, hO'⟩, ?_⟩⟩, by show n + 1 ≤ 65536; omega⟩
      · show flat op ++ (evOf (bare e) :: evsL []) = L ++ [e]
        rw [hF]
        rfl
      · show e.k = 11 ∨ e.k = 12 ∨ e.k = 13 ∧ _
        rcases hk with h | h | h
        · exact .inl h
        · exact .inr (.inl h)
        · exact .inr (.inr ⟨h, rfl⟩)
      · show op.length + 1 + 0 ≤ most
        omega
      · show cntO op + (0 + 1) = n + 1
        omega
end Go.Proofs.Yteebokhpoppgeaa.nn
namespace Go.Proofs.Yteebokhpoppgeaa.nn
open Go.RowKit

/-- something that is open: its tree so far, its block, its slice -/
structure Rec where
  p : VT
  q : Nat
  v : Value
/-- which function tells what may come next -/
def tkF (i : Nat) (k : Int) : Nat := if i = 0 then 27 else if k = 12 then 30 else if k = 13 then 31 else 32
def opF (i : Nat) (r : Rec) : Value := .func (.func (tkF i r.p.k)) #[.pointer (some ⟨r.q, 0, none⟩)] #[]
def opC (i : Nat) (r : Rec) : List Value := [.pointer (some ⟨r.q, 0, none⟩), opF i r]
/-- the cells of what is open, from the bottom on (the list: the innermost first) -/
def stC : List Rec → List Value | [] => [] | r :: D => stC D ++ opC D.length r
theorem stC_len (D : List Rec) : (stC D).length = D.length * 2 := by
  induction D with
  | nil => rfl
  | cons r D ih => simp only [stC, opC, List.length_append, List.length_cons, List.length_nil, ih]; omega
/-- one's own blocks that never turn any more -/
def Fz (O : Nat → Prop) (K : Nat → Nat) : Nat → Prop := fun b => O b ∧ K b = 0
structure Pt (w : World) (O : Nat → Prop) (K : Nat → Nat) (i : Nat) (r : Rec) : Prop where
  b : Bk w r.q 57 (vc r.p r.v)
  o : O r.q ∧ K r.q = 3 + 2 * i
  v : Vo (Fz O K) 0 w r.v r.p.l
  vo : ∀ b, r.v.ownBlock = some b → O b ∧ K b = 4 + 2 * i
def Rcs (w : World) (O : Nat → Prop) (K : Nat → Nat) : List Rec → Prop | [] => True | r :: D => Pt w O K D.length r ∧ Rcs w O K D
theorem own_same5 {w w' : World} {base n size : Nat} {e : TypeId} {v : Value} {xs : List Value} (h : w.ownsRow base e size v n xs) (hb : ∀ b, v.ownBlock = some b → w'.heap[b]? = w.heap[b]?) : w'.ownsRow base e size v n xs := by
  refine ⟨h.1, ?_⟩
  rcases h.2 with h5 | ⟨g, cap, cur, rfl, hb', hg, h6⟩
  · exact .inl h5
  · exact .inr ⟨g, cap, cur, rfl, hb', (hb g rfl).trans hg, h6⟩
theorem Lsf.turn {F F' : Nat → Prop} {w w' : World} {v : Value} {l : List VT} (h : Lsf F w v l) (hs : w.heap.size ≤ w'.heap.size) (hF : ∀ b, F b → b < w.heap.size → w'.heap[b]? = w.heap[b]? ∧ F' b) : Lsf F' w' v l := by
  have h1 : Lsf (fun b => F b ∧ b < w.heap.size) w v l := h.wide fun b hb hlt => ⟨hb, hlt⟩
  exact (h1.keep hs fun b hb _ => (hF b hb.1 hb.2).1).wide fun b hb _ => (hF b hb.1 hb.2).2
theorem Vo.keep {F F' : Nat → Prop} {B : Nat} {w w' : World} {v : Value} {l : List VT} (h : Vo F B w v l) (hs : w.heap.size ≤ w'.heap.size) (hv : ∀ b, v.ownBlock = some b → w'.heap[b]? = w.heap[b]?) (hF : ∀ b, F b → b < w.heap.size → w'.heap[b]? = w.heap[b]? ∧ F' b) : Vo F' B w' v l := by
  obtain ⟨C, h1, h2⟩ := h
  exact ⟨C, own_same5 h1 hv, fun j hj => (h2 j hj).turn hs hF⟩
section
variable {w w' : World} {O O' : Nat → Prop} {K K' : Nat → Nat}
theorem Pt.keep {i : Nat} {r : Rec} (h : Pt w O K i r) (_ : ∀ b, O b → b < w.heap.size) (hs : w.heap.size ≤ w'.heap.size) (hb : ∀ b, O b → K b = 0 ∨ K b = 3 + 2 * i ∨ K b = 4 + 2 * i → w'.heap[b]? = w.heap[b]? ∧ O' b ∧ K' b = K b) : Pt w' O' K' i r := by
  obtain ⟨h1, h2, h3, h4⟩ := h
  have e2 := hb _ h2.1 (.inr (.inl h2.2))
  exact ⟨e2.1.trans h1, ⟨e2.2.1, e2.2.2.trans h2.2⟩, h3.keep hs (fun b h => (hb b (h4 b h).1 (.inr (.inr (h4 b h).2))).1) fun b h _ => by have := hb b h.1 (.inl h.2); exact ⟨this.1, this.2.1, this.2.2.trans h.2⟩, fun b h => by have := hb b (h4 b h).1 (.inr (.inr (h4 b h).2)); exact ⟨this.2.1, this.2.2.trans (h4 b h).2⟩⟩
theorem Rcs.keep {D : List Rec} (h : Rcs w O K D) (hlo : ∀ b, O b → b < w.heap.size) (hs : w.heap.size ≤ w'.heap.size) (hb : ∀ b, O b → K b = 0 ∨ (3 ≤ K b ∧ K b < 3 + 2 * D.length) → w'.heap[b]? = w.heap[b]? ∧ O' b ∧ K' b = K b) : Rcs w' O' K' D := by
  induction D with
  | nil => trivial
  | cons r D ih =>
    rw [List.length_cons] at hb
    refine ⟨h.1.keep hlo hs fun b ho hk => hb b ho (by omega), ih h.2 fun b ho hk => hb b ho (by omega)⟩
end
/-- the real build: block g; O: its own blocks, each of one kind: 0 never to turn, 1 the build, 2 what is open, 3 + 2 i, 4 + 2 i: the i-th that is open, and its slice -/
structure Rbx (w : World) (g : Nat) (O : Nat → Prop) (K : Nat → Nat) (sv : Value) (D : List Rec) (n most : Nat) : Prop where
  o : O g ∧ K g = 1
  lo : ∀ b, O b → b < w.heap.size
  b : Bk w g 51 #[.int .i64 (most : Int), .int .i64 (n : Int), sv]
  s : w.ownsRow 0 47 2 sv D.length (stC D)
  so : ∀ b, sv.ownBlock = some b → O b ∧ K b = 2
  r : Rcs w O K D
/-- what lies at the bottom -/
def bot (v : Option VT) : VT := .mk 11 false 0 ⟨#[]⟩ v.toList
def Rb (w : World) (g : Nat) (O : Nat → Prop) (S : Bst) : Prop := ∃ K sv D, Rbx w g O K sv D S.n S.most ∧ D.map Rec.p = S.op ++ [bot S.v]
section
variable {w W : World} {g : Nat} {O : Nat → Prop} {K : Nat → Nat} {sv : Value} {D : List Rec} {n most : Nat}
theorem Rbx.keep (h : Rbx w g O K sv D n most) (hs : w.heap.size ≤ W.heap.size) (hb : ∀ b, O b → W.heap[b]? = w.heap[b]?) : Rbx W g O K sv D n most :=
  ⟨h.o, fun b hb => Nat.lt_of_lt_of_le (h.lo b hb) hs, (hb g h.o.1).trans h.b, own_same5 h.s fun b hb' => hb b (h.so b hb').1, h.so, h.r.keep h.lo hs fun b ho _ => ⟨hb b ho, ho, rfl⟩⟩
theorem Rb.keep {S : Bst} (h : Rb w g O S) (hs : w.heap.size ≤ W.heap.size) (hb : ∀ b, O b → W.heap[b]? = w.heap[b]?) : Rb W g O S := by
  obtain ⟨K, sv, D, h1, h2⟩ := h
  exact ⟨K, sv, D, h1.keep hs hb, h2⟩
theorem Rbx.below (h : Rbx w g O K sv D n most) (hB : Below w.heap.size w W) : Rbx W g O K sv D n most := h.keep hB.size fun b hb => hB.block b (h.lo b hb)
theorem Rb.below {S : Bst} (h : Rb w g O S) (hB : Below w.heap.size w W) : Rb W g O S := by
  obtain ⟨K, sv, D, h1, h2⟩ := h
  exact ⟨K, sv, D, h1.below hB, h2⟩
/-- one value more -/
theorem Rbx.cnt (h : Rbx w g O K sv D n most) : Rbx (w.setCell ⟨g, 1, none⟩ (.int .i64 ((n + 1 : Nat) : Int))) g O K sv D (n + 1) most := by
  have hs : w.heap.size ≤ (w.setCell ⟨g, 1, none⟩ (.int .i64 ((n + 1 : Nat) : Int))).heap.size := by rw [setCell_sz]; exact Nat.le_refl _
  have hb : ∀ b, O b → K b ≠ 1 → (w.setCell ⟨g, 1, none⟩ (.int .i64 ((n + 1 : Nat) : Int))).heap[b]? = w.heap[b]? := fun b _ hk => off_g fun e => hk (by rw [e]; exact h.o.2)
  exact ⟨h.o, fun b hb => Nat.lt_of_lt_of_le (h.lo b hb) hs, h.b.set_ 1 _, own_same5 h.s fun b hb' => hb b (h.so b hb').1 (by rw [(h.so b hb').2]; decide), h.so, h.r.keep h.lo hs fun b ho hk => ⟨hb b ho (by omega), ho, rfl⟩⟩
/-- a row one shorter -/
theorem own_pop {w : World} {base size : Nat} {e : TypeId} {A : Option Addr} {m c : Nat} {xs ys : List Value} (h : w.ownsRow base e size (.slice A (m + 1) c) (m + 1) (xs ++ ys)) (hx : xs.length = m * size) : w.ownsRow base e size (.slice A m c) m xs := by
  refine ⟨hx, ?_⟩
  rcases h.2 with ⟨h5, h6⟩ | ⟨g, cap, cur, h5, hb, hg, hc, hm, hs, ht⟩
  · cases h6
  · injection h5 with e1 e2 e3
    subst e1 e3
    refine .inr ⟨g, c, cur, rfl, hb, hg, by omega, hm, hs, ?_⟩
    have h7 := congrArg (List.take (m * size)) ht
    rw [List.take_take, Nat.min_eq_left (Nat.mul_le_mul_right _ (Nat.le_succ m))] at h7
    rw [h7, List.take_left' hx]
/-- the innermost is taken off -/
theorem Rbx.pop {gs c : Nat} {r : Rec} (h : Rbx w g O K (.slice (some ⟨gs, 0, none⟩) (D.length + 1) c) (r :: D) n most) :
    ∃ K', Rbx (w.setCell ⟨g, 2, none⟩ (.slice (some ⟨gs, 0, none⟩) D.length c)) g O K' (.slice (some ⟨gs, 0, none⟩) D.length c) D n most ∧ Lsf (Fz O K') (w.setCell ⟨g, 2, none⟩ (.slice (some ⟨gs, 0, none⟩) D.length c)) r.v r.p.l := by
  have hs : w.heap.size ≤ (w.setCell ⟨g, 2, none⟩ (.slice (some ⟨gs, 0, none⟩) D.length c)).heap.size := by rw [setCell_sz]; exact Nat.le_refl _
  have hb : ∀ b, O b → K b ≠ 1 → (w.setCell ⟨g, 2, none⟩ (.slice (some ⟨gs, 0, none⟩) D.length c)).heap[b]? = w.heap[b]? := fun b _ hk => off_g fun e => hk (by rw [e]; exact h.o.2)
  refine ⟨fun b => if 3 + 2 * D.length ≤ K b then 0 else K b, ⟨⟨h.o.1, ?_⟩, fun b hb => Nat.lt_of_lt_of_le (h.lo b hb) hs, h.b.set_ 2 _, own_same5 (own_pop h.s (stC_len D)) fun b hb' => hb b (h.so b hb').1 (by rw [(h.so b hb').2]; decide), fun b hb' => ⟨(h.so b hb').1, ?_⟩, h.r.2.keep h.lo hs fun b ho hk => ⟨hb b ho (by omega), ho, ?_⟩⟩, ?_⟩
  · rw [h.o.2, if_neg (by omega)]
  · rw [(h.so b hb').2, if_neg (by omega)]
  · rw [if_neg (by omega)]
  · have hp := h.r.1
    obtain ⟨C, h1, h2⟩ := hp.v
    have hF : ∀ b, Fz O K b → b < w.heap.size → (w.setCell ⟨g, 2, none⟩ (.slice (some ⟨gs, 0, none⟩) D.length c)).heap[b]? = w.heap[b]? ∧ Fz O (fun b => if 3 + 2 * D.length ≤ K b then 0 else K b) b := fun b hf _ =>
      ⟨hb b hf.1 (by rw [hf.2]; decide), hf.1, by show (if _ then _ else _) = 0; rw [hf.2]; split <;> rfl⟩
    have h3 : Lsf (fun b => Fz O K b ∨ r.v.ownBlock = some b) w r.v r.p.l := by
      have hv : Vo (Fz O K) 0 w r.v r.p.l := hp.v
      rcases h1.2 with ⟨e1, h0⟩ | ⟨gr, cap, cur, e1, hb', hg, hc, _, _, ht⟩
      · have : r.p.l = [] := List.eq_nil_of_length_eq_zero h0
        rw [this, e1]
        exact .nil_
      · rw [e1]
        have hcell : ∀ j u, (rcs C 0 r.p.l)[j]? = some u → w.cell? ⟨gr, j, none⟩ = some u := fun j u hu => by
          rw [cell_of_row w gr j cur _ (0, 0) hg]
          have hj : j < r.p.l.length * 5 := by have := (List.getElem?_eq_some_iff.1 hu).1; rw [rcs_len] at this; exact this
          rw [← ht, List.getElem?_take_of_lt (by omega)] at hu
          rw [← hu]
          simp
        refine .at_ (C := C) rfl hc (.inr rfl) (Array.getElem?_eq_some_iff.1 hg).1 (fun i hi => ?_) fun i hi => (h2 i hi).wide fun b hb _ => .inl hb
        obtain ⟨r0, r1, r2, r3, r4⟩ := rcs_at C r.p.l 0 i hi
        rw [Nat.zero_add] at r4
        rw [Nat.zero_add]
        exact ⟨hcell _ _ r0, hcell _ _ r1, hcell _ _ r2, hcell _ _ r3, hcell _ _ r4⟩
    refine h3.turn hs fun b hf hlt => ?_
    rcases hf with hf | hf
    · exact hF b hf hlt
    · obtain ⟨h5, h6⟩ := hp.vo b hf
      exact ⟨hb b h5 (by omega), h5, by show (if _ then _ else _) = 0; rw [h6, if_pos (by omega)]⟩
/-- a value goes into the innermost -/
theorem Rbx.put {r : Rec} {p : VT} {v' : Value} (h : Rbx w g O K sv (r :: D) n most) (hs : w.heap.size ≤ W.heap.size) (hk : ∀ b, b < w.heap.size → b ≠ r.q → r.v.ownBlock ≠ some b → W.heap[b]? = w.heap[b]?)
    (hpk : p.k = r.p.k) (hq : Bk W r.q 57 (vc p v')) (hv : Vo (Fz O K) 0 W v' p.l) (hvo : v'.ownBlock = r.v.ownBlock ∨ ∃ k, v'.ownBlock = some k ∧ w.heap.size ≤ k) :
    Rbx W g (fun b => O b ∨ (w.heap.size ≤ b ∧ b < W.heap.size)) (fun b => if b < w.heap.size then K b else 4 + 2 * D.length) sv (⟨p, r.q, v'⟩ :: D) n most := by
  have hp := h.r.1
  have hO : ∀ b, O b → (fun b => if b < w.heap.size then K b else 4 + 2 * D.length) b = K b := fun b hb => if_pos (h.lo b hb)
  have hne : ∀ b, O b → K b ≠ 3 + 2 * D.length → K b ≠ 4 + 2 * D.length → W.heap[b]? = w.heap[b]? := fun b hb h3 h4 => hk b (h.lo b hb) (fun e => h3 (by rw [e]; exact hp.o.2)) fun e => h4 (hp.vo b e).2
  have hsz : ∀ k, v'.ownBlock = some k → k < W.heap.size := fun k hk => by obtain ⟨C, h1, _⟩ := hv; exact (h1.lt k hk).2
  have hst : stC (⟨p, r.q, v'⟩ :: D) = stC (r :: D) := by simp only [stC, opC, opF, hpk]
  refine ⟨⟨.inl h.o.1, (hO g h.o.1).trans h.o.2⟩, fun b hb => ?_, (hne g h.o.1 (by rw [h.o.2]; omega) (by rw [h.o.2]; omega)).trans h.b, ?_, fun b hb => ⟨.inl (h.so b hb).1, (hO b (h.so b hb).1).trans (h.so b hb).2⟩, ⟨hq, ⟨.inl hp.o.1, (hO _ hp.o.1).trans hp.o.2⟩, ?_, fun b hb => ?_⟩, h.r.2.keep h.lo hs fun b ho hk => ⟨hne b ho (by omega) (by omega), .inl ho, hO b ho⟩⟩
  · rcases hb with hb | hb
    · exact Nat.lt_of_lt_of_le (h.lo b hb) hs
    · exact hb.2
  · rw [hst]
    exact own_same5 h.s fun b hb => hne b (h.so b hb).1 (by rw [(h.so b hb).2]; omega) (by rw [(h.so b hb).2]; omega)
  · exact hv.keep (Nat.le_refl _) (fun _ _ => rfl) fun b hb _ => ⟨rfl, .inl hb.1, (hO b hb.1).trans hb.2⟩
  · rcases hvo with hvo | ⟨k, hvo, hk2⟩
    · rw [hvo] at hb
      exact ⟨.inl (hp.vo b hb).1, (hO b (hp.vo b hb).1).trans (hp.vo b hb).2⟩
    · have hb' : v'.ownBlock = some b := hb
      rw [hvo] at hb'
      injection hb' with hb'
      subst hb'
      exact ⟨.inr ⟨hk2, hsz _ hvo⟩, if_neg (by omega)⟩
/-- something more is open -/
theorem Rbx.push {p : VT} {q n' : Nat} {sv' : Value} (h : Rbx w g O K sv D n most) (hs : w.heap.size ≤ W.heap.size) (hk : ∀ b, b < w.heap.size → b ≠ g → sv.ownBlock ≠ some b → W.heap[b]? = w.heap[b]?)
    (hb : Bk W g 51 #[.int .i64 (most : Int), .int .i64 (n' : Int), sv']) (hv : W.ownsRow 0 47 2 sv' (D.length + 1) (stC (⟨p, q, .slice none 0 0⟩ :: D)))
    (hvo : sv'.ownBlock = sv.ownBlock ∨ ∃ k, sv'.ownBlock = some k ∧ w.heap.size ≤ k ∧ k ≠ q) (hq0 : w.heap.size ≤ q) (hq : Bk W q 57 (vc p (.slice none 0 0))) (hpl : p.l = []) :
    Rbx W g (fun b => O b ∨ (w.heap.size ≤ b ∧ b < W.heap.size)) (fun b => if b < w.heap.size then K b else if b = q then 3 + 2 * D.length else 2) sv' (⟨p, q, .slice none 0 0⟩ :: D) n' most := by
  have hO : ∀ b, O b → (fun b => if b < w.heap.size then K b else if b = q then 3 + 2 * D.length else 2) b = K b := fun b hb => if_pos (h.lo b hb)
  have hne : ∀ b, O b → K b ≠ 1 → K b ≠ 2 → W.heap[b]? = w.heap[b]? := fun b hb h3 h4 => hk b (h.lo b hb) (fun e => h3 (by rw [e]; exact h.o.2)) fun e => h4 (h.so b e).2
  refine ⟨⟨.inl h.o.1, (hO g h.o.1).trans h.o.2⟩, fun b hb => ?_, hb, hv, fun b hb => ?_, ⟨hq, ⟨.inr ⟨hq0, hq.lt⟩, ?_⟩, ?_, fun b hb => ?_⟩, h.r.keep h.lo hs fun b ho hk => ⟨hne b ho (by omega) (by omega), .inl ho, hO b ho⟩⟩
  · rcases hb with hb | hb
    · exact Nat.lt_of_lt_of_le (h.lo b hb) hs
    · exact hb.2
  · rcases hvo with hvo | ⟨k, hvo, hk2, hk3⟩
    · rw [hvo] at hb
      exact ⟨.inl (h.so b hb).1, (hO b (h.so b hb).1).trans (h.so b hb).2⟩
    · have hlt := (hv.lt b hb).2
      rw [hvo] at hb
      injection hb with hb
      subst hb
      exact ⟨.inr ⟨hk2, hlt⟩, by show (if _ then _ else _) = 2; rw [if_neg (by omega), if_neg hk3]⟩
  · show (if q < w.heap.size then _ else if q = q then _ else _) = _
    rw [if_neg (by omega), if_pos rfl]
  · show Vo _ 0 W (.slice none 0 0) p.l
    rw [hpl]
    exact ⟨fun _ => .slice none 0 0, World.ownsRow_nil _ _ _ _, fun j h => by simp at h⟩
  · exact absurd hb (by simp [Value.ownBlock])
/-- how the innermost lies -/
theorem Rbx.top {r : Rec} (h : Rbx w g O K sv (r :: D) n most) : ∃ gs c, sv = .slice (some ⟨gs, 0, none⟩) (D.length + 1) c ∧ gs < w.heap.size ∧ w.cell? ⟨gs, D.length * 2, none⟩ = some (.pointer (some ⟨r.q, 0, none⟩)) ∧ w.cell? ⟨gs, D.length * 2 + 1, none⟩ = some (opF D.length r) := by
  obtain ⟨gs, c, rfl, _, h2⟩ := own_blk h.s (Nat.succ_pos _)
  refine ⟨gs, c, rfl, h2, ?_, ?_⟩
  · have := h.s.cellAt (D.length * 2) (by simp only [List.length_cons]; omega)
    rw [this]
    simp [stC, opC, stC_len]
  · have := h.s.cellAt (D.length * 2 + 1) (by simp only [List.length_cons]; omega)
    rw [this]
    simp [stC, opC, stC_len]
theorem stC_first (D : List Rec) (r : Rec) : (stC (D ++ [r]))[0]? = some (.pointer (some ⟨r.q, 0, none⟩)) := by
  induction D with
  | nil => rfl
  | cons x D ih =>
    show (stC (D ++ [r]) ++ _)[0]? = _
    rw [List.getElem?_append_left (by rw [stC_len]; simp)]
    exact ih
theorem Rcs.last {D : List Rec} {r : Rec} (h : Rcs w O K (D ++ [r])) : Pt w O K 0 r := by
  induction D with
  | nil => exact h.1
  | cons x D ih => exact ih h.2
end
end Go.Proofs.Yteebokhpoppgeaa.nn
namespace Go.Proofs.Yteebokhpoppgeaa.nn
open Go.RowKit

theorem below_set5o {B g o : Nat} {w W : World} (h : Below B w W) (hg : B ≤ g) (a b c d e : Value) : Below B w (set5 W g o a b c d e) := by
  unfold set5
  exact ((((h.setCell (p := ⟨g, o, none⟩) hg a).setCell (p := ⟨g, o + 1, none⟩) hg b).setCell (p := ⟨g, o + 2, none⟩) hg c).setCell (p := ⟨g, o + 3, none⟩) hg d).setCell (p := ⟨g, o + 4, none⟩) hg e
theorem setCell_comm (w : World) (a b : Addr) (u v : Value) (h : a.block ≠ b.block) : (w.setCell a u).setCell b v = (w.setCell b v).setCell a u := by
  unfold World.setCell
  simp only [World.mk.injEq, and_true]
  apply Array.ext_getElem?
  intro i
  simp only [Array.getElem?_modify]
  by_cases ha : a.block = i
  · have hb : ¬ b.block = i := fun e => h (ha.trans e.symm)
    simp [ha, hb]
  · simp [ha]
theorem set5_comm (w : World) (g o q j : Nat) (a b c d e v : Value) (h : q ≠ g) : set5 (w.setCell ⟨q, j, none⟩ v) g o a b c d e = (set5 w g o a b c d e).setCell ⟨q, j, none⟩ v := by
  unfold set5
  rw [setCell_comm w ⟨q, j, none⟩ ⟨g, o, none⟩ v a h, setCell_comm _ ⟨q, j, none⟩ ⟨g, o + 1, none⟩ v b h, setCell_comm _ ⟨q, j, none⟩ ⟨g, o + 2, none⟩ v c h, setCell_comm _ ⟨q, j, none⟩ ⟨g, o + 3, none⟩ v d h, setCell_comm _ ⟨q, j, none⟩ ⟨g, o + 4, none⟩ v e h]
/-- an append of nothing yet -/
theorem run_zero (F : Nat → Prop) (w : World) (ty : TypeId) (v : Value) (l : List VT) (k : Nat) (hv : Vo F 0 w v l) (hz : Bk w k 36 (vc zt (.slice none 0 0))) (hF : ∀ b, F b → v.ownBlock ≠ some b) (hn : l.length + 1 ≤ 1099511627776) :
    ∃ v' w', (Builtin.append_ #[34, 34] ty #[v, .slice (some ⟨k, 0, none⟩) 1 1]).run Try.prog w = .ok v' w' ∧ Vo F 0 w' v' (l ++ [zt]) ∧ w.grownBy w' v.ownBlock ∧ (v'.ownBlock = v.ownBlock ∨ ∃ j, v'.ownBlock = some j ∧ w.heap.size ≤ j) := by
  obtain ⟨i0, hi, hz0, hz1, hz2⟩ : ∃ i0, Try.prog.info? 36 = some i0 ∧ i0.zero = some (.agg #[.int .i64 0, .bool false, .int .u64 0, .string ⟨#[]⟩, .slice none 0 0]) ∧ i0.size = 5 ∧ i0.bytes = 64 := info_parts info_val3
  obtain ⟨C, hown, hC⟩ := hv
  have hsrc : Srv F w (some ⟨k, 0, none⟩) [zt] := Srv.one hz .nil_
  obtain ⟨D, hD, hs⟩ := Vo.src hsrc
  rcases hs with hs | ⟨ad, e, hnews⟩
  · cases hs
  · injection e with e
    subst e
    have h1 : ∀ u ∈ rcs D 0 [zt], u.oneCell' = true := rcs_one D [zt] 0 fun j h => by
      obtain ⟨A3, c3, h3, _⟩ := (hD j h).lst.out
      rw [Nat.zero_add]
      exact ⟨_, _, _, h3⟩
    obtain ⟨v', w', hr, ho, hg, _, hat⟩ := run_append_own_at (P := Try.prog) w 0 34 ty 36 i0 _ 5 64 Try.underlying34 hi hz0 hz1 hz2 rfl (by decide) v l.length (rcs C 0 l) hown ⟨k, 0, none⟩ 1 1 (rcs D 0 [zt]) (rcs_len _ _ _) hnews h1 (by unfold maxLen; omega) (by omega) (Nat.zero_le _)
    have hkeep : ∀ {u : Value} {x : List VT}, Lsf F w u x → Lsf F w' u x := fun {u x} hu => hu.keep hg.size fun b hb hlt => hg.block b hlt fun e => hF b hb e.symm
    refine ⟨v', w', hr, ⟨_, by rw [rcs_both C D l [zt], List.length_append]; exact ho, fun j hj => ?_⟩, hg, hat.imp id fun h => ⟨_, h, Nat.le_refl _⟩⟩
    by_cases h : j < l.length
    · rw [if_pos h, List.getElem_append_left h]
      exact hkeep (hC j h)
    · rw [if_neg h, List.getElem_append_right (by omega)]
      exact hkeep (hD _ _)
theorem step_zero {ops : Array Oper} {o : Oper} {a : Act} {w : World} {K : Act → World → Prop} {Q : Exit → Act → World → Prop} {E : Prop} (hgd : o.guard = none) (s x : Operand)
    (ho : o.op = .call { callee := .builtin .append, args := #[s, x], argTypes := #[34, 34] })
    (F : Nat → Prop) (v : Value) (l : List VT) (k : Nat) (hs : a.eval s = v) (hx : a.eval x = .slice (some ⟨k, 0, none⟩) 1 1) (hv : Vo F 0 w v l) (hz : Bk w k 36 (vc zt (.slice none 0 0))) (hF : ∀ b, F b → v.ownBlock ≠ some b) (hn : l.length + 1 ≤ 1099511627776)
    (h : ∀ v' w', Vo F 0 w' v' (l ++ [zt]) → w.grownBy w' v.ownBlock → (v'.ownBlock = v.ownBlock ∨ ∃ j, v'.ownBlock = some j ∧ w.heap.size ≤ j) → K (a.put o.dst v') w') :
    if Region.wanted o (yielded ops a.tmps) = true then Oper.wp Try.prog o a w K Q else E := by
  have hw : Region.wanted o (yielded ops a.tmps) = true := by simp [Region.wanted, hgd]
  rw [if_pos hw]
  obtain ⟨v', w', hr, h1, h2, h3⟩ := run_zero F w o.type v l k hv hz hF hn
  unfold Oper.wp execOp
  simp only [ho, resolve, invoke, builtin, Sem.run_bind, Sem.run_pure, Result.andThen_ok, List.map_toArray, List.map_cons, List.map_nil, hs, hx, hr]
  exact h _ _ h1 h2 h3
/-- the last row of a row of one's own -/
theorem Vo.last {F : Nat → Prop} {w : World} {v : Value} {l : List VT} {m : Nat} (hm : m = l.length) (h : Vo F 0 w v (l ++ [zt])) : ∃ g c D, v = .slice (some ⟨g, 0, none⟩) (m + 1) c ∧ g < w.heap.size ∧ m + 1 ≤ c ∧
    (w.cell? ⟨g, m * 5, none⟩ = some (.int .i64 0) ∧ w.cell? ⟨g, m * 5 + 1, none⟩ = some (.bool false) ∧ w.cell? ⟨g, m * 5 + 2, none⟩ = some (.int .u64 0) ∧ w.cell? ⟨g, m * 5 + 3, none⟩ = some (.string ⟨#[]⟩) ∧ w.cell? ⟨g, m * 5 + 4, none⟩ = some D) ∧
    (w.frozen? ⟨g, m * 5, none⟩ = false ∧ w.frozen? ⟨g, m * 5 + 1, none⟩ = false ∧ w.frozen? ⟨g, m * 5 + 2, none⟩ = false ∧ w.frozen? ⟨g, m * 5 + 3, none⟩ = false ∧ w.frozen? ⟨g, m * 5 + 4, none⟩ = false) := by
  subst hm
  obtain ⟨C, h1, _⟩ := h
  obtain ⟨g, c, rfl, _, hg⟩ := own_blk h1 (by simp)
  have hl : (l ++ [zt]).length = l.length + 1 := by simp
  rw [hl] at h1 ⊢
  have hc : l.length + 1 ≤ c := by
    rcases h1.2 with ⟨h5, _⟩ | ⟨_, _, _, e, _, _, hc, _⟩
    · cases h5
    · injection e with e1 e2 e3; omega
  obtain ⟨r0, r1, r2, r3, r4⟩ := rcs_at C (l ++ [zt]) 0 l.length (by simp)
  have hz : (l ++ [zt])[l.length] = zt := by simp
  rw [hz] at r0 r1 r2 r3
  have hcell : ∀ j u, (rcs C 0 (l ++ [zt]))[j]? = some u → w.cell? ⟨g, j, none⟩ = some u := fun j u hu => by
    have hj : j < (l.length + 1) * 5 := by have := (List.getElem?_eq_some_iff.1 hu).1; rw [rcs_len, hl] at this; exact this
    rw [h1.cellAt j hj]
    exact hu
  exact ⟨g, c, _, rfl, hg, hc, ⟨hcell _ _ r0, hcell _ _ r1, hcell _ _ r2, hcell _ _ r3, hcell _ _ r4⟩, h1.frozenAt _, h1.frozenAt _, h1.frozenAt _, h1.frozenAt _, h1.frozenAt _⟩
theorem list_set5 (A : List Value) (a b c d e x0 x1 x2 x3 x4 : Value) (n : Nat) (hn : n = A.length) : (((((A ++ [a, b, c, d, e]).set n x0).set (n + 1) x1).set (n + 2) x2).set (n + 3) x3).set (n + 4) x4 = A ++ [x0, x1, x2, x3, x4] := by
  subst hn
  simp [List.set_append_right]
theorem Vo.put5 {F : Nat → Prop} {w : World} {g m c : Nat} {l : List VT} {t : VT} {C : Value} (hm : m = l.length) (h : Vo F 0 w (.slice (some ⟨g, 0, none⟩) (m + 1) c) (l ++ [zt])) (hF : ¬ F g) (hC : Lsf F w C t.l) :
    Vo F 0 (set5 w g (m * 5) (.int .i64 t.k) (.bool t.g) (.int .u64 (t.n : Int)) (.string t.s) C) (.slice (some ⟨g, 0, none⟩) (m + 1) c) (l ++ [t]) := by
  subst hm
  obtain ⟨D, h1, h2⟩ := h
  have hl : (l ++ [zt]).length = l.length + 1 := by simp
  have hl2 : (l ++ [t]).length = l.length + 1 := by simp
  have hk : ∀ {u : Value} {x : List VT}, Lsf F w u x → Lsf F (set5 w g (l.length * 5) (.int .i64 t.k) (.bool t.g) (.int .u64 (t.n : Int)) (.string t.s) C) u x := fun {u x} hu => hu.keep (by rw [set5_size]; exact Nat.le_refl _) fun b hb _ => set5_other _ _ _ _ _ _ _ _ b fun e => hF (by rw [← e]; exact hb)
  refine ⟨fun j => if j < l.length then D j else C, ?_, fun j hj => ?_⟩
  · rw [hl] at h1
    rw [hl2]
    have e1 : rcs D 0 (l ++ [zt]) = rcs D 0 l ++ [.int .i64 0, .bool false, .int .u64 0, .string ⟨#[]⟩, D (0 + l.length)] := by rw [rcs_app]; rfl
    have e2 : rcs (fun j => if j < l.length then D j else C) 0 (l ++ [t]) = rcs D 0 l ++ [.int .i64 t.k, .bool t.g, .int .u64 (t.n : Int), .string t.s, C] := by
      rw [rcs_app, rcs_congr (fun j => if j < l.length then D j else C) D l 0 fun j hj => by show (if 0 + j < l.length then _ else _) = _; rw [if_pos (by omega)]]
      show _ ++ [_, _, _, _, (if 0 + l.length < l.length then _ else C)] = _
      rw [if_neg (by omega)]
    rw [e2, ← list_set5 (rcs D 0 l) _ _ _ _ _ _ _ _ _ _ (l.length * 5) (rcs_len _ _ _).symm, ← e1]
    exact (((((h1.stored _ _).1.stored _ _).1.stored _ _).1.stored _ _).1.stored _ _).1
  · rw [hl2] at hj
    by_cases h : j < l.length
    · have := h2 j (by rw [hl]; omega)
      simp only [List.getElem_append_left h, if_pos h] at this ⊢
      exact hk this
    · obtain rfl : j = l.length := by omega
      simp only [Nat.lt_irrefl, if_false, List.getElem_append_right (Nat.le_refl _), Nat.sub_self, List.getElem_cons_zero]
      exact hk hC
/-- a whole value goes in; what was a tag is whole with it -/
def addRb : List VT → VT → List VT | [], _ => [] | p :: r, v => if p.k = 13 then addRb r (p.snoc v) else p.snoc v :: r
/-- at some place there is no tag -/
def Btm : List Rec → Prop | [] => False | r :: D => r.p.k ≠ 13 ∨ Btm D
section
variable {w w3 : World} {g : Nat} {O : Nat → Prop} {K : Nat → Nat} {sv : Value} {D : List Rec} {n most : Nat}
/-- what the stores behind the append leave -/
theorem Rbx.added {r : Rec} {t : VT} {C v' : Value} {o : Obj} {X : World} (h : Rbx w g O K sv (r :: D) n most) (hX : X.heap = (w.alloc o).heap) (hv : Vo (Fz O K) 0 w3 v' (r.p.l ++ [zt])) (hg : X.grownBy w3 r.v.ownBlock) (ho : v'.ownBlock = r.v.ownBlock ∨ ∃ j, v'.ownBlock = some j ∧ X.heap.size ≤ j)
    {gr m c : Nat} (hm : m = r.p.l.length) (e : v' = .slice (some ⟨gr, 0, none⟩) (m + 1) c) (hC : Lsf (Fz O K) w C t.l) {W : World} (hW : W = (set5 w3 gr (m * 5) (.int .i64 t.k) (.bool t.g) (.int .u64 (t.n : Int)) (.string t.s) C).setCell ⟨r.q, 4, none⟩ v') :
    Rbx W g (fun b => O b ∨ (w.heap.size ≤ b ∧ b < W.heap.size)) (fun b => if b < w.heap.size then K b else 4 + 2 * D.length) sv (⟨r.p.snoc t, r.q, v'⟩ :: D) n most ∧ (∀ b, b < w.heap.size → ¬ O b → W.heap[b]? = w.heap[b]?) ∧ w.heap.size ≤ W.heap.size := by
  have hp := h.r.1
  have hq := h.lo _ hp.o.1
  have hsz : X.heap.size = w.heap.size + 1 := by rw [hX]; simp
  have hs3 : W.heap.size = w3.heap.size := by rw [hW, setCell_sz, set5_size]
  have hs0 := hg.size
  have hgr : r.v.ownBlock = some gr ∨ w.heap.size ≤ gr := by
    rcases ho with ho | ⟨j, ho, hj⟩
    · left; rw [← ho, e]; rfl
    · right; rw [e] at ho; have : gr = j := Option.some.inj ho; omega
  have hgq : gr ≠ r.q := by
    rcases hgr with hgr | hgr
    · intro e2
      have h1 := (hp.vo gr hgr).2
      rw [e2, hp.o.2] at h1
      omega
    · omega
  have h3 : ∀ b, b < w.heap.size → r.v.ownBlock ≠ some b → w3.heap[b]? = w.heap[b]? := fun b hb hne => by
    rw [hg.block b (by omega) (fun e2 => hne e2.symm), hX, Below.heap_alloc _ _ _ hb]
  have hk : ∀ b, b < w.heap.size → b ≠ r.q → r.v.ownBlock ≠ some b → W.heap[b]? = w.heap[b]? := fun b hb hbq hne => by
    rw [hW, off_g hbq, set5_other _ _ _ _ _ _ _ _ b (fun e2 => by rcases hgr with hgr | hgr; exact hne (by rw [e2]; exact hgr); omega)]
    exact h3 b hb hne
  have hF : ∀ b, Fz O K b → b ≠ gr := fun b hb e2 => by
    rcases hgr with hgr | hgr
    · have := (hp.vo gr hgr).2; have := hb.2; rw [e2] at this; omega
    · have := h.lo b hb.1; omega
  have hFq : ∀ b, Fz O K b → b ≠ r.q := fun b hb e2 => by have := hb.2; rw [e2, hp.o.2] at this; omega
  have hC3 : Lsf (Fz O K) w3 C t.l := hC.keep (by omega) fun b hb hlt => h3 b hlt fun e2 => by have := (hp.vo b e2).2; have := hb.2; omega
  refine ⟨h.put (by omega) hk rfl ?_ ?_ (ho.imp id fun ⟨j, h1, h2⟩ => ⟨j, h1, by omega⟩), fun b hb hn => hk b hb (fun e2 => hn (by rw [e2]; exact hp.o.1)) fun e2 => hn (hp.vo b e2).1, by omega⟩
  · have hb3 : Bk (set5 w3 gr (m * 5) (.int .i64 t.k) (.bool t.g) (.int .u64 (t.n : Int)) (.string t.s) C) r.q 57 (vc r.p r.v) := by
      unfold Bk
      rw [set5_other _ _ _ _ _ _ _ _ _ (Ne.symm hgq), h3 _ hq fun e2 => by have h1 := (hp.vo _ e2).2; rw [hp.o.2] at h1; omega]
      exact hp.b
    rw [hW]
    exact hb3.set_ 4 v'
  · rw [e] at hv
    have h5 := Vo.put5 (t := t) (C := C) hm hv (fun hf => hF _ hf rfl) hC3
    rw [hW, e]
    exact h5.keep (by rw [setCell_sz]; exact Nat.le_refl _) (fun b hb => off_g fun e2 => by have : gr = b := Option.some.inj hb; omega) fun b hb _ => ⟨off_g (hFq b hb), hb⟩
end
end Go.Proofs.Yteebokhpoppgeaa.nn
