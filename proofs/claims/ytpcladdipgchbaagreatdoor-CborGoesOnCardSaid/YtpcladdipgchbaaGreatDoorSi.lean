/- Joined texts, what is wanted of them: Ev, RefEvs, RefEvents, EvCount, EvM, Bm, VaCopy, BmA, VaDeep, BmB, BmV, EvRun, Rb, RbTop, VaAt, Val8At. -/
import Derived.Laws.AppendOwn
import Derived.Maps.AppendAt
import Derived.Laws.OwnMore
import Derived.Lib.Hide
import Derived.Deep.QuietTactic
import Derived.BigQuiet
import Derived.IntWalk
import Derived.BigRegion
import Derived.ChangeAlike
import Derived.WalkSpells
import Derived.Deep.DeepCutAuto
import Derived.Laws.EntriesVeiled
import Derived.Test.YtpcladdipgchbaaGreatDoorProg
import Derived.WalkKit
import Derived.Deep.RegionHeld3
import Derived.Laws.BitsAllLaws
import Derived.Test.YtpcladdipgchbaaGreatDoorShelf
import Derived.Deep.RegionWith
import Derived.Deep.CutBlock
import Derived.StillTailTactics
import Derived.Test.YtpcladdipgchbaaGreatDoorSa
import Derived.Test.YtpcladdipgchbaaGreatDoorSc
import Derived.Test.YtpcladdipgchbaaGreatDoorSd
import Derived.Test.YtpcladdipgchbaaGreatDoorSe
namespace Go.Proofs.YtpcladdipgchbaaGreatDoor.nn
open Go.RowKit

/-- an event -/
structure Ev where
  k : Int
  g : Bool
  n : Nat
  s : ByteArray
/-- the end of a list, of a map -/
def evEnd : Ev := ⟨15, false, 0, ⟨#[]⟩⟩
/-- the event that a value begins with -/
def evOf (t : VT) : Ev := ⟨t.k, t.g, t.n, t.s⟩
mutual
/-- the events of a tree -/
def evs : VT → List Ev | .mk k g n s l => ⟨k, g, n, s⟩ :: (evsL l ++ (if k = 11 ∨ k = 12 then [evEnd] else []))
def evsL : List VT → List Ev | [] => [] | t :: r => evs t ++ evsL r
end
theorem evs_mk (t : VT) : evs t = evOf t :: (evsL t.l ++ (if t.k = 11 ∨ t.k = 12 then [evEnd] else [])) := by cases t; rfl
theorem evsL_app (a b : List VT) : evsL (a ++ b) = evsL a ++ evsL b := by
  induction a with
  | nil => rfl
  | cons t r ih => simp only [List.cons_append, evsL, ih, List.append_assoc]
/-- an event's four cells -/
def evC (e : Ev) : List Value := [.int .i64 e.k, .bool e.g, .int .u64 (e.n : Int), .string e.s]
/-- an event that is handed over -/
def evv (e : Ev) : Value := .agg #[.int .i64 e.k, .bool e.g, .int .u64 (e.n : Int), .string e.s]
/-- the cells of events -/
def evL : List Ev → List Value | [] => [] | e :: r => evC e ++ evL r
theorem evL_len (L : List Ev) : (evL L).length = L.length * 4 := by
  induction L with
  | nil => rfl
  | cons e r ih => simp only [evL, evC, List.length_append, List.length_cons, List.length_nil, ih]; omega
theorem evL_at {L : List Ev} {i : Nat} (h : i < L.length) : (evL L)[i * 4]? = some (.int .i64 L[i].k) ∧ (evL L)[i * 4 + 1]? = some (.bool L[i].g) ∧ (evL L)[i * 4 + 2]? = some (.int .u64 (L[i].n : Int)) ∧ (evL L)[i * 4 + 3]? = some (.string L[i].s) := by
  induction L generalizing i with
  | nil => exact absurd h (by simp)
  | cons e r ih =>
    have e4 : (evC e).length = 4 := rfl
    cases i with
    | zero => exact ⟨rfl, rfl, rfl, rfl⟩
    | succ i =>
      have h1 := ih (i := i) (by simpa using h)
      have go : ∀ j, (evL (e :: r))[(i + 1) * 4 + j]? = (evL r)[i * 4 + j]? := fun j => by
        rw [evL, List.getElem?_append_right (by omega), e4, show (i + 1) * 4 + j - 4 = i * 4 + j by omega]
      have g0 := go 0
      rw [Nat.add_zero, Nat.add_zero] at g0
      rw [g0, go 1, go 2, go 3]
      exact h1
/-- a slice's place reads as events -/
def RdE (w : World) (A : Option Addr) (L : List Ev) : Prop := L ≠ [] → ∃ b off : Nat, A = some ⟨b, off, none⟩ ∧ b < w.heap.size ∧ ∀ j u, (evL L)[j]? = some u → w.cell? ⟨b, off + j, none⟩ = some u
theorem RdE.below {w w' : World} {A : Option Addr} {L : List Ev} (h : RdE w A L) (hB : Below w.heap.size w w') : RdE w' A L := fun h0 => by
  obtain ⟨b, off, rfl, hb, hc⟩ := h h0
  exact ⟨b, off, rfl, Nat.lt_of_lt_of_le hb hB.size, fun j u hu => (hB.cell (p := ⟨b, off + j, none⟩) hb).trans (hc j u hu)⟩
theorem RdE.at {w : World} {b off : Nat} {L : List Ev} (h : RdE w (some ⟨b, off, none⟩) L) {i : Nat} (hi : i < L.length) : w.cell? ⟨b, off + i * 4, none⟩ = some (.int .i64 L[i].k) ∧ w.cell? ⟨b, off + i * 4 + 1, none⟩ = some (.bool L[i].g) ∧ w.cell? ⟨b, off + i * 4 + 2, none⟩ = some (.int .u64 (L[i].n : Int)) ∧ w.cell? ⟨b, off + i * 4 + 3, none⟩ = some (.string L[i].s) := by
  obtain ⟨b', off', e, _, hc⟩ := h (by intro h0; subst h0; simp at hi)
  injection e with e
  injection e with e1 e2 e3
  subst e1 e2
  obtain ⟨h0, h1, h2, h3⟩ := evL_at hi
  exact ⟨hc _ _ h0, hc _ _ h1, hc _ _ h2, hc _ _ h3⟩
/-- a slice of one's own reads as its events -/
theorem RdE.of_own {w : World} {base n : Nat} {e : TypeId} {v : Value} {L : List Ev} (hn : n = L.length) (h : w.ownsRow base e 4 v n (evL L)) : ∃ A c, v = .slice A n c ∧ n ≤ c ∧ c ≤ maxLen ∧ RdE w A L := by
  subst hn
  rcases h.2 with ⟨rfl, h0⟩ | ⟨g, cap, cur, rfl, hb, hg, hc, hm, hs, ht⟩
  · exact ⟨none, 0, by rw [h0], by omega, by unfold maxLen; omega, fun h => absurd (List.eq_nil_of_length_eq_zero h0) h⟩
  · refine ⟨_, cap, rfl, hc, hm, fun _ => ⟨g, 0, rfl, (Array.getElem?_eq_some_iff.1 hg).1, fun j u hu => ?_⟩⟩
    have hl := evL_len L
    have hj := (List.getElem?_eq_some_iff.1 hu).1
    rw [cell_of_row w g (0 + j) cur _ (0, 0) hg, Nat.zero_add]
    rw [← ht, List.getElem?_take_of_lt (by omega)] at hu
    rw [← hu]
    simp
theorem add_cell (b off j : Nat) : (⟨b, off, none⟩ : Addr).add j = ⟨b, off + j, none⟩ := by unfold Addr.add; split <;> simp_all
end Go.Proofs.YtpcladdipgchbaaGreatDoor.nn
namespace Go.Proofs.YtpcladdipgchbaaGreatDoor.nn
open Go.RowKit

theorem own_blk {w : World} {base n size : Nat} {e : TypeId} {v : Value} {xs : List Value} (h : w.ownsRow base e size v n xs) (h0 : 0 < n) : ∃ g cap, v = .slice (some ⟨g, 0, none⟩) n cap ∧ base ≤ g ∧ g < w.heap.size := by
  rcases h.2 with ⟨_, h3⟩ | ⟨g, cap, cur, rfl, hb, hg, _⟩
  · omega
  · exact ⟨g, cap, rfl, hb, (Array.getElem?_eq_some_iff.1 hg).1⟩
end Go.Proofs.YtpcladdipgchbaaGreatDoor.nn
namespace Go.Proofs.YtpcladdipgchbaaGreatDoor.nn
open Go.RowKit

theorem chk_cnt {t : VT} (h : chk t = 0) : cnt t ≤ 65536 ∧ dep t ≤ 64 ∧ rgt t = true := by
  unfold chk at h
  split at h
  · cases h
  · split at h
    · exact ⟨by omega, by omega, ‹_›⟩
    · cases h
end Go.Proofs.YtpcladdipgchbaaGreatDoor.nn
namespace Go.Proofs.YtpcladdipgchbaaGreatDoor.nn

mutual
/-- how many ends there are -/
def en : VT → Nat | .mk k _ _ _ l => enL l + (if k = 11 ∨ k = 12 then 1 else 0)
def enL : List VT → Nat | [] => 0 | t :: r => en t + enL r
end
/-- ends, how deep, how deep at most -/
def stp (s : Nat × Int × Int) (x : Ev) : Nat × Int × Int :=
  if x.k = 15 then (s.1 + 1, s.2.1 - 1, max s.2.2 (s.2.1 - 1))
  else if x.k = 11 ∨ x.k = 12 then (s.1, s.2.1 + 1, max s.2.2 (s.2.1 + 1))
  else (s.1, s.2.1, max s.2.2 s.2.1)
theorem oneB_k {t : VT} (h : oneB t = true) : 0 ≤ t.k ∧ t.k ≤ 14 := by
  refine Classical.byContradiction fun hn => ?_
  unfold oneB at h
  rw [if_neg (by omega), if_neg (by omega), if_neg (by omega), if_neg (by omega), if_neg (by omega), if_neg (by omega), if_neg (by omega), if_neg (by omega), if_neg (by omega), if_neg (by omega), if_neg (by omega), if_neg (by omega), if_neg (by omega)] at h
  cases h
theorem rgt_parts {t : VT} (h : rgt t = true) : oneB t = true ∧ (lf t.k = true → t.l = []) ∧ rgtL t.l = true := by
  rw [rgt_mk, Bool.and_eq_true, Bool.and_eq_true] at h
  obtain ⟨⟨h1, h2⟩, h3⟩ := h
  refine ⟨h1, fun hl => ?_, h3⟩
  rw [hl] at h2
  simpa using h2
theorem lf_iff (k : Int) : lf k = true ↔ k ≠ 11 ∧ k ≠ 12 ∧ k ≠ 13 := by unfold lf; simp
end Go.Proofs.YtpcladdipgchbaaGreatDoor.nn
namespace Go.Proofs.YtpcladdipgchbaaGreatDoor.nn

/-- what is open, the innermost first; the whole value; how many values; how deep at most -/
structure Bst where
  op : List VT
  v : Option VT
  n : Nat
  most : Nat
/-- nothing -/
def emp : VT := .mk 0 false 0 ⟨#[]⟩ []
/-- an event's value, with nothing in it -/
def bare (e : Ev) : VT := .mk e.k e.g e.n e.s []
/-- likewise, but a tag with something in it -/
def asked (e : Ev) : VT := .mk e.k e.g e.n e.s (if e.k = 13 then [emp] else [])
/-- one value more within -/
def VT.snoc (p v : VT) : VT := .mk p.k p.g p.n p.s (p.l ++ [v])
/-- may what is open innermost end? -/
def endOk : List VT → Bool | [] => false | p :: _ => decide (p.k = 11) || (decide (p.k = 12) && decide (p.l.length % 2 = 0))
/-- is what is open innermost a tag 2 or 3? -/
def tag23 : List VT → Bool | [] => false | p :: _ => decide (p.k = 13) && (decide (p.n = 2) || decide (p.n = 3))
/-- may an event go on? -/
def mayB (S : Bst) (e : Ev) : Nat :=
  if S.v.isSome = true then 4
  else if e.k = 15 then (if (e.g = false ∧ e.n = 0 ∧ e.s.size = 0) ∧ endOk S.op = true then 0 else 4)
  else if oneB (asked e) = false ∨ (tag23 S.op = true ∧ e.k = 9 ∧ big e.s = true) then 4
  else if S.most < S.op.length + dep (bare e) ∨ 65536 ≤ S.n then 8
  else 0
/-- a whole value goes on -/
def addB : List VT → VT → List VT × Option VT
  | [], v => ([], some v)
  | p :: r, v => if p.k = 13 then addB r (p.snoc v) else (p.snoc v :: r, none)
/-- an event goes on -/
def putB (S : Bst) (e : Ev) : Bst :=
  if mayB S e ≠ 0 then S
  else if e.k = 15 then ⟨(addB S.op.tail (S.op.headD emp)).1, (addB S.op.tail (S.op.headD emp)).2, S.n, S.most⟩
  else if lf e.k = true then ⟨(addB S.op (bare e)).1, (addB S.op (bare e)).2, S.n + 1, S.most⟩
  else ⟨bare e :: S.op, none, S.n + 1, S.most⟩
def newB (d : Int) : Bst := ⟨[], none, 0, (min (max d 0) 64).toNat⟩
/-- events go on, till one errs: the state, how many went, the error -/
def runB : Bst → List Ev → Bst × Nat × Nat
  | S, [] => (S, 0, 0)
  | S, e :: r => if mayB S e = 0 then ((runB (putB S e) r).1, (runB (putB S e) r).2.1 + 1, (runB (putB S e) r).2.2) else (S, 0, mayB S e)
section
variable {S : Bst} {L M : List Ev}
end
end Go.Proofs.YtpcladdipgchbaaGreatDoor.nn
namespace Go.Proofs.YtpcladdipgchbaaGreatDoor.nn
open Go.RowKit

/-- a slice holds a list of trees, all in blocks of F -/
inductive Lsf (F : Nat → Prop) (w : World) : Value → List VT → Prop where
  | nil_ {A : Option Addr} {c : Nat} : Lsf F w (.slice A 0 c) []
  | at_ {b off m c : Nat} {C : Nat → Value} {l : List VT} (hl : l.length = m) (hc : m ≤ c) (h0 : F b) (hb : b < w.heap.size) (hr : ∀ i (h : i < l.length), Row w b (off + i * 5) l[i] (C i)) (hk : ∀ i (h : i < l.length), Lsf F w (C i) l[i].l) : Lsf F w (.slice (some ⟨b, off, none⟩) m c) l
theorem Lsf.lst {F : Nat → Prop} {w : World} {v : Value} {l : List VT} (h : Lsf F w v l) : Lst w v l := by
  induction h with
  | nil_ => exact .nil_
  | at_ hl hc h0 hb hr hk ih => exact .at_ hl hc hb hr ih
theorem Lsf.wide {F G : Nat → Prop} {w : World} {v : Value} {l : List VT} (h : Lsf F w v l) (hG : ∀ b, F b → b < w.heap.size → G b) : Lsf G w v l := by
  induction h with
  | nil_ => exact .nil_
  | at_ hl hc h0 hb hr hk ih => exact .at_ hl hc (hG _ h0 hb) hb hr ih
theorem Lsf.keep {F : Nat → Prop} {w w' : World} {v : Value} {l : List VT} (h : Lsf F w v l) (hs : w.heap.size ≤ w'.heap.size) (hb : ∀ b, F b → b < w.heap.size → w'.heap[b]? = w.heap[b]?) : Lsf F w' v l := by
  induction h with
  | nil_ => exact .nil_
  | at_ hl hc h0 hlt hr hk ih =>
    refine .at_ hl hc h0 (by omega) (fun i h => ?_) ih
    have e := hb _ h0 hlt
    have h := hr i h
    exact ⟨(World.cell?_of_block e).trans h.k, (World.cell?_of_block e).trans h.g, (World.cell?_of_block e).trans h.n, (World.cell?_of_block e).trans h.s, (World.cell?_of_block e).trans h.l⟩
/-- the nine cells of a build -/
def bmC (A : Option Addr) (c : Nat) (D : Value) (S : Bst) : Array Value :=
  #[.slice A S.op.length c, .bool S.v.isSome, .int .i64 (S.v.getD emp).k, .bool (S.v.getD emp).g, .int .u64 ((S.v.getD emp).n : Int), .string (S.v.getD emp).s, D, .int .i64 (S.n : Int), .int .i64 (S.most : Int)]
/-- one's own blocks, but for the build's and that of what is open -/
def Oth (O : Nat → Prop) (g : Nat) (A : Option Addr) (b : Nat) : Prop := O b ∧ b ≠ g ∧ ∀ a, A = some a → a.block ≠ b
/-- what is open, from the root on -/
def Opn (w : World) (g : Nat) (O : Nat → Prop) (A : Option Addr) (c : Nat) (l : List VT) : Prop :=
  l = [] ∨ ∃ (go : Nat) (C : Nat → Value), A = some ⟨go, 0, none⟩ ∧ O go ∧ go ≠ g ∧ l.length ≤ c ∧ (∀ o, w.frozen? ⟨go, o, none⟩ = false) ∧ ∀ i (h : i < l.length), Row w go (i * 5) l[i] (C i) ∧ Lsf (Oth O g A) w (C i) l[i].l
/-- a build in memory: block g; O: the blocks that are its own -/
structure Bm (w : World) (g : Nat) (O : Nat → Prop) (S : Bst) : Prop where
  o : O g
  lo : ∀ b, O b → b < w.heap.size
  x : ∃ A c D, Bk w g 135 (bmC A c D S) ∧ Opn w g O A c S.op.reverse ∧ Lsf (Oth O g A) w D (S.v.getD emp).l
/-- others' steps leave it alone -/
theorem Bm.keep {w w' : World} {g : Nat} {O : Nat → Prop} {S : Bst} (h : Bm w g O S) (hs : w.heap.size ≤ w'.heap.size) (hb : ∀ b, O b → w'.heap[b]? = w.heap[b]?) : Bm w' g O S := by
  obtain ⟨h1, h2, A, c, D, h3, h4, h5⟩ := h
  have ho : ∀ b, Oth O g A b → b < w.heap.size → w'.heap[b]? = w.heap[b]? := fun b hb1 _ => hb b hb1.1
  refine ⟨h1, fun b hb1 => Nat.lt_of_lt_of_le (h2 b hb1) hs, A, c, D, (hb g h1).trans h3, ?_, h5.keep hs ho⟩
  rcases h4 with h4 | ⟨go, C, h6, h7, h8, h9, h10, h11⟩
  · exact .inl h4
  · refine .inr ⟨go, C, h6, h7, h8, h9, fun o => (World.frozen?_of_block (hb go h7)).trans (h10 o), fun i hi => ?_⟩
    obtain ⟨r, k⟩ := h11 i hi
    have e := hb go h7
    exact ⟨⟨(World.cell?_of_block e).trans r.k, (World.cell?_of_block e).trans r.g, (World.cell?_of_block e).trans r.n, (World.cell?_of_block e).trans r.s, (World.cell?_of_block e).trans r.l⟩, k.keep hs ho⟩
theorem Opn.top {w : World} {g : Nat} {O : Nat → Prop} {A : Option Addr} {c : Nat} {p : VT} {r : List VT} (h : Opn w g O A c (p :: r).reverse) : ∃ go C, A = some ⟨go, 0, none⟩ ∧ O go ∧ go ≠ g ∧ r.length + 1 ≤ c ∧ (∀ o, w.frozen? ⟨go, o, none⟩ = false) ∧ Row w go (r.length * 5) p C ∧ Lsf (Oth O g A) w C p.l := by
  rcases h with h | ⟨go, C, h1, h2, h3, h4, h5, h6⟩
  · simp at h
  · have hl : (p :: r).reverse.length = r.length + 1 := by simp
    have hi : r.length < (p :: r).reverse.length := by omega
    have e : (p :: r).reverse[r.length] = p := by simp
    obtain ⟨h7, h8⟩ := h6 r.length hi
    rw [e] at h7 h8
    exact ⟨go, C r.length, h1, h2, h3, by omega, h5, h7, h8⟩
theorem Bm.below {w w' : World} {g : Nat} {O : Nat → Prop} {S : Bst} (h : Bm w g O S) (hB : Below w.heap.size w w') : Bm w' g O S := h.keep hB.size fun b hb => hB.block b (h.lo b hb)
end Go.Proofs.YtpcladdipgchbaaGreatDoor.nn
namespace Go.Proofs.YtpcladdipgchbaaGreatDoor.nn
open Go.RowKit

/-- a slice holds a list of trees, all in blocks from B on -/
inductive Lsb (B : Nat) (w : World) : Value → List VT → Prop where
  | nil_ {A : Option Addr} {c : Nat} : Lsb B w (.slice A 0 c) []
  | at_ {b off m c : Nat} {C : Nat → Value} {l : List VT} (hl : l.length = m) (hc : m ≤ c) (h0 : B ≤ b) (hb : b < w.heap.size) (hr : ∀ i (h : i < l.length), Row w b (off + i * 5) l[i] (C i)) (hk : ∀ i (h : i < l.length), Lsb B w (C i) l[i].l) : Lsb B w (.slice (some ⟨b, off, none⟩) m c) l
theorem Lsb.lst {B : Nat} {w : World} {v : Value} {l : List VT} (h : Lsb B w v l) : Lst w v l := by
  induction h with
  | nil_ => exact .nil_
  | at_ hl hc h0 hb hr hk ih => exact .at_ hl hc hb hr ih
theorem Lsb.low {B B' : Nat} {w : World} {v : Value} {l : List VT} (h : Lsb B w v l) (hB : B' ≤ B) : Lsb B' w v l := by
  induction h with
  | nil_ => exact .nil_
  | at_ hl hc h0 hb hr hk ih => exact .at_ hl hc (by omega) hb hr ih
theorem Lsb.keep {B : Nat} {w w' : World} {v : Value} {l : List VT} (h : Lsb B w v l) (hs : w.heap.size ≤ w'.heap.size) (hb : ∀ b, B ≤ b → b < w.heap.size → w'.heap[b]? = w.heap[b]?) : Lsb B w' v l := by
  induction h with
  | nil_ => exact .nil_
  | at_ hl hc h0 hlt hr hk ih =>
    refine .at_ hl hc h0 (by omega) (fun i h => ?_) ih
    have e := hb _ h0 hlt
    have h := hr i h
    exact ⟨(World.cell?_of_block e).trans h.k, (World.cell?_of_block e).trans h.g, (World.cell?_of_block e).trans h.n, (World.cell?_of_block e).trans h.s, (World.cell?_of_block e).trans h.l⟩
/-- the cells of values in a row -/
def rcs (C : Nat → Value) : Nat → List VT → List Value
  | _, [] => []
  | i, t :: r => .int .i64 t.k :: .bool t.g :: .int .u64 (t.n : Int) :: .string t.s :: C i :: rcs C (i + 1) r
theorem rcs_len (C : Nat → Value) (l : List VT) : ∀ i, (rcs C i l).length = l.length * 5 := by
  induction l with
  | nil => intro i; rfl
  | cons t r ih => intro i; simp only [rcs, List.length_cons, ih]; omega
theorem rcs_at (C : Nat → Value) (l : List VT) : ∀ i q (h : q < l.length), (rcs C i l)[q * 5]? = some (.int .i64 l[q].k) ∧ (rcs C i l)[q * 5 + 1]? = some (.bool l[q].g) ∧ (rcs C i l)[q * 5 + 2]? = some (.int .u64 (l[q].n : Int)) ∧ (rcs C i l)[q * 5 + 3]? = some (.string l[q].s) ∧ (rcs C i l)[q * 5 + 4]? = some (C (i + q)) := by
  induction l with
  | nil => intro i q h; simp at h
  | cons t r ih =>
    intro i q h
    cases q with
    | zero => simp [rcs]
    | succ q =>
      have h2 : q < r.length := by simpa using h
      have := ih (i + 1) q h2
      have e : ∀ j, (rcs C i (t :: r))[(q + 1) * 5 + j]? = (rcs C (i + 1) r)[q * 5 + j]? := fun j => by
        rw [show (q + 1) * 5 + j = q * 5 + j + 5 by omega]
        simp [rcs]
      have e0 := e 0
      simp only [Nat.add_zero] at e0
      rw [e0, e 1, e 2, e 3, e 4]
      simp only [List.getElem_cons_succ]
      rw [show i + (q + 1) = i + 1 + q by omega]
      exact this
theorem rcs_one (C : Nat → Value) (l : List VT) : ∀ i, (∀ j, j < l.length → ∃ A n c, C (i + j) = .slice A n c) → ∀ u ∈ rcs C i l, u.oneCell' = true := by
  induction l with
  | nil => intro i _ u hu; simp [rcs] at hu
  | cons t r ih =>
    intro i h u hu
    simp only [rcs, List.mem_cons] at hu
    rcases hu with rfl | rfl | rfl | rfl | rfl | hu
    · rfl
    · rfl
    · rfl
    · rfl
    · obtain ⟨A, n, c, e⟩ := h 0 (by simp)
      rw [Nat.add_zero] at e
      rw [e]
      rfl
    · exact ih (i + 1) (fun j hj => by have := h (j + 1) (by simp; omega); rw [show i + (j + 1) = i + 1 + j by omega] at this; exact this) u hu
theorem info_val3 : (Tryz.prog.info? 25).map (fun i => (i.zero, i.size, i.bytes)) = some (some (.agg #[.int .i64 0, .bool false, .int .u64 0, .string ⟨#[]⟩, .slice none 0 0]), 5, 64) := by kernel_rfl
/-- what slices.Clone of values answers -/
def CvAns (w0 : World) (l : List VT) (w : World) (e : Ending) (w' : World) : Prop := ∃ A' c', e = .returned (.slice A' l.length c') ∧ Below w.heap.size w w' ∧ (l = [] ∨ ∃ g, A' = some ⟨g, 0, none⟩ ∧ l.length ≤ c' ∧ w.heap.size ≤ g ∧ g < w'.heap.size ∧ (∀ o, w'.frozen? ⟨g, o, none⟩ = false) ∧ ∃ C : Nat → Value, ∀ j (h : j < l.length), Row w' g (j * 5) l[j] (C j) ∧ Lst w0 (C j) l[j].l)
set_option maxRecDepth 100000 in
set_option maxHeartbeats 1000000 in
theorem clonev_any (w0 : World) (A : Option Addr) (c : Nat) (l : List VT) (w : World) (h0 : Below w0.heap.size w0 w) (hC : Lst w0 (.slice A l.length c) l) (hl : l.length ≤ 1099511627776) :
    Calls Tryz.prog 152 #[.slice A l.length c] w (CvAns w0 l w) := by
  obtain ⟨i0, hi, hz0, hz1, hz2⟩ : ∃ i0, Tryz.prog.info? 25 = some i0 ∧ i0.zero = some (.agg #[.int .i64 0, .bool false, .int .u64 0, .string ⟨#[]⟩, .slice none 0 0]) ∧ i0.size = 5 ∧ i0.bytes = 64 := info_parts info_val3
  have hn0 := fun (wx : World) => Lib.run_eql_slice_nil (P := Tryz.prog) wx 23 25 A l.length c 0 0 Tryz.underlying23
  have hf : ∀ (w' : World) {g n cap : Nat} {xs : List Value}, w'.ownsRow w.heap.size 25 5 (.slice (some ⟨g, 0, none⟩) n cap) n xs → ∀ o, w'.frozen? ⟨g, o, none⟩ = false := fun w' g n cap xs h o => by
    rcases h.2 with ⟨h5, _⟩ | ⟨g', cap', cur, e, _, hg, _⟩
    · cases h5
    · injection e with e1 e2 e3
      injection e1 with e1
      injection e1 with e1
      subst e1
      simp [World.frozen?, hg]
  rcases A with _ | ad
  · obtain ⟨A2, c2, e, hlc, hA⟩ := hC.out
    have hl0 : l = [] := by
      rcases hA with ⟨_, h, _⟩ | ⟨b, off, D, h, _⟩
      · exact h
      · injection e with e1
        rw [← e1] at h
        cases h
    subst hl0
    simp only [List.length_nil] at hn0
    simp only [List.length_nil]
    go_enter Tryz.func152, Tryz.ntmps152
    go_wp2
    go_ret
    exact ⟨none, 0, rfl, Below.refl _ _, .inl rfl⟩
  · obtain ⟨C, hnews, hkid⟩ : ∃ C : Nat → Value, (∀ o j u, (rcs C 0 l)[j]? = some u → (w.alloc o).cell? (ad.add j) = some u) ∧ ∀ j (h : j < l.length), Lst w0 (C j) l[j].l := by
      obtain ⟨A2, c2, e, hlc, hA⟩ := hC.out
      rcases hA with ⟨_, h, _⟩ | ⟨b, off, D, h, hb, hrow, hkid⟩
      · subst h
        exact ⟨fun _ => .slice none 0 0, fun o j u hu => by simp [rcs] at hu, fun j h => by simp at h⟩
      · injection e with e1
        rw [← e1] at h
        injection h with h
        subst h
        refine ⟨D, fun o j u hu => ?_, hkid⟩
        have hj : j < l.length * 5 := by
          have := (List.getElem?_eq_some_iff.1 hu).1
          rw [rcs_len] at this
          exact this
        obtain ⟨q, r, hr5, rfl⟩ : ∃ q r, r < 5 ∧ j = q * 5 + r := ⟨j / 5, j % 5, by omega, by omega⟩
        have hq : q < l.length := by omega
        obtain ⟨r0, r1, r2, r3, r4⟩ := rcs_at D l 0 q hq
        have hR := (hrow q hq).below (h0.alloc h0.size o) hb
        have ha : (⟨b, off, none⟩ : Addr).add (q * 5 + r) = ⟨b, off + q * 5 + r, none⟩ := by unfold Addr.add; split <;> simp_all <;> omega
        rw [ha]
        have hcase : r = 0 ∨ r = 1 ∨ r = 2 ∨ r = 3 ∨ r = 4 := by omega
        rcases hcase with rfl | rfl | rfl | rfl | rfl
        · rw [Nat.add_zero, r0] at hu; injection hu with hu; subst hu; exact hR.k
        · rw [r1] at hu; injection hu with hu; subst hu; exact hR.g
        · rw [r2] at hu; injection hu with hu; subst hu; exact hR.n
        · rw [r3] at hu; injection hu with hu; subst hu; exact hR.s
        · rw [r4, Nat.zero_add] at hu; injection hu with hu; subst hu; exact hR.l
    have HN := Lib.hid hnews
    have HK := Lib.hid hkid
    have H1 : Hid (∀ u ∈ rcs C 0 l, u.oneCell' = true) := Lib.hid (rcs_one C l 0 fun j h => by
      obtain ⟨A3, c3, h3, _⟩ := (hkid j h).out
      rw [Nat.zero_add]
      exact ⟨_, _, _, h3⟩)
    clear hnews hkid hC h0
    go_enter Tryz.func152, Tryz.ntmps152
    go_wp2_with (at_builtin; refine wpList_append_own_at _ rfl (.tmp 5) (.tmp 6) 23 rfl w.heap.size 25 i0 (.agg #[.int .i64 0, .bool false, .int .u64 0, .string ⟨#[]⟩, .slice none 0 0]) 5 64 Tryz.underlying23 hi hz0 hz1 hz2 rfl (by decide) (.slice (some ⟨w.heap.size, 0, none⟩) 0 0) 0 [] rfl (World.ownsRow_lit w #[] 0 (Nat.le_refl _) (by simp [maxLen]) rfl) ad l.length c (rcs C 0 l) rfl (rcs_len _ _ _) (HN.out _) H1.out (by unfold maxLen; omega) (by omega) (by simp) ?_; intro v1 w1 ho1 hg1 hn1 _)
    go_ret
    rw [Nat.zero_add, List.nil_append] at ho1
    have hB : Below w.heap.size w w1 := ((Below.refl _ _).alloc (Nat.le_refl _) _).grown hg1 (by simp) (fun k hk => by simp [Value.ownBlock] at hk; omega)
    have hv1 : v1 ≠ .slice none 0 0 := fun h => by have := (hn1.1 h).1; cases this
    have hown := ho1
    rcases ho1.2 with ⟨h5, _⟩ | ⟨g, cap, cur, rfl, hb, hg, hc, _, hs, ht⟩
    · exact absurd h5 hv1
    · refine ⟨some ⟨g, 0, none⟩, cap, rfl, hB, .inr ⟨g, rfl, hc, hb, (Array.getElem?_eq_some_iff.1 hg).1, hf _ hown, C, fun j hj => ⟨?_, HK.out j hj⟩⟩⟩
      obtain ⟨r0, r1, r2, r3, r4⟩ := rcs_at C l 0 j hj
      have cells := hown.cells (g := g) rfl
      have ha : ∀ j, (⟨g, 0, none⟩ : Addr).add j = ⟨g, j, none⟩ := fun j => by unfold Addr.add; split <;> simp_all
      refine ⟨?_, ?_, ?_, ?_, ?_⟩
      · rw [← ha]; exact cells _ _ r0
      · rw [← ha]; exact cells _ _ r1
      · rw [← ha]; exact cells _ _ r2
      · rw [← ha]; exact cells _ _ r3
      · rw [← ha]; rw [Nat.zero_add] at r4; exact cells _ _ r4
end Go.Proofs.YtpcladdipgchbaaGreatDoor.nn
namespace Go.Proofs.YtpcladdipgchbaaGreatDoor.nn
open Go.RowKit

/-- a slice's place reads as trees -/
def Srv (F : Nat → Prop) (w : World) (A : Option Addr) (l : List VT) : Prop := l = [] ∨ ∃ (b off : Nat) (D : Nat → Value), A = some ⟨b, off, none⟩ ∧ ∀ i (h : i < l.length), Row w b (off + i * 5) l[i] (D i) ∧ Lsf F w (D i) l[i].l
theorem Lsf.src {F : Nat → Prop} {w : World} {v : Value} {l : List VT} (h : Lsf F w v l) : ∃ A c, v = .slice A l.length c ∧ Srv F w A l := by
  cases h with
  | nil_ => exact ⟨_, _, rfl, .inl rfl⟩
  | at_ hl hc h0 hb hr hk =>
    subst hl
    exact ⟨_, _, rfl, .inr ⟨_, _, _, rfl, fun i h => ⟨hr i h, hk i h⟩⟩⟩
/-- a row of one's own, from block B on, that holds trees; these lie in blocks of F -/
def Vo (F : Nat → Prop) (B : Nat) (w : World) (v : Value) (l : List VT) : Prop := ∃ C : Nat → Value, w.ownsRow B 25 5 v l.length (rcs C 0 l) ∧ ∀ j (h : j < l.length), Lsf F w (C j) l[j].l
theorem rcs_congr (C D : Nat → Value) (l : List VT) : ∀ i, (∀ j, j < l.length → C (i + j) = D (i + j)) → rcs C i l = rcs D i l := by
  induction l with
  | nil => intro i _; rfl
  | cons t r ih =>
    intro i h
    have h0 := h 0 (by simp)
    rw [Nat.add_zero] at h0
    simp only [rcs, h0]
    rw [ih (i + 1) fun j hj => by have := h (j + 1) (by simp; omega); rw [show i + (j + 1) = i + 1 + j by omega] at this; exact this]
theorem rcs_shift (C : Nat → Value) (l : List VT) : ∀ i k, rcs (fun j => C (j - k)) (i + k) l = rcs C i l := by
  induction l with
  | nil => intro i k; rfl
  | cons t r ih =>
    intro i k
    have := ih (i + 1) k
    rw [show i + 1 + k = i + k + 1 by omega] at this
    simp only [rcs, Nat.add_sub_cancel, this]
theorem rcs_app (C : Nat → Value) (a b : List VT) : ∀ i, rcs C i (a ++ b) = rcs C i a ++ rcs C (i + a.length) b := by
  induction a with
  | nil => intro i; simp [rcs]
  | cons t r ih =>
    intro i
    simp only [List.cons_append, rcs, ih, List.length_cons]
    rw [show i + 1 + r.length = i + (r.length + 1) by omega]
theorem rcs_both (C D : Nat → Value) (a b : List VT) : rcs (fun j => if j < a.length then C j else D (j - a.length)) 0 (a ++ b) = rcs C 0 a ++ rcs D 0 b := by
  rw [rcs_app]
  congr 1
  · exact rcs_congr _ _ a 0 fun j hj => by simp [hj]
  · rw [← rcs_shift D b 0 a.length]
    exact rcs_congr _ _ b _ fun j hj => by
      show (if 0 + a.length + j < a.length then C (0 + a.length + j) else D (0 + a.length + j - a.length)) = _
      rw [if_neg (by omega)]
theorem Vo.src {F : Nat → Prop} {w : World} {A : Option Addr} {l : List VT} (h : Srv F w A l) : ∃ C : Nat → Value, (∀ j (h : j < l.length), Lsf F w (C j) l[j].l) ∧ (l = [] ∨ ∃ ad, A = some ad ∧ ∀ j u, (rcs C 0 l)[j]? = some u → w.cell? (ad.add j) = some u) := by
  rcases h with rfl | ⟨b, off, D, rfl, h⟩
  · exact ⟨fun _ => .slice none 0 0, fun j h => by simp at h, .inl rfl⟩
  · refine ⟨D, fun j hj => (h j hj).2, .inr ⟨_, rfl, fun j u hu => ?_⟩⟩
    have hj : j < l.length * 5 := by
      have := (List.getElem?_eq_some_iff.1 hu).1
      rw [rcs_len] at this
      exact this
    obtain ⟨q, r, hr5, rfl⟩ : ∃ q r, r < 5 ∧ j = q * 5 + r := ⟨j / 5, j % 5, by omega, by omega⟩
    have hq : q < l.length := by omega
    obtain ⟨r0, r1, r2, r3, r4⟩ := rcs_at D l 0 q hq
    have hR := (h q hq).1
    have ha : (⟨b, off, none⟩ : Addr).add (q * 5 + r) = ⟨b, off + q * 5 + r, none⟩ := by unfold Addr.add; split <;> simp_all <;> omega
    rw [ha]
    have hcase : r = 0 ∨ r = 1 ∨ r = 2 ∨ r = 3 ∨ r = 4 := by omega
    rcases hcase with rfl | rfl | rfl | rfl | rfl
    · rw [Nat.add_zero, r0] at hu; injection hu with hu; subst hu; exact hR.k
    · rw [r1] at hu; injection hu with hu; subst hu; exact hR.g
    · rw [r2] at hu; injection hu with hu; subst hu; exact hR.n
    · rw [r3] at hu; injection hu with hu; subst hu; exact hR.s
    · rw [r4, Nat.zero_add] at hu; injection hu with hu; subst hu; exact hR.l
end Go.Proofs.YtpcladdipgchbaaGreatDoor.nn
namespace Go.Proofs.YtpcladdipgchbaaGreatDoor.nn
open Go.RowKit

/-- five cells stored -/
def set5 (W : World) (g o : Nat) (a b c d e : Value) : World := ((((W.setCell ⟨g, o, none⟩ a).setCell ⟨g, o + 1, none⟩ b).setCell ⟨g, o + 2, none⟩ c).setCell ⟨g, o + 3, none⟩ d).setCell ⟨g, o + 4, none⟩ e
theorem set5_size (W : World) (g o : Nat) (a b c d e : Value) : (set5 W g o a b c d e).heap.size = W.heap.size := by simp [set5, World.setCell]
theorem set5_other (W : World) (g o : Nat) (a b c d e : Value) (k : Nat) (h : k ≠ g) : (set5 W g o a b c d e).heap[k]? = W.heap[k]? := by
  unfold set5
  rw [Below.heap_setCell _ _ _ _ h, Below.heap_setCell _ _ _ _ h, Below.heap_setCell _ _ _ _ h, Below.heap_setCell _ _ _ _ h, Below.heap_setCell _ _ _ _ h]
theorem set5_far (W : World) (g o : Nat) (a b c d e : Value) (k : Nat) (h : k < o ∨ o + 5 ≤ k) : (set5 W g o a b c d e).cell? ⟨g, k, none⟩ = W.cell? ⟨g, k, none⟩ := by
  have ne : ∀ j, j < 5 → (⟨g, o + j, none⟩ : Addr) ≠ ⟨g, k, none⟩ := fun j hj h2 => by injection h2 with _ h2; omega
  unfold set5
  rw [World.cell?_setCell_other _ _ _ _ (ne 4 (by omega)), World.cell?_setCell_other _ _ _ _ (ne 3 (by omega)), World.cell?_setCell_other _ _ _ _ (ne 2 (by omega)), World.cell?_setCell_other _ _ _ _ (ne 1 (by omega)), World.cell?_setCell_other _ _ _ _ (by intro h2; injection h2 with _ h2; omega)]
theorem set5_row {W : World} {g o : Nat} {t : VT} {C : Value} (h : Row W g o t C) (u : VT) (D : Value) : Row (set5 W g o (.int .i64 u.k) (.bool u.g) (.int .u64 (u.n : Int)) (.string u.s) D) g o u D := by
  have ne : ∀ i j, i ≠ j → (⟨g, o + i, none⟩ : Addr) ≠ ⟨g, o + j, none⟩ := fun i j hij h2 => by injection h2 with _ h2; omega
  have n0 : ∀ i, i ≠ 0 → (⟨g, o + i, none⟩ : Addr) ≠ ⟨g, o, none⟩ := fun i hi h2 => by injection h2 with _ h2; omega
  have z0 : ∀ i, i ≠ 0 → (⟨g, o, none⟩ : Addr) ≠ ⟨g, o + i, none⟩ := fun i hi h2 => n0 i hi h2.symm
  unfold set5
  refine ⟨?_, ?_, ?_, ?_, ?_⟩
  · rw [World.cell?_setCell_other _ _ _ _ (n0 4 (by omega)), World.cell?_setCell_other _ _ _ _ (n0 3 (by omega)), World.cell?_setCell_other _ _ _ _ (n0 2 (by omega)), World.cell?_setCell_other _ _ _ _ (n0 1 (by omega))]
    exact World.cell?_setCell_same _ _ _ h.k
  · rw [World.cell?_setCell_other _ _ _ _ (ne 4 1 (by omega)), World.cell?_setCell_other _ _ _ _ (ne 3 1 (by omega)), World.cell?_setCell_other _ _ _ _ (ne 2 1 (by omega))]
    exact World.cell?_setCell_same _ _ _ ((World.cell?_setCell_other _ _ _ _ (z0 1 (by omega))).trans h.g)
  · rw [World.cell?_setCell_other _ _ _ _ (ne 4 2 (by omega)), World.cell?_setCell_other _ _ _ _ (ne 3 2 (by omega))]
    exact World.cell?_setCell_same _ _ _ ((World.cell?_setCell_other _ _ _ _ (ne 1 2 (by omega))).trans ((World.cell?_setCell_other _ _ _ _ (z0 2 (by omega))).trans h.n))
  · rw [World.cell?_setCell_other _ _ _ _ (ne 4 3 (by omega))]
    exact World.cell?_setCell_same _ _ _ ((World.cell?_setCell_other _ _ _ _ (ne 2 3 (by omega))).trans ((World.cell?_setCell_other _ _ _ _ (ne 1 3 (by omega))).trans ((World.cell?_setCell_other _ _ _ _ (z0 3 (by omega))).trans h.s)))
  · exact World.cell?_setCell_same _ _ _ ((World.cell?_setCell_other _ _ _ _ (ne 3 4 (by omega))).trans ((World.cell?_setCell_other _ _ _ _ (ne 2 4 (by omega))).trans ((World.cell?_setCell_other _ _ _ _ (ne 1 4 (by omega))).trans ((World.cell?_setCell_other _ _ _ _ (z0 4 (by omega))).trans h.l))))
/-- what clone answers -/
def DcAns (t : VT) (W : World) (e : Ending) (W' : World) : Prop := ∃ A c, e = .returned (vv t (.slice A t.l.length c)) ∧ Lsb W.heap.size W' (.slice A t.l.length c) t.l ∧ Below W.heap.size W W'
/-- the row that is filled -/
structure Dr (w : World) (l : List VT) (g B3 : Nat) (C : Nat → Value) (i : Nat) (wr : World) : Prop where
  rows : ∀ j (h : j < l.length), ∃ Cj, Row wr g (j * 5) l[j] Cj ∧ (j < i → Lsb B3 wr Cj l[j].l) ∧ (i ≤ j → Cj = C j)
  kid : ∀ j (h : j < l.length), Lst w (C j) l[j].l
  fz : ∀ o, wr.frozen? ⟨g, o, none⟩ = false
  lo : w.heap.size + 2 ≤ g
  hi : g < B3
structure Dc (w : World) (t : VT) (u : Value) (g B3 : Nat) (C : Nat → Value) (i : Nat) (wr : World) : Prop where
  box : Row wr w.heap.size 0 t u
  res : Bk wr (w.heap.size + 1) 25 (vc zt (.slice none 0 0))
  d : 0 < t.l.length → Dr w t.l g B3 C i wr
  b : Below w.heap.size w wr
  z : B3 ≤ wr.heap.size
  z2 : w.heap.size + 2 ≤ B3
theorem Dc.on {w : World} {t : VT} {u : Value} {g B3 : Nat} {C : Nat → Value} {i : Nat} {wr W' : World} (h : Dc w t u g B3 C i wr) (hB : Below wr.heap.size wr W') : Dc w t u g B3 C i W' := by
  have hz := h.z
  have hz2 := h.z2
  refine ⟨h.box.below hB (by omega), h.res.below hB (by omega), fun h0 => ?_, h.b.trans (hB.mono h.b.size), Nat.le_trans h.z hB.size, h.z2⟩
  obtain ⟨h1, h2, h3, h4, h5⟩ := h.d h0
  refine ⟨fun j hj => ?_, h2, fun o => ?_, h4, h5⟩
  · obtain ⟨Cj, g1, g2, g3⟩ := h1 j hj
    exact ⟨Cj, g1.below hB (by omega), fun hji => (g2 hji).keep hB.size fun b _ hb => hB.block b hb, g3⟩
  · rw [← h3 o]
    exact World.frozen?_of_block (hB.block g (by omega))
theorem Dc.set {w : World} {t : VT} {u : Value} {g B3 : Nat} {C : Nat → Value} {i : Nat} {wr : World} (h : Dc w t u g B3 C i wr) (hi : i < t.l.length) (C1 : Value) (h1 : Lsb B3 wr C1 t.l[i].l) :
    Dc w t u g B3 C (i + 1) (set5 wr g (i * 5) (.int .i64 t.l[i].k) (.bool t.l[i].g) (.int .u64 (t.l[i].n : Int)) (.string t.l[i].s) C1) := by
  obtain ⟨d1, d2, d3, d4, d5⟩ := h.d (by omega)
  have hz2 := h.z2
  have so := set5_other wr g (i * 5) (.int .i64 t.l[i].k) (.bool t.l[i].g) (.int .u64 (t.l[i].n : Int)) (.string t.l[i].s) C1
  have ss := set5_size wr g (i * 5) (.int .i64 t.l[i].k) (.bool t.l[i].g) (.int .u64 (t.l[i].n : Int)) (.string t.l[i].s) C1
  have sf := set5_far wr g (i * 5) (.int .i64 t.l[i].k) (.bool t.l[i].g) (.int .u64 (t.l[i].n : Int)) (.string t.l[i].s) C1
  have sr : ∀ {Cx}, Row wr g (i * 5) t.l[i] Cx → Row (set5 wr g (i * 5) (.int .i64 t.l[i].k) (.bool t.l[i].g) (.int .u64 (t.l[i].n : Int)) (.string t.l[i].s) C1) g (i * 5) t.l[i] C1 := fun hr => set5_row hr _ _
  have sz : ∀ o, (set5 wr g (i * 5) (.int .i64 t.l[i].k) (.bool t.l[i].g) (.int .u64 (t.l[i].n : Int)) (.string t.l[i].s) C1).frozen? ⟨g, o, none⟩ = wr.frozen? ⟨g, o, none⟩ := fun o => by simp [set5]
  have sB : Below g wr (set5 wr g (i * 5) (.int .i64 t.l[i].k) (.bool t.l[i].g) (.int .u64 (t.l[i].n : Int)) (.string t.l[i].s) C1) := by
    unfold set5
    exact (((((Below.refl g wr).setCell (Nat.le_refl _) _).setCell (Nat.le_refl _) _).setCell (Nat.le_refl _) _).setCell (Nat.le_refl _) _).setCell (Nat.le_refl _) _
  generalize set5 wr g (i * 5) (.int .i64 t.l[i].k) (.bool t.l[i].g) (.int .u64 (t.l[i].n : Int)) (.string t.l[i].s) C1 = W' at so ss sf sr sz sB ⊢
  have key : ∀ {v : Value} {l : List VT}, Lsb B3 wr v l → Lsb B3 W' v l := fun hl => hl.keep (by omega) fun b hb _ => so b (by omega)
  refine ⟨h.box.below sB (by omega), h.res.below sB (by omega), fun _ => ⟨fun j hj => ?_, d2, fun o => (sz o).trans (d3 o), d4, d5⟩, h.b.trans (sB.mono (by omega)), by have := h.z; omega, h.z2⟩
  obtain ⟨Cj, g1, g2, g3⟩ := d1 j hj
  by_cases hji : j = i
  · subst hji
    exact ⟨C1, sr g1, fun _ => key h1, fun h => by omega⟩
  · have e : ∀ q, q < 5 → W'.cell? ⟨g, j * 5 + q, none⟩ = wr.cell? ⟨g, j * 5 + q, none⟩ := fun q hq => sf _ (by omega)
    have e0 := e 0 (by omega)
    simp only [Nat.add_zero] at e0
    exact ⟨Cj, ⟨e0.trans g1.k, (e 1 (by omega)).trans g1.g, (e 2 (by omega)).trans g1.n, (e 3 (by omega)).trans g1.s, (e 4 (by omega)).trans g1.l⟩, fun h => key (g2 (by omega)), fun h => g3 (by omega)⟩
theorem Dc.end_ {w : World} {t : VT} {g B3 : Nat} {C : Nat → Value} {A : Option Addr} {c : Nat} {wr : World} (h : Dc w t (.slice A t.l.length c) g B3 C t.l.length wr) (hA : 0 < t.l.length → A = some ⟨g, 0, none⟩ ∧ t.l.length ≤ c) : Lsb (w.heap.size + 2) wr (.slice A t.l.length c) t.l := by
  have hz2 := h.z2
  by_cases h0 : 0 < t.l.length
  · obtain ⟨d1, d2, d3, d4, d5⟩ := h.d h0
    obtain ⟨rfl, hc⟩ := hA h0
    have hz := h.z
    have hex : ∀ i, ∃ Ci, ∀ (h : i < t.l.length), Row wr g (i * 5) t.l[i] Ci ∧ Lsb B3 wr Ci t.l[i].l := fun i => by
      by_cases hi : i < t.l.length
      · obtain ⟨Cj, g1, g2, _⟩ := d1 i hi
        exact ⟨Cj, fun _ => ⟨g1, g2 hi⟩⟩
      · exact ⟨.slice none 0 0, fun h => absurd h hi⟩
    refine .at_ (C := fun i => (hex i).choose) rfl hc (by omega) (by omega) (fun i hi => ?_) (fun i hi => ?_)
    · rw [Nat.zero_add]
      exact ((hex i).choose_spec hi).1
    · exact ((hex i).choose_spec hi).2.low (by omega)
  · have : t.l = [] := List.eq_nil_of_length_eq_zero (by omega)
    rw [this]
    exact .nil_
set_option maxRecDepth 100000 in
set_option maxHeartbeats 4000000 in
theorem vclone_any (N : Nat) (hM : N ≤ 1099511627776) : ∀ (t : VT) (C : Value) (w : World), cnt t ≤ N → Lst w C t.l → Calls Tryz.prog 115 #[vv t C] w (DcAns t w) := by
  induction N with
  | zero => intro t C w h _; have := cnt_mk t; omega
  | succ N ih =>
    intro t C w hN hC
    have hcm := cnt_mk t
    have hll := len_cntL t.l
    obtain ⟨A, c, rfl, hlc, _⟩ := hC.out
    have HV := Lib.hid (fun W (h : Below w.heap.size w W) => clonev_any w A c t.l W h hC (by omega))
    have HI := Lib.hid (fun i (h : i < t.l.length) C' W (hl : Lst W C' t.l[i].l) => ih (by omega) t.l[i] C' W (by have := cnt_at h; omega) hl)
    obtain ⟨W2, hW2⟩ : ∃ W2, (w.alloc (.cells (vc t (.slice A t.l.length c)) 25)).alloc (.cells (vc zt (.slice none 0 0)) 25) = W2 := ⟨_, rfl⟩
    have HX := Bx.new w t (.slice A t.l.length c) zt (.slice none 0 0)
    rw [hW2] at HX
    have hz2 : W2.heap.size = w.heap.size + 2 := by rw [← hW2]; simp
    obtain ⟨m, hm⟩ : ∃ m, t.l.length = m := ⟨_, rfl⟩
    have hmb : m ≤ 1099511627776 := by omega
    have HM := Lib.hid hm
    have HW : Hid ((w.alloc (.cells #[.int .i64 t.k, .bool t.g, .int .u64 (t.n : Int), .string t.s, .slice A t.l.length c] 25)).alloc (.cells #[.int .i64 0, .bool false, .int .u64 0, .string ⟨#[]⟩, .slice none 0 0] 25) = W2) := Lib.hid hW2
    have HX2 := Lib.hid (And.intro HX hz2)
    rw [hm] at HV HW HX2 ⊢
    clear hcm hll hC hlc ih hm HX hz2 hW2
    unfold vv
    go_enter Tryz.func115, Tryz.ntmps115
    go_wp2_with fail
    rw [HW.out]
    refine (HV.out _ HX2.out.1.b).mono ?_
    rintro e w3 ⟨A', c', rfl, hb3, hd⟩
    rw [HM.out]
    have hz3 := hb3.size
    have X3 : Row w3 w.heap.size 0 t (.slice A m c) := by
      have h := HX2.out.1.r
      have e := hb3.block w.heap.size (by have := HX2.out.2; omega)
      have h2 : Bk w3 w.heap.size 25 (vc t (.slice A m c)) := e.trans h
      exact ⟨h2.cell 0, h2.cell 1, h2.cell 2, h2.cell 3, h2.cell 4⟩
    have F3 : w3.frozen? ⟨w.heap.size, 4, none⟩ = false := Bk.frozen (e := 25) (cur := vc t (.slice A m c)) ((hb3.block w.heap.size (by have := HX2.out.2; omega)).trans HX2.out.1.r) 4
    have q4 := X3.l
    obtain ⟨g, C', hDc, hA'⟩ : ∃ (g : Nat) (C' : Nat → Value), Dc w t (.slice A' m c') g w3.heap.size C' 0 (w3.setCell ⟨w.heap.size, 4, none⟩ (.slice A' m c')) ∧ (0 < t.l.length → A' = some ⟨g, 0, none⟩ ∧ t.l.length ≤ c') := by
      have hlt : ∀ k, k < w3.heap.size → k ≠ w.heap.size → (w3.setCell ⟨w.heap.size, 4, none⟩ (.slice A' m c')).heap[k]? = w3.heap[k]? := fun k _ hk => Below.heap_setCell _ _ _ _ hk
      have hBx : Bk (w3.setCell ⟨w.heap.size, 4, none⟩ (.slice A' m c')) w.heap.size 25 #[.int .i64 t.k, .bool t.g, .int .u64 (t.n : Int), .string t.s, .slice A' m c'] := by
        have h2 : Bk w3 w.heap.size 25 (vc t (.slice A m c)) := (hb3.block w.heap.size (by have := HX2.out.2; omega)).trans HX2.out.1.r
        exact h2.set_ 4 _
      have hres : Bk (w3.setCell ⟨w.heap.size, 4, none⟩ (.slice A' m c')) (w.heap.size + 1) 25 (vc zt (.slice none 0 0)) :=
        (Below.heap_setCell _ _ _ _ (by show w.heap.size + 1 ≠ w.heap.size; omega)).trans ((hb3.block _ (by have := HX2.out.2; omega)).trans HX2.out.1.r2)
      have hbl : Below w.heap.size w (w3.setCell ⟨w.heap.size, 4, none⟩ (.slice A' m c')) := (HX2.out.1.b.trans (hb3.mono (by have := HX2.out.2; omega))).setCell (p := ⟨w.heap.size, 4, none⟩) (Nat.le_refl _) _
      have hrow : Row (w3.setCell ⟨w.heap.size, 4, none⟩ (.slice A' m c')) w.heap.size 0 t (.slice A' m c') := ⟨hBx.cell 0, hBx.cell 1, hBx.cell 2, hBx.cell 3, hBx.cell 4⟩
      have hsz : w3.heap.size ≤ (w3.setCell ⟨w.heap.size, 4, none⟩ (.slice A' m c')).heap.size := by simp [World.setCell]
      have hz22 := HX2.out.2
      rcases hd with h0 | ⟨g, rfl, hc, hg, hgl, hfz, D, hrows⟩
      · exact ⟨0, fun _ => .slice none 0 0, ⟨hrow, hres, fun h => by rw [h0] at h; exact absurd h (by simp), hbl, hsz, by omega⟩, fun h => by rw [h0] at h; exact absurd h (by simp)⟩
      · have eg := hlt g hgl (by omega)
        refine ⟨g, D, ⟨hrow, hres, fun _ => ⟨fun j hj => ⟨D j, ?_, fun h => by omega, fun _ => rfl⟩, fun j hj => ?_, fun o => (World.frozen?_of_block eg).trans (hfz o), by omega, hgl⟩, hbl, hsz, by omega⟩, fun _ => ⟨rfl, hc⟩⟩
        · have h := (hrows j hj).1
          exact ⟨(World.cell?_of_block eg).trans h.k, (World.cell?_of_block eg).trans h.g, (World.cell?_of_block eg).trans h.n, (World.cell?_of_block eg).trans h.s, (World.cell?_of_block eg).trans h.l⟩
        · exact (hrows j hj).2
    have HD := Lib.hid hDc
    have HA' := Lib.hid hA'
    clear hb3 hd hz3 X3 HV HX2 HW hDc hA'
    have F4 := Lib.hid F3
    go_wp2_with fail
    go_loopw [12] (fun s12 wr => ∃ i : Nat, i ≤ m ∧ s12 = .int .i64 (i : Int) ∧ Hid (Dc w t (.slice A' m c') g w3.heap.size C' i wr)) (fun s12 _ => m - (intOf s12).toNat)
    case atStart => exact ⟨0, Nat.zero_le _, rfl, HD⟩
    case round =>
      obtain ⟨i, hi, rfl, hk⟩ := hrel
      by_cases hlt : i < m
      · have hi1 : i < t.l.length := by rw [HM.out]; exact hlt
        obtain ⟨rfl, hmc⟩ := HA'.out (by omega)
        have hd := hk.out.d (by omega)
        obtain ⟨Cj, hrow, _, hcj⟩ := hd.rows i hi1
        rw [hcj (Nat.le_refl _)] at hrow
        have hkl := hd.kid i hi1
        obtain ⟨A1, c1, hC1, _⟩ := hkl.out
        obtain ⟨n1, hn1⟩ : ∃ n', t.l[i].l.length = n' := ⟨_, rfl⟩
        rw [hn1] at hC1
        rw [hC1] at hrow hkl
        have HSET := Lib.hid (fun W C1 (h : Dc w t (.slice (some ⟨g, 0, none⟩) m c') g w3.heap.size C' i W) h2 => h.set hi1 C1 h2)
        have HII : Hid (∀ W, Dc w t (.slice (some ⟨g, 0, none⟩) m c') g w3.heap.size C' i W → Calls Tryz.prog 115 #[vv t.l[i] (.slice A1 n1 c1)] W fun e W' => ∃ A2 c2, e = .returned (vv t.l[i] (.slice A2 n1 c2)) ∧ Lsb W.heap.size W' (.slice A2 n1 c2) t.l[i].l ∧ Below W.heap.size W W') := Lib.hid fun W h => by
          have := HI.out i hi1 (.slice A1 n1 c1) W (hkl.keep h.b (Nat.le_refl _))
          refine this.mono ?_
          rintro e W' ⟨A2, c2, h1, h2, h3⟩
          rw [hn1] at h1 h2
          exact ⟨A2, c2, h1, h2, h3⟩
        obtain ⟨x, hx⟩ : ∃ x, t.l[i] = x := ⟨_, rfl⟩
        simp only [hx] at hrow HII HSET
        have HXX := Lib.hid hx
        have hfz := hd.fz
        have r0 := hrow.k
        have r1 := hrow.g
        have r2 := hrow.n
        have r3 := hrow.s
        have r4 := hrow.l
        unfold vv at HII
        clear hd hrow hkl hcj hC1 hn1 hx hfz
        go_wp2_with fail
        go_upto_region 5 with fail
        obtain ⟨W5, hW5⟩ : ∃ W5, wr.alloc (.cells #[.int .i64 x.k, .bool x.g, .int .u64 (x.n : Int), .string x.s, .slice A1 n1 c1] 25) = W5 := ⟨_, rfl⟩
        rw [hW5]
        have hk5 : Dc w t (.slice (some ⟨g, 0, none⟩) m c') g w3.heap.size C' i W5.drew := by
          rw [← hW5]
          exact hk.out.on (((Below.refl _ _).alloc (Nat.le_refl _) _).drew)
        have hx5 : Row W5 wr.heap.size 0 x (.slice A1 n1 c1) := by rw [← hW5]; exact (Box.new wr x (.slice A1 n1 c1) 25).r
        have d0 := hx5.k
        have d1 := hx5.g
        have d2 := hx5.n
        have d3 := hx5.s
        have d4 := hx5.l
        have d5 : W5.cell? ⟨w.heap.size, 4, none⟩ = some (.slice (some ⟨g, 0, none⟩) m c') := hk5.box.l
        have HK5 := Lib.hid hk5
        have HF : Hid (∀ W, Dc w t (.slice (some ⟨g, 0, none⟩) m c') g w3.heap.size C' i W → W.cell? ⟨w.heap.size, 4, none⟩ = some (.slice (some ⟨g, 0, none⟩) m c') ∧ (∃ C, Row W g (i * 5) x C) ∧ ∀ o, W.frozen? ⟨g, o, none⟩ = false) := Lib.hid fun W h => by
          obtain ⟨Cx, g1, _⟩ := (h.d (by omega)).rows i hi1
          rw [HXX.out] at g1
          exact ⟨h.box.l, ⟨Cx, g1⟩, (h.d (by omega)).fz⟩
        clear hW5 hk5 hx5 r0 r1 r2 r3 r4
        go_region_with (go_at_call 115; (with_reducible refine (HII.out _ ?_).mono ?_); (exact HK5.out); rintro e w6 ⟨A2, c2, rfl, hl6, hb6⟩; obtain ⟨e4, ⟨Cx, hr6⟩, hz6⟩ := HF.out _ (HK5.out.on hb6); have e5 := hr6.k; have e6 := hr6.g; have e7 := hr6.n; have e8 := hr6.s; have e9 := hr6.l; have H6 := Lib.hid (And.intro hl6 hb6); clear hl6 hb6 hr6)
        all_goals
          go_wp2_with fail
          clear d0 d1 d2 d3 d4 d5 e4 e5 e6 e7 e8 e9 hz6
          go_roundw
          case rel => exact ⟨i + 1, hlt, by go_num, Lib.hid (HSET.out w6 _ (HK5.out.on H6.out.2) (H6.out.1.low HK5.out.z))⟩
          case measure => simp [intOf]; omega
      · obtain rfl : m = i := by omega
        have hrow := hk.out.box
        have q0 := hrow.k
        have q1 := hrow.g
        have q2 := hrow.n
        have q3 := hrow.s
        have q4' := hrow.l
        have b0 := hk.out.res
        have bc0 : wr.cell? ⟨w.heap.size + 1, 0, none⟩ = some (.int .i64 0) := b0.cell 0
        have bc1 : wr.cell? ⟨w.heap.size + 1, 1, none⟩ = some (.bool false) := b0.cell 1
        have bc2 : wr.cell? ⟨w.heap.size + 1, 2, none⟩ = some (.int .u64 0) := b0.cell 2
        have bc3 : wr.cell? ⟨w.heap.size + 1, 3, none⟩ = some (.string ⟨#[]⟩) := b0.cell 3
        have bc4 : wr.cell? ⟨w.heap.size + 1, 4, none⟩ = some (.slice none 0 0) := b0.cell 4
        have bf0 := b0.frozen 0
        have bf1 := b0.frozen 1
        have bf2 := b0.frozen 2
        have bf3 := b0.frozen 3
        have bf4 := b0.frozen 4
        have HE : Hid (Lsb (w.heap.size + 2) wr (.slice A' m c') t.l) := Lib.hid (by
          have h := hk.out
          rw [← HM.out] at h ⊢
          exact h.end_ HA'.out)
        have HS := Lib.hid (bk_set5 (t := zt) (C := .slice none 0 0) b0 (.int .i64 t.k) (.bool t.g) (.int .u64 (t.n : Int)) (.string t.s) (.slice A' m c'))
        clear b0 hrow
        go_wp2_with fail
        have d0 := HS.out.cell 0
        have d1 := HS.out.cell 1
        have d2 := HS.out.cell 2
        have d3 := HS.out.cell 3
        have d4 := HS.out.cell 4
        simp only [List.getElem?_toArray, List.getElem?_cons_zero, List.getElem?_cons_succ] at d0 d1 d2 d3 d4
        refine bodyPost_ret (v := .agg #[.int .i64 t.k, .bool t.g, .int .u64 (t.n : Int), .string t.s, .slice A' m c']) (by simp [results, Tryz.results115, go_sem, d0, d1, d2, d3, d4]) rfl ⟨A', c', by rw [HM.out]; rfl, ?_, ?_⟩
        · rw [HM.out]
          exact (HE.out.keep (Nat.le_of_eq (set5_size wr (w.heap.size + 1) 0 _ _ _ _ _).symm) fun b hb _ => set5_other wr (w.heap.size + 1) 0 _ _ _ _ _ b (by omega)).low (by omega)
        · exact below_set5 hk.out.b (Nat.le_succ _) _ _ _ _ _
end Go.Proofs.YtpcladdipgchbaaGreatDoor.nn
namespace Go.Proofs.YtpcladdipgchbaaGreatDoor.nn
open Go.RowKit

/-- a build in memory, with its slice and its value's -/
structure Bmx (w : World) (g : Nat) (O : Nat → Prop) (A : Option Addr) (c : Nat) (D : Value) (S : Bst) : Prop where
  o : O g
  lo : ∀ b, O b → b < w.heap.size
  b : Bk w g 135 (bmC A c D S)
  r : Opn w g O A c S.op.reverse
  l : Lsf (Oth O g A) w D (S.v.getD emp).l
theorem Oth.more {O O2 : Nat → Prop} {g : Nat} {A : Option Addr} (hO : ∀ b, O b → O2 b) {b : Nat} (h : Oth O g A b) : Oth O2 g A b := ⟨hO b h.1, h.2⟩
theorem Mv.fin {w wr W : World} {O O1 O2 : Nat → Prop} (h : Mv No O w O1 wr) (hO : ∀ b, O1 b → O2 b) (hn : ∀ b, O2 b → O1 b ∨ (wr.heap.size ≤ b ∧ b < W.heap.size)) (hs : wr.heap.size ≤ W.heap.size) (h1 : W.os = wr.os) (h2 : W.tape = wr.tape) (h3 : W.output = wr.output) (hk : ∀ b, b < w.heap.size → ¬ O1 b → W.heap[b]? = wr.heap[b]?) : Mv No O w O2 W where
  os := h1.trans h.os
  tape := h2.trans h.tape
  output := h3.trans h.output
  size := Nat.le_trans h.size hs
  more := fun b hb => hO b (h.more b hb)
  new := fun b hb => by
    rcases hn b hb with h4 | h4
    · rcases h.new b h4 with h5 | h5
      · exact .inl h5
      · exact .inr ⟨h5.1, Nat.lt_of_lt_of_le h5.2 hs⟩
    · exact .inr ⟨Nat.le_trans h.size h4.1, h4.2⟩
  kept := fun b hb hO0 hE => by
    have h4 : ¬ O1 b := fun h5 => by
      rcases h.new b h5 with h6 | h6
      · exact hO0 h6
      · omega
    exact (hk b hb h4).trans (h.kept b hb hO0 hE)
theorem Opn.tail {w W : World} {g go c : Nat} {O O2 : Nat → Prop} {p : VT} {r : List VT} (h : Opn w g O (some ⟨go, 0, none⟩) c (p :: r).reverse) (hO : ∀ b, O b → O2 b) (hs : w.heap.size ≤ W.heap.size) (hk : ∀ b, O b → b ≠ g → b < w.heap.size → W.heap[b]? = w.heap[b]?) (hgo : go < w.heap.size) : Opn W g O2 (some ⟨go, 0, none⟩) c r.reverse := by
  rcases h with hr | ⟨go', C, e, h2, h3, h4, h5, h6⟩
  · simp at hr
  · injection e with e
    injection e with e
    subst e
    have hl1 : (p :: r).reverse.length = r.length + 1 := by simp
    have e3 : W.heap[go]? = w.heap[go]? := hk go h2 h3 hgo
    refine .inr ⟨go, C, rfl, hO _ h2, h3, by simp; omega, fun o => (World.frozen?_of_block (a := ⟨go, o, none⟩) e3).trans (h5 o), fun i hi => ?_⟩
    have hi2 : i < r.length := by simpa using hi
    obtain ⟨h7, h8⟩ := h6 i (by omega)
    have e1 : r.reverse[i] = (p :: r).reverse[i]'(by omega) := by
      simp only [List.reverse_cons]
      rw [List.getElem_append_left (by simpa using hi2)]
    rw [e1]
    exact ⟨⟨(World.cell?_of_block e3).trans h7.k, (World.cell?_of_block e3).trans h7.g, (World.cell?_of_block e3).trans h7.n, (World.cell?_of_block e3).trans h7.s, (World.cell?_of_block e3).trans h7.l⟩,
      (h8.keep hs fun b hb hlt => hk b hb.1 hb.2.1 hlt).wide fun b hb _ => Oth.more hO hb⟩
end Go.Proofs.YtpcladdipgchbaaGreatDoor.nn
namespace Go.Proofs.YtpcladdipgchbaaGreatDoor.nn
open Go.RowKit

theorem Vo.al {F : Nat → Prop} {B : Nat} {w : World} {v : Value} {l : List VT} (h : Vo F B w v l) (hF : ∀ b, F b → b < w.heap.size) (o : Obj) : Vo F B (w.alloc o) v l := by
  obtain ⟨C, h1, h2⟩ := h
  exact ⟨C, h1.alloc o, fun j hj => (h2 j hj).keep (by simp) fun b hb _ => Below.heap_alloc w o b (hF b hb)⟩
theorem Vo.form {F : Nat → Prop} {B : Nat} {w : World} {v : Value} {l : List VT} {n : Nat} (h : Vo F B w v l) (hn : n = l.length) : ∃ A c, v = .slice A n c ∧ n ≤ c := by
  subst hn
  obtain ⟨C, h1, _⟩ := h
  rcases h1.2 with ⟨rfl, h0⟩ | ⟨g, cap, cur, rfl, _, _, hc, _⟩
  · exact ⟨none, 0, by rw [h0], by omega⟩
  · exact ⟨_, cap, rfl, hc⟩
theorem Vo.lsf {F : Nat → Prop} {B : Nat} {w : World} {v : Value} {l : List VT} (h : Vo F B w v l) : Lsf (fun b => F b ∨ B ≤ b) w v l := by
  obtain ⟨C, h1, h2⟩ := h
  rcases h1.2 with ⟨rfl, h0⟩ | ⟨g, cap, cur, rfl, hb, hg, hc, _, _, ht⟩
  · have : l = [] := List.eq_nil_of_length_eq_zero h0
    subst this
    exact .nil_
  · have hcell : ∀ j u, (rcs C 0 l)[j]? = some u → w.cell? ⟨g, j, none⟩ = some u := fun j u hu => by
      rw [cell_of_row w g j cur _ (0, 0) hg]
      have hj : j < l.length * 5 := by have := (List.getElem?_eq_some_iff.1 hu).1; rw [rcs_len] at this; exact this
      rw [← ht, List.getElem?_take_of_lt (by omega)] at hu
      rw [← hu]
      simp
    refine .at_ (C := C) rfl hc (.inr hb) (Array.getElem?_eq_some_iff.1 hg).1 (fun i hi => ?_) fun i hi => (h2 i hi).wide fun b hb _ => .inl hb
    obtain ⟨r0, r1, r2, r3, r4⟩ := rcs_at C l 0 i hi
    rw [Nat.zero_add] at r4
    rw [Nat.zero_add]
    exact ⟨hcell _ _ r0, hcell _ _ r1, hcell _ _ r2, hcell _ _ r3, hcell _ _ r4⟩
theorem bm_last2 (w : World) (o o' : Obj) : ((w.alloc o).alloc o').heap[w.heap.size + 1]? = some o' := by
  have := heap_alloc_last (w.alloc o) o'
  simpa using this
theorem Vo.drew {F : Nat → Prop} {B : Nat} {w : World} {v : Value} {l : List VT} (h : Vo F B w v l) : Vo F B w.drew v l := by
  obtain ⟨C, h1, h2⟩ := h
  exact ⟨C, h1, fun j hj => (h2 j hj).keep (Nat.le_refl _) fun b hb _ => rfl⟩
theorem Vo.lit {F : Nat → Prop} {B : Nat} (w : World) {k : Nat} (hB : B ≤ w.heap.size) (hk : k = w.heap.size) : Vo F B (w.alloc (.cells #[] 25)) (.slice (some ⟨k, 0, none⟩) 0 0) [] := by
  subst hk
  exact ⟨fun _ => .slice none 0 0, World.ownsRow_lit w #[] 0 hB (by simp [maxLen]) rfl, fun j h => by simp at h⟩
theorem Srv.keep {F : Nat → Prop} {w w' : World} {A : Option Addr} {l : List VT} (h : Srv F w A l) (hA : ∀ a, A = some a → l ≠ [] → w'.heap[a.block]? = w.heap[a.block]?) (hs : w.heap.size ≤ w'.heap.size) (hF : ∀ b, F b → b < w.heap.size → w'.heap[b]? = w.heap[b]?) : Srv F w' A l := by
  rcases h with h | ⟨b, off, D, rfl, h⟩
  · exact .inl h
  · by_cases hl : l = []
    · exact .inl hl
    · refine .inr ⟨b, off, D, rfl, fun i hi => ?_⟩
      obtain ⟨r, k⟩ := h i hi
      have e : w'.heap[b]? = w.heap[b]? := hA _ rfl hl
      exact ⟨⟨(World.cell?_of_block e).trans r.k, (World.cell?_of_block e).trans r.g, (World.cell?_of_block e).trans r.n, (World.cell?_of_block e).trans r.s, (World.cell?_of_block e).trans r.l⟩, k.keep hs hF⟩
theorem Srv.one {F : Nat → Prop} {w : World} {k : Nat} {T : TypeId} {t : VT} {C : Value} (h : Bk w k T (vc t C)) (hC : Lsf F w C t.l) : Srv F w (some ⟨k, 0, none⟩) [t] := by
  refine .inr ⟨k, 0, fun _ => C, rfl, fun i hi => ?_⟩
  have : i = 0 := by simpa using hi
  subst this
  exact ⟨⟨h.cell 0, h.cell 1, h.cell 2, h.cell 3, h.cell 4⟩, hC⟩
theorem Lsf.al {F : Nat → Prop} {w : World} {v : Value} {l : List VT} (h : Lsf F w v l) (hF : ∀ b, F b → b < w.heap.size) (o : Obj) : Lsf F (w.alloc o) v l := h.keep (by simp) fun b hb _ => Below.heap_alloc w o b (hF b hb)
theorem off_g {W : World} {g j b : Nat} {v : Value} (h : b ≠ g) : (W.setCell ⟨g, j, none⟩ v).heap[b]? = W.heap[b]? := Below.heap_setCell W ⟨g, j, none⟩ v b h
theorem setCell_sz (W : World) (a : Addr) (v : Value) : (W.setCell a v).heap.size = W.heap.size := by simp [World.setCell]
theorem Mv.cell {E O : Nat → Prop} {W0 : World} {O0 : Nat → Prop} {W : World} (h : Mv E O0 W0 O W) {g j : Nat} (hg : O g) (v : Value) : Mv E O0 W0 O (W.setCell ⟨g, j, none⟩ v) :=
  h.trans ⟨rfl, rfl, rfl, by simp [World.setCell], fun _ h => h, fun _ h => .inl h, fun b _ hO _ => Below.heap_setCell W ⟨g, j, none⟩ v b fun e => hO (by rw [e]; exact hg)⟩
end Go.Proofs.YtpcladdipgchbaaGreatDoor.nn
namespace Go.Proofs.YtpcladdipgchbaaGreatDoor.nn

theorem may_some {S : Bst} {e : Ev} {x : VT} (h : S.v = some x) : mayB S e = 4 := by unfold mayB; rw [if_pos (by rw [h]; rfl)]
theorem oneB_leaf {k : Int} {g : Bool} {n : Nat} {s : ByteArray} (h : k ≠ 13) : asked ⟨k, g, n, s⟩ = .mk k g n s [] := by unfold asked; rw [if_neg h]
theorem dep_bare (e : Ev) : dep (bare e) = if e.k = 5 then 1 else if lf e.k then 0 else 1 := by
  rw [dep_mk]; rfl
theorem oneB_11 {k : Int} {g : Bool} {n : Nat} {s : ByteArray} {l m : List VT} (hk : k = 11) (h : oneB (.mk k g n s l) = true) : oneB (.mk k g n s m) = true := by subst hk; exact h
theorem oneB_12 {k : Int} {g : Bool} {n : Nat} {s : ByteArray} {l : List VT} (hk : k = 12) : oneB (.mk k g n s l) = (oneB (.mk k g n s []) && decide (l.length % 2 = 0)) := by
  subst hk
  show (_ && decide (l.length % 2 = 0)) = ((_ && decide (([] : List VT).length % 2 = 0)) && decide (l.length % 2 = 0))
  rw [show decide (([] : List VT).length % 2 = 0) = true from rfl, Bool.and_true]
  rfl
theorem oneB_13 {k : Int} {g : Bool} {n : Nat} {s : ByteArray} {l : List VT} (hk : k = 13) : oneB (.mk k g n s l) = (oneB (.mk k g n s [emp]) && (decide (l.length = 1) && !guise n l)) := by
  subst hk
  have h1 : ∀ m, oneB (.mk 13 g n s m) = (sE (.mk 13 g n s m) && !g && decide (m.length = 1) && !guise n m) := fun m => rfl
  rw [h1, h1]
  have h2 : guise n [emp] = false := by
    unfold guise emp
    simp [VT.k]
  rw [h2]
  show (sE (.mk 13 g n s []) && !g && decide (l.length = 1) && !guise n l) = (sE (.mk 13 g n s []) && !g && true && true && (decide (l.length = 1) && !guise n l))
  cases sE (.mk 13 g n s []) <;> cases g <;> simp
theorem guise_one {n : Nat} {c : VT} : guise n [c] = (decide (n = 2 ∨ n = 3) && (decide (c.k = 9) && big c.s)) := rfl
theorem tag23_cons {p : VT} {r : List VT} : tag23 (p :: r) = true ↔ p.k = 13 ∧ (p.n = 2 ∨ p.n = 3) := by unfold tag23; simp
theorem addB_open {p v : VT} {r : List VT} (h : p.k ≠ 13) : addB (p :: r) v = (p.snoc v :: r, none) := by unfold addB; rw [if_neg h]
theorem addB_tag {p v : VT} {r : List VT} (h : p.k = 13) : addB (p :: r) v = addB r (p.snoc v) := by rw [addB, if_pos h]
/-- the events of what is open -/
def flat : List VT → List Ev | [] => [] | p :: r => flat r ++ (evOf p :: evsL p.l)
def full (a : List VT × Option VT) : List Ev := match a.2 with | some t => evs t | none => flat a.1
def cntO : List VT → Nat | [] => 0 | p :: r => cntO r + (cntL p.l + 1)
/-- what is open is right, as far as it goes -/
def OpOk (most : Nat) : List VT → Prop
  | [] => True
  | p :: r => (p.k = 11 ∨ p.k = 12 ∨ p.k = 13 ∧ p.l = []) ∧ oneB (asked (evOf p)) = true ∧ rgtL p.l = true ∧ r.length + 1 + depL p.l ≤ most ∧ OpOk most r
/-- what a tree that is built has come to -/
def AddOk (most : Nat) (L : List Ev) (n : Nat) (a : List VT × Option VT) : Prop :=
  full a = L ∧ (∀ t, a.2 = some t → a.1 = [] ∧ rgt t = true ∧ dep t ≤ most ∧ cnt t = n) ∧ (a.2 = none → OpOk most a.1 ∧ cntO a.1 = n)
theorem depL_snoc (l : List VT) (v : VT) : depL (l ++ [v]) = max (depL l) (dep v) := by
  rw [depL_app]
  show max (depL l) (max (dep v) 0) = _
  omega
theorem cntL_snoc (l : List VT) (v : VT) : cntL (l ++ [v]) = cntL l + cnt v := by rw [cntL_app]; rfl
theorem rgtL_snoc (l : List VT) (v : VT) : rgtL (l ++ [v]) = (rgtL l && rgt v) := by
  rw [rgtL_app]
  show (rgtL l && (rgt v && true)) = _
  rw [Bool.and_true]
theorem evsL_snoc (l : List VT) (v : VT) : evsL (l ++ [v]) = evsL l ++ evs v := by
  rw [evsL_app]
  show evsL l ++ (evs v ++ []) = _
  rw [List.append_nil]
theorem add_ok {most : Nat} : ∀ (op : List VT) (v : VT), OpOk most op → rgt v = true → ¬ (tag23 op = true ∧ v.k = 9 ∧ big v.s = true) → op.length + dep v ≤ most → AddOk most (flat op ++ evs v) (cntO op + cnt v) (addB op v)
  | [], v, _, hr, _, hd => ⟨rfl, fun t ht => by injection ht with ht; subst ht; exact ⟨rfl, hr, by simpa using hd, by simp [cntO]⟩, fun h => by cases h⟩
  | p :: r, v, ho, hr, hg, hd => by
    obtain ⟨hk, ha, hL, hdl, hR⟩ := ho
    rw [List.length_cons] at hd
    by_cases k13 : p.k = 13
    · have hl : p.l = [] := by
        rcases hk with h | h | h
        · omega
        · omega
        · exact h.2
      have e1 : p.snoc v = .mk p.k p.g p.n p.s [v] := by unfold VT.snoc; rw [hl]; rfl
      have hlf : lf p.k = false := by rw [k13]; rfl
      have hdv : dep (.mk p.k p.g p.n p.s [v]) = dep v + 1 := by
        rw [dep_mk]
        show (if p.k = 5 then 1 else if lf p.k = true then 0 else depL [v] + 1) = _
        rw [if_neg (by omega), hlf]
        show max (dep v) 0 + 1 = _
        omega
      have hcv : cnt (.mk p.k p.g p.n p.s [v]) = cnt v + 1 := rfl
      have hrv : rgt (.mk p.k p.g p.n p.s [v]) = true := by
        rw [rgt_mk, Bool.and_eq_true, Bool.and_eq_true]
        refine ⟨⟨?_, ?_⟩, ?_⟩
        · rw [oneB_13 k13, Bool.and_eq_true, Bool.and_eq_true]
          refine ⟨?_, rfl, ?_⟩
          · unfold asked evOf at ha
            rw [if_pos (show (⟨p.k, p.g, p.n, p.s⟩ : Ev).k = 13 from k13)] at ha
            exact ha
          · rw [guise_one, Bool.not_eq_true']
            refine Bool.eq_false_iff.2 fun h => hg ?_
            rw [Bool.and_eq_true, Bool.and_eq_true] at h
            exact ⟨tag23_cons.2 ⟨k13, of_decide_eq_true h.1⟩, of_decide_eq_true h.2.1, h.2.2⟩
        · show (!(lf p.k) || _) = true
          rw [hlf]; rfl
        · show (rgt v && true) = true
          rw [hr]; rfl
      have hev : evs (.mk p.k p.g p.n p.s [v]) = evOf p :: evs v := by
        rw [evs_mk, if_neg (by show ¬ (p.k = 11 ∨ p.k = 12); omega), List.append_nil]
        show _ :: (evs v ++ []) = _
        rw [List.append_nil]
        rfl
      have := add_ok (most := most) r (.mk p.k p.g p.n p.s [v]) hR hrv (by intro h; have : p.k = 9 := h.2.1; omega) (by omega)
      rw [addB_tag k13, e1]
      have e2 : flat (p :: r) ++ evs v = flat r ++ evs (.mk p.k p.g p.n p.s [v]) := by
        rw [hev]
        show flat r ++ (evOf p :: evsL p.l) ++ evs v = _
        rw [hl, List.append_assoc]
        rfl
      have e3 : cntO (p :: r) + cnt v = cntO r + cnt (.mk p.k p.g p.n p.s [v]) := by
        rw [hcv]
        show cntO r + (cntL p.l + 1) + cnt v = _
        rw [hl]
        show cntO r + (0 + 1) + cnt v = _
        omega
      rw [e2, e3]
      exact this
    · rw [addB_open k13]
      refine ⟨?_, fun t ht => (by cases ht), fun _ => ⟨⟨?_, ha, ?_, ?_, hR⟩, ?_⟩⟩
      · show flat r ++ (evOf p :: evsL (p.l ++ [v])) = flat r ++ (evOf p :: evsL p.l) ++ evs v
        rw [evsL_snoc, List.append_assoc]
        rfl
      · show p.k = 11 ∨ p.k = 12 ∨ p.k = 13 ∧ _
        rcases hk with h | h | h
        · exact .inl h
        · exact .inr (.inl h)
        · exact absurd h.1 k13
      · show rgtL (p.l ++ [v]) = true
        rw [rgtL_snoc, hL, hr]
        rfl
      · show r.length + 1 + depL (p.l ++ [v]) ≤ most
        rw [depL_snoc]
        omega
      · show cntO r + (cntL (p.l ++ [v]) + 1) = cntO r + (cntL p.l + 1) + cnt v
        rw [cntL_snoc]
        omega
/-- what a state has come to -/
def Inv (S : Bst) (L : List Ev) : Prop := AddOk S.most L S.n (S.op, S.v) ∧ S.n ≤ 65536
theorem ba_nil {s : ByteArray} (h : s.size = 0) : s = ⟨#[]⟩ := by
  have h2 : s.data.size = 0 := h
  exact ByteArray.ext (Array.eq_empty_of_size_eq_zero h2)
theorem put_ok {S : Bst} {L : List Ev} {e : Ev} (h : Inv S L) (hm : mayB S e = 0) : Inv (putB S e) (L ++ [e]) := by
  obtain ⟨⟨h1, _, h2⟩, h3⟩ := h
  obtain ⟨op, v, n, most⟩ := S
  have hv : v = none := by
    cases v with
    | none => rfl
    | some x => rw [may_some rfl] at hm; cases hm
  subst hv
  obtain ⟨hO, hC⟩ := h2 rfl
  have hO' : OpOk most op := hO
  have hC' : cntO op = n := hC
  have hF : flat op = L := h1
  have h3' : n ≤ 65536 := h3
  have hp := hm
  unfold mayB at hp
  rw [if_neg (by simp)] at hp
  unfold putB
  rw [if_neg (by rw [hm]; simp)]
  by_cases k15 : e.k = 15
  · rw [if_pos k15] at hp ⊢
    have hq : (e.g = false ∧ e.n = 0 ∧ e.s.size = 0) ∧ endOk op = true := Classical.byContradiction fun hn => by rw [if_neg hn] at hp; cases hp
    obtain ⟨⟨q1, q2, q3⟩, q4⟩ := hq
    have he : e = evEnd := by
      cases e
      simp only at k15 q1 q2 q3
      subst k15 q1 q2
      rw [ba_nil q3]
      rfl
    match op, hO', hC', hF, q4 with
    | p :: r, hO', hC', hF, q4 =>
      obtain ⟨hk, ha, hL, hdl, hR⟩ := hO'
      have hk11 : p.k = 11 ∨ p.k = 12 ∧ p.l.length % 2 = 0 := by
        unfold endOk at q4
        rw [Bool.or_eq_true, Bool.and_eq_true, decide_eq_true_eq, decide_eq_true_eq, decide_eq_true_eq] at q4
        exact q4
      have hlf : lf p.k = false := by
        rcases hk11 with h | h
        · rw [h]; rfl
        · rw [h.1]; rfl
      have hdv : dep p = depL p.l + 1 := by
        rw [dep_mk, if_neg (by omega), hlf]
        rfl
      have hrv : rgt p = true := by
        rw [rgt_mk, hL, hlf, Bool.and_true]
        show (oneB p && true) = true
        rw [Bool.and_true]
        rw [oneB_leaf (by show p.k ≠ 13; omega)] at ha
        rcases hk11 with h | h
        · cases p; exact oneB_11 h ha
        · obtain ⟨k', g', n', s', l'⟩ := p
          have h12 : k' = 12 := h.1
          rw [oneB_12 h12, show oneB (.mk k' g' n' s' []) = true from ha, decide_eq_true (show l'.length % 2 = 0 from h.2)]
          rfl
      have := add_ok (most := most) r p hR hrv (by intro hh; omega) (by omega)
      refine ⟨?_, h3'⟩
      have e2 : L ++ [e] = flat r ++ evs p := by
        rw [← hF, he, evs_mk, if_pos (by omega)]
        show flat r ++ (evOf p :: evsL p.l) ++ [evEnd] = _
        rw [List.append_assoc]
        rfl
      have e3 : n = cntO r + cnt p := by rw [← hC', cnt_mk]; rfl
      rw [e2]
      show AddOk most (flat r ++ evs p) n (addB r p)
      rw [e3]
      exact this
  · rw [if_neg k15] at hp ⊢
    have q1 : ¬ (oneB (asked e) = false ∨ (tag23 op = true ∧ e.k = 9 ∧ big e.s = true)) := fun hn => by rw [if_pos hn] at hp; cases hp
    rw [if_neg q1] at hp
    have q2 : ¬ (most < op.length + dep (bare e) ∨ 65536 ≤ n) := fun hn => by rw [if_pos hn] at hp; cases hp
    have q3 : oneB (asked e) = true := by cases h : oneB (asked e) with
      | true => rfl
      | false => exact absurd (.inl h) q1
    have q4 : ¬ (tag23 op = true ∧ e.k = 9 ∧ big e.s = true) := fun h => q1 (.inr h)
    have hd := dep_bare e
    by_cases hl : lf e.k = true
    · rw [if_pos hl]
      have k13 := ((lf_iff e.k).1 hl).2.2
      have k11 := ((lf_iff e.k).1 hl).1
      have k12 := ((lf_iff e.k).1 hl).2.1
      have ea : asked e = bare e := by unfold asked bare; rw [if_neg k13]
      rw [ea] at q3
      have hrv : rgt (bare e) = true := by
        rw [rgt_mk, q3]
        show (true && (!(lf e.k) || true) && true) = true
        rw [Bool.or_true]
        rfl
      have := add_ok (most := most) op (bare e) hO' hrv q4 (by omega)
      refine ⟨?_, by show n + 1 ≤ 65536; omega⟩
      have e2 : evs (bare e) = [e] := by
        rw [evs_mk, if_neg (by show ¬ (e.k = 11 ∨ e.k = 12); omega)]
        rfl
      rw [← hF]
      show AddOk most (flat op ++ [e]) (n + 1) (addB op (bare e))
      rw [← hC', ← e2]
      exact this
    · rw [if_neg hl]
      have hl' : lf e.k = false := by cases h : lf e.k with
        | true => exact absurd h hl
        | false => rfl
      have hk : e.k = 11 ∨ e.k = 12 ∨ e.k = 13 := Classical.byContradiction fun hn => hl ((lf_iff e.k).2 ⟨fun h => hn (.inl h), fun h => hn (.inr (.inl h)), fun h => hn (.inr (.inr h))⟩)
      rw [if_neg (by omega), hl'] at hd
      have hd1 : dep (bare e) = 1 := by rw [hd]; rfl
      refine ⟨⟨?_, fun t ht => (by cases ht), fun _ => ⟨⟨?_, q3, rfl, ?_, hO'⟩, ?_⟩⟩, by show n + 1 ≤ 65536; omega⟩
      · show flat op ++ (evOf (bare e) :: evsL []) = L ++ [e]
        rw [hF]
        rfl
      · show e.k = 11 ∨ e.k = 12 ∨ e.k = 13 ∧ _
        rcases hk with h | h | h
        · exact .inl h
        · exact .inr (.inl h)
        · exact .inr (.inr ⟨h, rfl⟩)
      · show op.length + 1 + 0 ≤ most
        omega
      · show cntO op + (0 + 1) = n + 1
        omega
end Go.Proofs.YtpcladdipgchbaaGreatDoor.nn
namespace Go.Proofs.YtpcladdipgchbaaGreatDoor.nn
open Go.RowKit

/-- something that is open: its tree so far, its block, its slice -/
structure Rec where
  p : VT
  q : Nat
  v : Value
/-- which function tells what may come next -/
def tkF (i : Nat) (k : Int) : Nat := if i = 0 then 144 else if k = 12 then 223 else if k = 13 then 224 else 225
def opF (i : Nat) (r : Rec) : Value := .func (.func (tkF i r.p.k)) #[.pointer (some ⟨r.q, 0, none⟩)] #[]
def opC (i : Nat) (r : Rec) : List Value := [.pointer (some ⟨r.q, 0, none⟩), opF i r]
/-- the cells of what is open, from the bottom on (the list: the innermost first) -/
def stC : List Rec → List Value | [] => [] | r :: D => stC D ++ opC D.length r
theorem stC_len (D : List Rec) : (stC D).length = D.length * 2 := by
  induction D with
  | nil => rfl
  | cons r D ih => simp only [stC, opC, List.length_append, List.length_cons, List.length_nil, ih]; omega
/-- one's own blocks that never turn any more -/
def Fz (O : Nat → Prop) (K : Nat → Nat) : Nat → Prop := fun b => O b ∧ K b = 0
structure Pt (w : World) (O : Nat → Prop) (K : Nat → Nat) (i : Nat) (r : Rec) : Prop where
  b : Bk w r.q 104 (vc r.p r.v)
  o : O r.q ∧ K r.q = 3 + 2 * i
  v : Vo (Fz O K) 0 w r.v r.p.l
  vo : ∀ b, r.v.ownBlock = some b → O b ∧ K b = 4 + 2 * i
def Rcs (w : World) (O : Nat → Prop) (K : Nat → Nat) : List Rec → Prop | [] => True | r :: D => Pt w O K D.length r ∧ Rcs w O K D
theorem own_same5 {w w' : World} {base n size : Nat} {e : TypeId} {v : Value} {xs : List Value} (h : w.ownsRow base e size v n xs) (hb : ∀ b, v.ownBlock = some b → w'.heap[b]? = w.heap[b]?) : w'.ownsRow base e size v n xs := by
  refine ⟨h.1, ?_⟩
  rcases h.2 with h5 | ⟨g, cap, cur, rfl, hb', hg, h6⟩
  · exact .inl h5
  · exact .inr ⟨g, cap, cur, rfl, hb', (hb g rfl).trans hg, h6⟩
theorem Lsf.turn {F F' : Nat → Prop} {w w' : World} {v : Value} {l : List VT} (h : Lsf F w v l) (hs : w.heap.size ≤ w'.heap.size) (hF : ∀ b, F b → b < w.heap.size → w'.heap[b]? = w.heap[b]? ∧ F' b) : Lsf F' w' v l := by
  have h1 : Lsf (fun b => F b ∧ b < w.heap.size) w v l := h.wide fun b hb hlt => ⟨hb, hlt⟩
  exact (h1.keep hs fun b hb _ => (hF b hb.1 hb.2).1).wide fun b hb _ => (hF b hb.1 hb.2).2
theorem Vo.keep {F F' : Nat → Prop} {B : Nat} {w w' : World} {v : Value} {l : List VT} (h : Vo F B w v l) (hs : w.heap.size ≤ w'.heap.size) (hv : ∀ b, v.ownBlock = some b → w'.heap[b]? = w.heap[b]?) (hF : ∀ b, F b → b < w.heap.size → w'.heap[b]? = w.heap[b]? ∧ F' b) : Vo F' B w' v l := by
  obtain ⟨C, h1, h2⟩ := h
  exact ⟨C, own_same5 h1 hv, fun j hj => (h2 j hj).turn hs hF⟩
section
variable {w w' : World} {O O' : Nat → Prop} {K K' : Nat → Nat}
theorem Pt.keep {i : Nat} {r : Rec} (h : Pt w O K i r) (_ : ∀ b, O b → b < w.heap.size) (hs : w.heap.size ≤ w'.heap.size) (hb : ∀ b, O b → K b = 0 ∨ K b = 3 + 2 * i ∨ K b = 4 + 2 * i → w'.heap[b]? = w.heap[b]? ∧ O' b ∧ K' b = K b) : Pt w' O' K' i r := by
  obtain ⟨h1, h2, h3, h4⟩ := h
  have e2 := hb _ h2.1 (.inr (.inl h2.2))
  exact ⟨e2.1.trans h1, ⟨e2.2.1, e2.2.2.trans h2.2⟩, h3.keep hs (fun b h => (hb b (h4 b h).1 (.inr (.inr (h4 b h).2))).1) fun b h _ => by have := hb b h.1 (.inl h.2); exact ⟨this.1, this.2.1, this.2.2.trans h.2⟩, fun b h => by have := hb b (h4 b h).1 (.inr (.inr (h4 b h).2)); exact ⟨this.2.1, this.2.2.trans (h4 b h).2⟩⟩
theorem Rcs.keep {D : List Rec} (h : Rcs w O K D) (hlo : ∀ b, O b → b < w.heap.size) (hs : w.heap.size ≤ w'.heap.size) (hb : ∀ b, O b → K b = 0 ∨ (3 ≤ K b ∧ K b < 3 + 2 * D.length) → w'.heap[b]? = w.heap[b]? ∧ O' b ∧ K' b = K b) : Rcs w' O' K' D := by
  induction D with
  | nil => trivial
  | cons r D ih =>
    rw [List.length_cons] at hb
    refine ⟨h.1.keep hlo hs fun b ho hk => hb b ho (by omega), ih h.2 fun b ho hk => hb b ho (by omega)⟩
end
/-- the real build: block g; O: its own blocks, each of one kind: 0 never to turn, 1 the build, 2 what is open, 3 + 2 i, 4 + 2 i: the i-th that is open, and its slice -/
structure Rbx (w : World) (g : Nat) (O : Nat → Prop) (K : Nat → Nat) (sv : Value) (D : List Rec) (n most : Nat) : Prop where
  o : O g ∧ K g = 1
  lo : ∀ b, O b → b < w.heap.size
  b : Bk w g 111 #[.int .i64 (most : Int), .int .i64 (n : Int), sv]
  s : w.ownsRow 0 108 2 sv D.length (stC D)
  so : ∀ b, sv.ownBlock = some b → O b ∧ K b = 2
  r : Rcs w O K D
/-- what lies at the bottom -/
def bot (v : Option VT) : VT := .mk 11 false 0 ⟨#[]⟩ v.toList
def Rb (w : World) (g : Nat) (O : Nat → Prop) (S : Bst) : Prop := ∃ K sv D, Rbx w g O K sv D S.n S.most ∧ D.map Rec.p = S.op ++ [bot S.v]
section
variable {w W : World} {g : Nat} {O : Nat → Prop} {K : Nat → Nat} {sv : Value} {D : List Rec} {n most : Nat}
theorem Rbx.keep (h : Rbx w g O K sv D n most) (hs : w.heap.size ≤ W.heap.size) (hb : ∀ b, O b → W.heap[b]? = w.heap[b]?) : Rbx W g O K sv D n most :=
  ⟨h.o, fun b hb => Nat.lt_of_lt_of_le (h.lo b hb) hs, (hb g h.o.1).trans h.b, own_same5 h.s fun b hb' => hb b (h.so b hb').1, h.so, h.r.keep h.lo hs fun b ho _ => ⟨hb b ho, ho, rfl⟩⟩
theorem Rb.keep {S : Bst} (h : Rb w g O S) (hs : w.heap.size ≤ W.heap.size) (hb : ∀ b, O b → W.heap[b]? = w.heap[b]?) : Rb W g O S := by
  obtain ⟨K, sv, D, h1, h2⟩ := h
  exact ⟨K, sv, D, h1.keep hs hb, h2⟩
theorem Rbx.below (h : Rbx w g O K sv D n most) (hB : Below w.heap.size w W) : Rbx W g O K sv D n most := h.keep hB.size fun b hb => hB.block b (h.lo b hb)
theorem Rb.below {S : Bst} (h : Rb w g O S) (hB : Below w.heap.size w W) : Rb W g O S := by
  obtain ⟨K, sv, D, h1, h2⟩ := h
  exact ⟨K, sv, D, h1.below hB, h2⟩
/-- one value more -/
theorem Rbx.cnt (h : Rbx w g O K sv D n most) : Rbx (w.setCell ⟨g, 1, none⟩ (.int .i64 ((n + 1 : Nat) : Int))) g O K sv D (n + 1) most := by
  have hs : w.heap.size ≤ (w.setCell ⟨g, 1, none⟩ (.int .i64 ((n + 1 : Nat) : Int))).heap.size := by rw [setCell_sz]; exact Nat.le_refl _
  have hb : ∀ b, O b → K b ≠ 1 → (w.setCell ⟨g, 1, none⟩ (.int .i64 ((n + 1 : Nat) : Int))).heap[b]? = w.heap[b]? := fun b _ hk => off_g fun e => hk (by rw [e]; exact h.o.2)
  exact ⟨h.o, fun b hb => Nat.lt_of_lt_of_le (h.lo b hb) hs, h.b.set_ 1 _, own_same5 h.s fun b hb' => hb b (h.so b hb').1 (by rw [(h.so b hb').2]; decide), h.so, h.r.keep h.lo hs fun b ho hk => ⟨hb b ho (by omega), ho, rfl⟩⟩
/-- a row one shorter -/
theorem own_pop {w : World} {base size : Nat} {e : TypeId} {A : Option Addr} {m c : Nat} {xs ys : List Value} (h : w.ownsRow base e size (.slice A (m + 1) c) (m + 1) (xs ++ ys)) (hx : xs.length = m * size) : w.ownsRow base e size (.slice A m c) m xs := by
  refine ⟨hx, ?_⟩
  rcases h.2 with ⟨h5, h6⟩ | ⟨g, cap, cur, h5, hb, hg, hc, hm, hs, ht⟩
  · cases h6
  · injection h5 with e1 e2 e3
    subst e1 e3
    refine .inr ⟨g, c, cur, rfl, hb, hg, by omega, hm, hs, ?_⟩
    have h7 := congrArg (List.take (m * size)) ht
    rw [List.take_take, Nat.min_eq_left (Nat.mul_le_mul_right _ (Nat.le_succ m))] at h7
    rw [h7, List.take_left' hx]
/-- the innermost is taken off -/
theorem Rbx.pop {gs c : Nat} {r : Rec} (h : Rbx w g O K (.slice (some ⟨gs, 0, none⟩) (D.length + 1) c) (r :: D) n most) :
    ∃ K', Rbx (w.setCell ⟨g, 2, none⟩ (.slice (some ⟨gs, 0, none⟩) D.length c)) g O K' (.slice (some ⟨gs, 0, none⟩) D.length c) D n most ∧ Lsf (Fz O K') (w.setCell ⟨g, 2, none⟩ (.slice (some ⟨gs, 0, none⟩) D.length c)) r.v r.p.l := by
  have hs : w.heap.size ≤ (w.setCell ⟨g, 2, none⟩ (.slice (some ⟨gs, 0, none⟩) D.length c)).heap.size := by rw [setCell_sz]; exact Nat.le_refl _
  have hb : ∀ b, O b → K b ≠ 1 → (w.setCell ⟨g, 2, none⟩ (.slice (some ⟨gs, 0, none⟩) D.length c)).heap[b]? = w.heap[b]? := fun b _ hk => off_g fun e => hk (by rw [e]; exact h.o.2)
  refine ⟨fun b => if 3 + 2 * D.length ≤ K b then 0 else K b, ⟨⟨h.o.1, ?_⟩, fun b hb => Nat.lt_of_lt_of_le (h.lo b hb) hs, h.b.set_ 2 _, own_same5 (own_pop h.s (stC_len D)) fun b hb' => hb b (h.so b hb').1 (by rw [(h.so b hb').2]; decide), fun b hb' => ⟨(h.so b hb').1, ?_⟩, h.r.2.keep h.lo hs fun b ho hk => ⟨hb b ho (by omega), ho, ?_⟩⟩, ?_⟩
  · rw [h.o.2, if_neg (by omega)]
  · rw [(h.so b hb').2, if_neg (by omega)]
  · rw [if_neg (by omega)]
  · have hp := h.r.1
    obtain ⟨C, h1, h2⟩ := hp.v
    have hF : ∀ b, Fz O K b → b < w.heap.size → (w.setCell ⟨g, 2, none⟩ (.slice (some ⟨gs, 0, none⟩) D.length c)).heap[b]? = w.heap[b]? ∧ Fz O (fun b => if 3 + 2 * D.length ≤ K b then 0 else K b) b := fun b hf _ =>
      ⟨hb b hf.1 (by rw [hf.2]; decide), hf.1, by show (if _ then _ else _) = 0; rw [hf.2]; split <;> rfl⟩
    have h3 : Lsf (fun b => Fz O K b ∨ r.v.ownBlock = some b) w r.v r.p.l := by
      have hv : Vo (Fz O K) 0 w r.v r.p.l := hp.v
      rcases h1.2 with ⟨e1, h0⟩ | ⟨gr, cap, cur, e1, hb', hg, hc, _, _, ht⟩
      · have : r.p.l = [] := List.eq_nil_of_length_eq_zero h0
        rw [this, e1]
        exact .nil_
      · rw [e1]
        have hcell : ∀ j u, (rcs C 0 r.p.l)[j]? = some u → w.cell? ⟨gr, j, none⟩ = some u := fun j u hu => by
          rw [cell_of_row w gr j cur _ (0, 0) hg]
          have hj : j < r.p.l.length * 5 := by have := (List.getElem?_eq_some_iff.1 hu).1; rw [rcs_len] at this; exact this
          rw [← ht, List.getElem?_take_of_lt (by omega)] at hu
          rw [← hu]
          simp
        refine .at_ (C := C) rfl hc (.inr rfl) (Array.getElem?_eq_some_iff.1 hg).1 (fun i hi => ?_) fun i hi => (h2 i hi).wide fun b hb _ => .inl hb
        obtain ⟨r0, r1, r2, r3, r4⟩ := rcs_at C r.p.l 0 i hi
        rw [Nat.zero_add] at r4
        rw [Nat.zero_add]
        exact ⟨hcell _ _ r0, hcell _ _ r1, hcell _ _ r2, hcell _ _ r3, hcell _ _ r4⟩
    refine h3.turn hs fun b hf hlt => ?_
    rcases hf with hf | hf
    · exact hF b hf hlt
    · obtain ⟨h5, h6⟩ := hp.vo b hf
      exact ⟨hb b h5 (by omega), h5, by show (if _ then _ else _) = 0; rw [h6, if_pos (by omega)]⟩
/-- a value goes into the innermost -/
theorem Rbx.put {r : Rec} {p : VT} {v' : Value} (h : Rbx w g O K sv (r :: D) n most) (hs : w.heap.size ≤ W.heap.size) (hk : ∀ b, b < w.heap.size → b ≠ r.q → r.v.ownBlock ≠ some b → W.heap[b]? = w.heap[b]?)
    (hpk : p.k = r.p.k) (hq : Bk W r.q 104 (vc p v')) (hv : Vo (Fz O K) 0 W v' p.l) (hvo : v'.ownBlock = r.v.ownBlock ∨ ∃ k, v'.ownBlock = some k ∧ w.heap.size ≤ k) :
    Rbx W g (fun b => O b ∨ (w.heap.size ≤ b ∧ b < W.heap.size)) (fun b => if b < w.heap.size then K b else 4 + 2 * D.length) sv (⟨p, r.q, v'⟩ :: D) n most := by
  have hp := h.r.1
  have hO : ∀ b, O b → (fun b => if b < w.heap.size then K b else 4 + 2 * D.length) b = K b := fun b hb => if_pos (h.lo b hb)
  have hne : ∀ b, O b → K b ≠ 3 + 2 * D.length → K b ≠ 4 + 2 * D.length → W.heap[b]? = w.heap[b]? := fun b hb h3 h4 => hk b (h.lo b hb) (fun e => h3 (by rw [e]; exact hp.o.2)) fun e => h4 (hp.vo b e).2
  have hsz : ∀ k, v'.ownBlock = some k → k < W.heap.size := fun k hk => by obtain ⟨C, h1, _⟩ := hv; exact (h1.lt k hk).2
  have hst : stC (⟨p, r.q, v'⟩ :: D) = stC (r :: D) := by simp only [stC, opC, opF, hpk]
  refine ⟨⟨.inl h.o.1, (hO g h.o.1).trans h.o.2⟩, fun b hb => ?_, (hne g h.o.1 (by rw [h.o.2]; omega) (by rw [h.o.2]; omega)).trans h.b, ?_, fun b hb => ⟨.inl (h.so b hb).1, (hO b (h.so b hb).1).trans (h.so b hb).2⟩, ⟨hq, ⟨.inl hp.o.1, (hO _ hp.o.1).trans hp.o.2⟩, ?_, fun b hb => ?_⟩, h.r.2.keep h.lo hs fun b ho hk => ⟨hne b ho (by omega) (by omega), .inl ho, hO b ho⟩⟩
  · rcases hb with hb | hb
    · exact Nat.lt_of_lt_of_le (h.lo b hb) hs
    · exact hb.2
  · rw [hst]
    exact own_same5 h.s fun b hb => hne b (h.so b hb).1 (by rw [(h.so b hb).2]; omega) (by rw [(h.so b hb).2]; omega)
  · exact hv.keep (Nat.le_refl _) (fun _ _ => rfl) fun b hb _ => ⟨rfl, .inl hb.1, (hO b hb.1).trans hb.2⟩
  · rcases hvo with hvo | ⟨k, hvo, hk2⟩
    · rw [hvo] at hb
      exact ⟨.inl (hp.vo b hb).1, (hO b (hp.vo b hb).1).trans (hp.vo b hb).2⟩
    · have hb' : v'.ownBlock = some b := hb
      rw [hvo] at hb'
      injection hb' with hb'
      subst hb'
      exact ⟨.inr ⟨hk2, hsz _ hvo⟩, if_neg (by omega)⟩
/-- something more is open -/
theorem Rbx.push {p : VT} {q n' : Nat} {sv' : Value} (h : Rbx w g O K sv D n most) (hs : w.heap.size ≤ W.heap.size) (hk : ∀ b, b < w.heap.size → b ≠ g → sv.ownBlock ≠ some b → W.heap[b]? = w.heap[b]?)
    (hb : Bk W g 111 #[.int .i64 (most : Int), .int .i64 (n' : Int), sv']) (hv : W.ownsRow 0 108 2 sv' (D.length + 1) (stC (⟨p, q, .slice none 0 0⟩ :: D)))
    (hvo : sv'.ownBlock = sv.ownBlock ∨ ∃ k, sv'.ownBlock = some k ∧ w.heap.size ≤ k ∧ k ≠ q) (hq0 : w.heap.size ≤ q) (hq : Bk W q 104 (vc p (.slice none 0 0))) (hpl : p.l = []) :
    Rbx W g (fun b => O b ∨ (w.heap.size ≤ b ∧ b < W.heap.size)) (fun b => if b < w.heap.size then K b else if b = q then 3 + 2 * D.length else 2) sv' (⟨p, q, .slice none 0 0⟩ :: D) n' most := by
  have hO : ∀ b, O b → (fun b => if b < w.heap.size then K b else if b = q then 3 + 2 * D.length else 2) b = K b := fun b hb => if_pos (h.lo b hb)
  have hne : ∀ b, O b → K b ≠ 1 → K b ≠ 2 → W.heap[b]? = w.heap[b]? := fun b hb h3 h4 => hk b (h.lo b hb) (fun e => h3 (by rw [e]; exact h.o.2)) fun e => h4 (h.so b e).2
  refine ⟨⟨.inl h.o.1, (hO g h.o.1).trans h.o.2⟩, fun b hb => ?_, hb, hv, fun b hb => ?_, ⟨hq, ⟨.inr ⟨hq0, hq.lt⟩, ?_⟩, ?_, fun b hb => ?_⟩, h.r.keep h.lo hs fun b ho hk => ⟨hne b ho (by omega) (by omega), .inl ho, hO b ho⟩⟩
  · rcases hb with hb | hb
    · exact Nat.lt_of_lt_of_le (h.lo b hb) hs
    · exact hb.2
  · rcases hvo with hvo | ⟨k, hvo, hk2, hk3⟩
    · rw [hvo] at hb
      exact ⟨.inl (h.so b hb).1, (hO b (h.so b hb).1).trans (h.so b hb).2⟩
    · have hlt := (hv.lt b hb).2
      rw [hvo] at hb
      injection hb with hb
      subst hb
      exact ⟨.inr ⟨hk2, hlt⟩, by show (if _ then _ else _) = 2; rw [if_neg (by omega), if_neg hk3]⟩
  · show (if q < w.heap.size then _ else if q = q then _ else _) = _
    rw [if_neg (by omega), if_pos rfl]
  · show Vo _ 0 W (.slice none 0 0) p.l
    rw [hpl]
    exact ⟨fun _ => .slice none 0 0, World.ownsRow_nil _ _ _ _, fun j h => by simp at h⟩
  · exact absurd hb (by simp [Value.ownBlock])
/-- how the innermost lies -/
theorem Rbx.top {r : Rec} (h : Rbx w g O K sv (r :: D) n most) : ∃ gs c, sv = .slice (some ⟨gs, 0, none⟩) (D.length + 1) c ∧ gs < w.heap.size ∧ w.cell? ⟨gs, D.length * 2, none⟩ = some (.pointer (some ⟨r.q, 0, none⟩)) ∧ w.cell? ⟨gs, D.length * 2 + 1, none⟩ = some (opF D.length r) := by
  obtain ⟨gs, c, rfl, _, h2⟩ := own_blk h.s (Nat.succ_pos _)
  refine ⟨gs, c, rfl, h2, ?_, ?_⟩
  · have := h.s.cellAt (D.length * 2) (by simp only [List.length_cons]; omega)
    rw [this]
    simp [stC, opC, stC_len]
  · have := h.s.cellAt (D.length * 2 + 1) (by simp only [List.length_cons]; omega)
    rw [this]
    simp [stC, opC, stC_len]
theorem stC_first (D : List Rec) (r : Rec) : (stC (D ++ [r]))[0]? = some (.pointer (some ⟨r.q, 0, none⟩)) := by
  induction D with
  | nil => rfl
  | cons x D ih =>
    show (stC (D ++ [r]) ++ _)[0]? = _
    rw [List.getElem?_append_left (by rw [stC_len]; simp)]
    exact ih
theorem Rcs.last {D : List Rec} {r : Rec} (h : Rcs w O K (D ++ [r])) : Pt w O K 0 r := by
  induction D with
  | nil => exact h.1
  | cons x D ih => exact ih h.2
end
end Go.Proofs.YtpcladdipgchbaaGreatDoor.nn
namespace Go.Proofs.YtpcladdipgchbaaGreatDoor.nn
open Go.RowKit

theorem Bk.c5 {w : World} {g : Nat} {T : TypeId} {a b c d e : Value} (h : Bk w g T #[a, b, c, d, e]) : w.cell? ⟨g, 0, none⟩ = some a ∧ w.cell? ⟨g, 1, none⟩ = some b ∧ w.cell? ⟨g, 2, none⟩ = some c ∧ w.cell? ⟨g, 3, none⟩ = some d ∧ w.cell? ⟨g, 4, none⟩ = some e := ⟨h.cell 0, h.cell 1, h.cell 2, h.cell 3, h.cell 4⟩
theorem Bk.c4 {w : World} {g : Nat} {T : TypeId} {a b c d : Value} (h : Bk w g T #[a, b, c, d]) : w.cell? ⟨g, 0, none⟩ = some a ∧ w.cell? ⟨g, 1, none⟩ = some b ∧ w.cell? ⟨g, 2, none⟩ = some c ∧ w.cell? ⟨g, 3, none⟩ = some d := ⟨h.cell 0, h.cell 1, h.cell 2, h.cell 3⟩
theorem Bk.c3 {w : World} {g : Nat} {T : TypeId} {a b c : Value} (h : Bk w g T #[a, b, c]) : w.cell? ⟨g, 0, none⟩ = some a ∧ w.cell? ⟨g, 1, none⟩ = some b ∧ w.cell? ⟨g, 2, none⟩ = some c := ⟨h.cell 0, h.cell 1, h.cell 2⟩
theorem Bk.c2 {w : World} {g : Nat} {T : TypeId} {a b : Value} (h : Bk w g T #[a, b]) : w.cell? ⟨g, 0, none⟩ = some a ∧ w.cell? ⟨g, 1, none⟩ = some b := ⟨h.cell 0, h.cell 1⟩
theorem Bk.f5 {w : World} {g : Nat} {T : TypeId} {cs : Array Value} (h : Bk w g T cs) : w.frozen? ⟨g, 0, none⟩ = false ∧ w.frozen? ⟨g, 1, none⟩ = false ∧ w.frozen? ⟨g, 2, none⟩ = false ∧ w.frozen? ⟨g, 3, none⟩ = false ∧ w.frozen? ⟨g, 4, none⟩ = false := ⟨h.frozen 0, h.frozen 1, h.frozen 2, h.frozen 3, h.frozen 4⟩
theorem below_set2 {B : Nat} {W0 W : World} {g o : Nat} (h : Below B W0 W) (hg : B ≤ g) (a b : Value) : Below B W0 ((W.setCell ⟨g, o, none⟩ a).setCell ⟨g, o + 1, none⟩ b) := (h.setCell (p := ⟨g, o, none⟩) hg a).setCell (p := ⟨g, o + 1, none⟩) hg b
set_option maxRecDepth 100000 in
set_option maxHeartbeats 1000000 in
theorem top_any (g gs m c q k : Nat) (fs : Array Value) (w : World) (hg : g < w.heap.size) (hgs : gs < w.heap.size) (h2 : w.cell? ⟨g, 2, none⟩ = some (.slice (some ⟨gs, 0, none⟩) (m + 1) c)) (h3 : w.cell? ⟨gs, m * 2, none⟩ = some (.pointer (some ⟨q, 0, none⟩)))
    (h4 : w.cell? ⟨gs, m * 2 + 1, none⟩ = some (.func (.func k) fs #[])) (hm : m ≤ 1099511627776) :
    Calls Tryz.prog 221 #[.pointer (some ⟨g, 0, none⟩)] w fun e w' => e = .returned (.agg #[.pointer (some ⟨q, 0, none⟩), .func (.func k) fs #[]]) ∧ Below w.heap.size w w' := by
  obtain ⟨W1, hW1⟩ : ∃ W1, w.alloc (.cells #[.pointer none, .nilFunc] 108) = W1 := ⟨_, rfl⟩
  have hb : Bk W1 w.heap.size 108 #[.pointer none, .nilFunc] := by rw [← hW1]; exact heap_alloc_last _ _
  have HB := Lib.hid hb
  have HBF : Hid (Below w.heap.size w W1) := Lib.hid (by rw [← hW1]; exact (Below.refl _ _).alloc (Nat.le_refl _) _)
  have bc0 : W1.cell? ⟨w.heap.size, 0, none⟩ = some (.pointer none) := hb.cell 0
  have bf0 : W1.frozen? ⟨w.heap.size, 0, none⟩ = false := hb.frozen 0
  have bc1 : W1.cell? ⟨w.heap.size, 1, none⟩ = some (.nilFunc) := hb.cell 1
  have bf1 : W1.frozen? ⟨w.heap.size, 1, none⟩ = false := hb.frozen 1
  have a2 := (HBF.out.cell (p := ⟨g, 2, none⟩) hg).trans h2
  have a3 := (HBF.out.cell (p := ⟨gs, m * 2, none⟩) hgs).trans h3
  have a4 := (HBF.out.cell (p := ⟨gs, m * 2 + 1, none⟩) hgs).trans h4
  have hle : w.heap.size ≤ w.heap.size := Nat.le_refl _
  have hsub : IntKind.i64.wrap (((m + 1 : Nat) : Int) - 1) = (m : Int) := by rw [IntWalk.i64_in _ ⟨by omega, by omega⟩]; omega
  have hsub2 : IntKind.i64.wrap (m : Int) = (m : Int) := IntWalk.i64_in _ ⟨by omega, by omega⟩
  have hlt : m < m + 1 := Nat.lt_succ_self m
  have hlt2 : (m : Int) < (m : Int) + 1 := by omega
  clear hb h2 h3 h4
  go_enter Tryz.func221, Tryz.ntmps221
  go_wp2_with fail
  go_region
  all_goals
    go_wp2_with fail
    exact bodyPost_ret (v := .agg #[.pointer (some ⟨q, 0, none⟩), .func (.func k) fs #[]]) (by simp [results, Tryz.results221, go_sem, bc0, bc1]) rfl ⟨rfl, (below_set2 HBF.out hle _ _).drew⟩
set_option maxRecDepth 100000 in
theorem made_yes (g n c : Nat) (A : Option Addr) (w : World) (h2 : w.cell? ⟨g, 2, none⟩ = some (.slice A (n + 1) c)) :
    Calls Tryz.prog 71 #[.pointer (some ⟨g, 0, none⟩)] w fun e w' => e = .returned (.bool true) ∧ Below w.heap.size w w' := by
  have hB := Below.refl w.heap.size w
  go_enter Tryz.func71, Tryz.ntmps71
  go_wp2_with fail
  go_ret
  exact ⟨rfl, hB⟩
end Go.Proofs.YtpcladdipgchbaaGreatDoor.nn
namespace Go.Proofs.YtpcladdipgchbaaGreatDoor.nn
open Go.RowKit

/-- what At answers: the value lies in new memory -/
def AtAns3 (r : Option VT) (W : World) (e : Ending) (W' : World) : Prop := ∃ C : Value, e = .returned (.tuple #[vv (atV r) C, .int .i64 (atE r : Int)]) ∧ Lsb W.heap.size W' C (atV r).l ∧ Below W.heap.size W W'
set_option maxRecDepth 100000 in
set_option maxHeartbeats 4000000 in
theorem vat0_any (w0 : World) (t : VT) (C : Value) (A : Option Addr) (zs : List Int) (c : Nat) (w : World) (h0 : Below w0.heap.size w0 w) (hC : Lst w0 C t.l) (hA : Ri w A zs) (hn : zs.length ≤ 4611686018427387904) (_ : zs.length ≤ c) (hb : cnt t ≤ 1099511627776) :
    Calls Tryz.prog 73 #[vv t C, .slice A zs.length c] w (AtAns3 (atP t zs) w) := by
  obtain ⟨R, hR⟩ : ∃ R, atP t zs = R := ⟨_, rfl⟩
  rw [hR]
  have HB0 := Lib.hid (Bx.new w t C zt (.slice none 0 0))
  have HR := Lib.hid hR
  clear hR
  unfold vv
  go_enter Tryz.func73, Tryz.ntmps73
  go_wp2_with fail
  go_loopw [10] (fun s6 wr => ∃ (i : Nat) (t' : VT) (C' : Value), i ≤ zs.length ∧ s6 = .int .i64 (i : Int) ∧ Hid (atP t' (zs.drop i) = R ∧ Lst w0 C' t'.l ∧ t'.l.length ≤ 4611686018427387904 ∧ cnt t' ≤ 1099511627776) ∧ Hid (Bx w t' C' zt (.slice none 0 0) wr)) (fun s6 _ => zs.length - (intOf s6).toNat)
  case atStart => exact ⟨0, t, C, Nat.zero_le _, rfl, Lib.hid ⟨HR.out, hC, by have := cnt_mk t; have := len_cntL t.l; omega, hb⟩, HB0⟩
  case round =>
    obtain ⟨i, t', C', hi, rfl, hI, hk⟩ := hrel
    obtain ⟨A', c', rfl, hlc, hA'⟩ := hI.out.2.1.out
    have hlb := hI.out.2.2.1
    obtain ⟨m, hm⟩ : ∃ m, t'.l.length = m := ⟨_, rfl⟩
    have hk1 := hk.out
    rw [hm] at hk1 hlc hlb
    have ac0 : wr.cell? ⟨w.heap.size, 0, none⟩ = some (.int .i64 t'.k) := hk1.r.cell 0
    have af0 : wr.frozen? ⟨w.heap.size, 0, none⟩ = false := hk1.r.frozen 0
    have ac1 : wr.cell? ⟨w.heap.size, 1, none⟩ = some (.bool t'.g) := hk1.r.cell 1
    have af1 : wr.frozen? ⟨w.heap.size, 1, none⟩ = false := hk1.r.frozen 1
    have ac2 : wr.cell? ⟨w.heap.size, 2, none⟩ = some (.int .u64 (t'.n : Int)) := hk1.r.cell 2
    have af2 : wr.frozen? ⟨w.heap.size, 2, none⟩ = false := hk1.r.frozen 2
    have ac3 : wr.cell? ⟨w.heap.size, 3, none⟩ = some (.string t'.s) := hk1.r.cell 3
    have af3 : wr.frozen? ⟨w.heap.size, 3, none⟩ = false := hk1.r.frozen 3
    have ac4 : wr.cell? ⟨w.heap.size, 4, none⟩ = some (.slice A' m c') := hk1.r.cell 4
    have af4 : wr.frozen? ⟨w.heap.size, 4, none⟩ = false := hk1.r.frozen 4
    have bc0 : wr.cell? ⟨w.heap.size + 1, 0, none⟩ = some (.int .i64 0) := hk1.r2.cell 0
    have bf0 : wr.frozen? ⟨w.heap.size + 1, 0, none⟩ = false := hk1.r2.frozen 0
    have bc1 : wr.cell? ⟨w.heap.size + 1, 1, none⟩ = some (.bool false) := hk1.r2.cell 1
    have bf1 : wr.frozen? ⟨w.heap.size + 1, 1, none⟩ = false := hk1.r2.frozen 1
    have bc2 : wr.cell? ⟨w.heap.size + 1, 2, none⟩ = some (.int .u64 0) := hk1.r2.cell 2
    have bf2 : wr.frozen? ⟨w.heap.size + 1, 2, none⟩ = false := hk1.r2.frozen 2
    have bc3 : wr.cell? ⟨w.heap.size + 1, 3, none⟩ = some (.string ⟨#[]⟩) := hk1.r2.cell 3
    have bf3 : wr.frozen? ⟨w.heap.size + 1, 3, none⟩ = false := hk1.r2.frozen 3
    have bc4 : wr.cell? ⟨w.heap.size + 1, 4, none⟩ = some (.slice none 0 0) := hk1.r2.cell 4
    have bf4 : wr.frozen? ⟨w.heap.size + 1, 4, none⟩ = false := hk1.r2.frozen 4
    by_cases hlt : i < zs.length
    · rcases hA with hz0 | ⟨b, off, rfl, hbl, hcell⟩
      · rw [hz0] at hlt; exact absurd hlt (by simp)
      have hz := (hk.out.b.cell (p := ⟨b, off + i, none⟩) hbl).trans (hcell i hlt)
      obtain ⟨z, hzz⟩ : ∃ z, zs[i] = z := ⟨_, rfl⟩
      have hno := @atP_no t' zs i hlt
      rw [hzz, hm] at hno
      rw [hzz] at hz
      by_cases hbad : z < 0 ∨ 0 ≤ z ∧ (m : Int) ≤ z
      · have HN : Hid (R = none) := Lib.hid (by rw [← hI.out.1]; exact hno (by omega))
        have hgb : w.heap.size ≤ w.heap.size + 1 := Nat.le_succ _
        have HBF : Hid (Below w.heap.size w wr) := Lib.hid hk.out.b
        clear hno hcell hA' hm hzz hk1
        rcases hbad with hz0 | ⟨hz0, hz1⟩
        all_goals
          go_wp2_with fail
          exact bodyPost_ret (v := .tuple #[.agg #[.int .i64 0, .bool false, .int .u64 0, .string ⟨#[]⟩, .slice none 0 0], .int .i64 1]) (by simp [results, Tryz.results73, go_sem, bc0, bc1, bc2, bc3, bc4]) rfl ⟨.slice none 0 0, by rw [HN.out]; rfl, by rw [HN.out]; exact .nil_, below_set5 HBF.out hgb _ _ _ _ _⟩
      · obtain ⟨j, rfl⟩ : ∃ j : Nat, z = (j : Int) := ⟨z.toNat, by omega⟩
        have hjm : j < m := by omega
        have hj2 : j < t'.l.length := by omega
        rcases hA' with ⟨_, hz0, _⟩ | ⟨b2, off2, DD, rfl, hb2, hrow, hkid⟩
        · rw [hz0] at hj2; exact absurd hj2 (by simp)
        obtain ⟨u, hu⟩ : ∃ u, t'.l[j] = u := ⟨_, rfl⟩
        obtain ⟨Cu, hCu⟩ : ∃ u, DD j = u := ⟨_, rfl⟩
        have hr := (hrow j hj2).below (h0.trans (hk.out.b.mono h0.size)) hb2
        have hkl := hkid j hj2
        have hon2 := atP_on hlt hzz hj2
        have hcn := cnt_at hj2
        rw [hu, hCu] at hr hkl
        rw [hu] at hon2 hcn
        obtain ⟨Au, cu, rfl, _, _⟩ := hkl.out
        have q0 := hr.k
        have q1 := hr.g
        have q2 := hr.n
        have q3 := hr.s
        have q4 := hr.l
        have hI2 : Hid (atP u (zs.drop (i + 1)) = R ∧ Lst w0 (.slice Au u.l.length cu) u.l ∧ u.l.length ≤ 4611686018427387904 ∧ cnt u ≤ 1099511627776) := Lib.hid ⟨by rw [← hon2]; exact hI.out.1, hkl, by
          have h1 := cnt_mk u; have h2 := len_cntL u.l; have h3 := cnt_mk t'; have := hI.out.2.2.2; omega, by have h3 := cnt_mk t'; have := hI.out.2.2.2; omega⟩
        have K := Lib.hid (And.intro hk1.b (And.intro hk1.r hk1.r2))
        have hne : w.heap.size ≠ w.heap.size + 1 := by omega
        clear hno hon2 hcell hm hzz hk1 hr hkl hrow hkid hu hCu hcn hj2 hbad
        go_wp2_with fail
        go_roundw
        case rel => exact ⟨i + 1, u, .slice Au u.l.length cu, hlt, by go_num, hI2, Lib.hid ⟨below_set5 K.out.1 (Nat.le_refl _) _ _ _ _ _, bk_set5 (t := t') (C := .slice (some ⟨b2, off2, none⟩) m c') K.out.2.1 _ _ _ _ _, bk_other5 K.out.2.2 hne _ _ _ _ _⟩⟩
        case measure => simp [intOf]; omega
    · obtain rfl : i = zs.length := by omega
      have HN : Hid (R = some t') := Lib.hid (by have := hI.out.1; rw [List.drop_length] at this; rw [← this]; rfl)
      have HL : Hid (Lst w0 (.slice A' m c') t'.l) := Lib.hid (by have := hI.out.2.1; rw [hm] at this; exact this)
      have HCL : Hid (Calls Tryz.prog 115 #[vv t' (.slice A' m c')] wr (DcAns t' wr)) := Lib.hid (vclone_any _ (Nat.le_refl _) t' (.slice A' m c') wr hI.out.2.2.2 (HL.out.keep (h0.trans (hk.out.b.mono h0.size)) (Nat.le_refl _)))
      have hzw := hk1.r2.lt
      have HK := Lib.hid (And.intro hk1.r2 (And.intro hk1.b hzw))
      obtain ⟨m', hm'⟩ : ∃ m', t'.l.length = m' := ⟨_, rfl⟩
      have HMM := Lib.hid hm'
      clear hA' hm hk1 hzw hm'
      unfold vv at HCL
      go_wp2_with fail
      refine HCL.out.mono ?_
      rintro e w2 ⟨A2, c2, rfl, hl2, hb2⟩
      rw [HMM.out] at hl2 ⊢
      unfold vv
      have b0 := HK.out.1.below hb2 HK.out.2.2
      have B2 := Lib.hid (HK.out.2.1.trans (hb2.mono HK.out.2.1.size))
      have HL2 := Lib.hid hl2
      have HZ := Lib.hid HK.out.2.2
      have g0 := b0.cell 0
      have g1 := b0.cell 1
      have g2 := b0.cell 2
      have g3 := b0.cell 3
      have g4 := b0.cell 4
      have gf0 := b0.frozen 0
      have gf1 := b0.frozen 1
      have gf2 := b0.frozen 2
      have gf3 := b0.frozen 3
      have gf4 := b0.frozen 4
      simp only [vc, List.getElem?_toArray, List.getElem?_cons_zero, List.getElem?_cons_succ] at g0 g1 g2 g3 g4
      have HS := Lib.hid (bk_set5 (t := zt) (C := .slice none 0 0) b0 (.int .i64 t'.k) (.bool t'.g) (.int .u64 (t'.n : Int)) (.string t'.s) (.slice A2 m' c2))
      clear b0 hl2 hb2 ac0 ac1 ac2 ac3 ac4 af0 af1 af2 af3 af4 bc0 bc1 bc2 bc3 bc4 bf0 bf1 bf2 bf3 bf4 HCL
      go_wp2_with fail
      have d0 := HS.out.cell 0
      have d1 := HS.out.cell 1
      have d2 := HS.out.cell 2
      have d3 := HS.out.cell 3
      have d4 := HS.out.cell 4
      simp only [List.getElem?_toArray, List.getElem?_cons_zero, List.getElem?_cons_succ] at d0 d1 d2 d3 d4
      refine bodyPost_ret (v := .tuple #[.agg #[.int .i64 t'.k, .bool t'.g, .int .u64 (t'.n : Int), .string t'.s, .slice A2 m' c2], .int .i64 0]) (by simp [results, Tryz.results73, go_sem, d0, d1, d2, d3, d4]) rfl ⟨.slice A2 m' c2, by rw [HN.out]; rfl, ?_, below_set5 B2.out (Nat.le_succ _) _ _ _ _ _⟩
      rw [HN.out]
      exact (HL2.out.keep (Nat.le_of_eq (set5_size w2 (w.heap.size + 1) 0 _ _ _ _ _).symm) fun b hb _ => set5_other w2 (w.heap.size + 1) 0 _ _ _ _ _ b (by have := HZ.out; omega)).low (by have := HZ.out; omega)
end Go.Proofs.YtpcladdipgchbaaGreatDoor.nn
namespace Go.Proofs.YtpcladdipgchbaaGreatDoor.nn
open Go.RowKit

theorem Bk.al {W : World} {g : Nat} {T : TypeId} {cs : Array Value} (h : Bk W g T cs) (o : Obj) : Bk (W.alloc o) g T cs := (Below.heap_alloc _ _ _ h.lt).trans h
end Go.Proofs.YtpcladdipgchbaaGreatDoor.nn
