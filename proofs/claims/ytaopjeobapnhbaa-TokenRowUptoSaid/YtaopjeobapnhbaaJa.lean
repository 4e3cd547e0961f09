/- Joined texts, what is wanted of them: Utf, Behind, Take, Bt, TakeAll, Bits, PointOf, RefNeed, Drew, RefWithin, Check, Point, Encode, EncNum, Pars, Esc, Num, Mem, Append, Bytes, List, EscNum, EsA, DivNum, DivFacts. -/
import Derived.Test.YtaopjeobapnhbaaProg
import Derived.WalkKit
import Derived.Lib.Hide
import Derived.Deep.CutBlock
import Derived.BigQuiet
import Derived.Deep.QuietTactic
import Derived.Deep.DeepCutAuto
import Derived.KernelRfl
import Derived.Below
import Derived.Deep.WholeRow
import Derived.Great.Walk
import Derived.Laws.BitsAllLaws
import Derived.RowKit
import Derived.IntWalk
import Derived.Test.YtaopjeobapnhbaaShelf
import Derived.Lib.MinMax
import Derived.Laws.BytesArg
import Derived.Laws.OwnMore
import Derived.Deep.AppendLies
import Derived.Deep.Draws
import Derived.Maps.AppendAt
import Derived.RegionTactic
import Derived.OwnWalk
import Derived.Deep.RegionLaw
import Derived.Lib.UnsafeStr
import Derived.Lib.AppendStr
import Derived.Lib.BitFns
import Derived.WalkSpells
import Derived.Laws.Rows
import Derived.Laws.Externs
import Derived.Deep.RegionHeld3
import Derived.Deep.RegionWith
import Derived.Deep.CutRange
import Derived.Deep.LoopGhost
import Derived.Laws.BitsLemmas
import Derived.Shelf.Spec.BitsCarry
import Derived.Laws.Bits64
import Derived.Laws.CopyOwn
import Derived.StillTailTactics
import Derived.Lib.Builder
import Derived.Lib.MakeNoZero
import Derived.OneCell
import Derived.BigRegion
import Derived.Test.YtaopjeobapnhbaaShelfR
import Derived.RangeFuncNested
import Derived.RangeFuncBound
import Derived.RangeFuncCalls
import Derived.RangeFuncLeaves
import Derived.Shelf.Abstract
import Derived.Shelf.RegionOpen
import Derived.OwnWalkIn
import Derived.TacticsInMore
import Derived.Laws.AppendOwn
import Derived.Maps.OwnIn
import Derived.RangeFuncBox
import Derived.Test.YtaopjeobapnhbaaRows
import Derived.ProofKit
import Derived.SizedLaws
import Derived.ChangeMaps5
namespace Go.Proofs.Ytaopjeobapnhbaa.nn

/-- how many bytes a code point has that begins with x; 0: none does -/
def nd (x : Nat) : Nat := if x < 128 then 1 else if 194 ≤ x ∧ x ≤ 223 then 2 else if 224 ≤ x ∧ x ≤ 239 then 3 else if 240 ≤ x ∧ x ≤ 244 then 4 else 0
/-- the least and the greatest byte at place j of a code point that begins with x -/
def lt_ (x j : Nat) : Nat := if j = 1 then (if x = 224 then 160 else if x = 240 then 144 else 128) else 128
def mt_ (x j : Nat) : Nat := if j = 1 then (if x = 237 then 159 else if x = 244 then 143 else 191) else 191
def my (x j y : Nat) : Bool := decide (lt_ x j ≤ y ∧ y ≤ mt_ x j)

/-- what is due: so many bytes, the next one between low and high -/
structure Tl where
  c : Nat
  lo : Nat
  hi : Nat

def t0 : Tl := ⟨0, 0, 0⟩
def bh (x : Nat) : Tl := if nd x ≤ 1 then t0 else ⟨nd x - 1, lt_ x 1, mt_ x 1⟩
def ok (t : Tl) (x : Nat) : Bool := if t.c = 0 then decide (nd x ≠ 0) else decide (t.lo ≤ x ∧ x ≤ t.hi)
def nx (t : Tl) (x : Nat) : Tl := if t.c = 0 then bh x else if t.lo ≤ x ∧ x ≤ t.hi then ⟨t.c - 1, 128, 191⟩ else t

/-- the state behind i bytes from state t on, and whether all of them were taken -/
def go (f : Nat → Nat) (t : Tl) : Nat → Tl × Bool
  | 0 => (t, true)
  | i + 1 => if (go f t i).2 then (nx (go f t i).1 (f i), ok (go f t i).1 (f i)) else go f t i
def al (f : Nat → Nat) (t : Tl) (i : Nat) : Bool := (go f t i).2
def tk (f : Nat → Nat) (t : Tl) (i : Nat) : Tl := (go f t i).1
/-- how many of n bytes are taken -/
def sp (f : Nat → Nat) (t : Tl) : Nat → Nat
  | 0 => 0
  | n + 1 => if al f t (n + 1) then n + 1 else sp f t n

section
variable {f g : Nat → Nat} {t : Tl} {i j n m p : Nat}
theorem al_zero : al f t 0 = true := rfl
theorem tk_zero : tk f t 0 = t := rfl
theorem al_succ : al f t (i + 1) = (al f t i && ok (tk f t i) (f i)) := by
  unfold al tk
  rw [go]
  by_cases h : (go f t i).2 <;> simp [h]
theorem tk_succ (h : al f t i = true) : tk f t (i + 1) = nx (tk f t i) (f i) := by
  unfold al at h
  unfold tk
  rw [go, if_pos h]
theorem al_mono (h : al f t n = true) (hm : m ≤ n) : al f t m = true := by
  induction n with
  | zero => obtain rfl : m = 0 := by omega
            exact h
  | succ n ih =>
    rw [al_succ, Bool.and_eq_true] at h
    by_cases e : m = n + 1
    · subst e; rw [al_succ, h.1, h.2]; rfl
    · exact ih h.1 (by omega)
theorem dead (h : al f t m = false) (hm : m ≤ n) : al f t n = false := by
  cases hn : al f t n with
  | false => rfl
  | true => rw [al_mono hn hm] at h; cases h
theorem sp_le : sp f t n ≤ n := by
  induction n with
  | zero => simp [sp]
  | succ n ih => rw [sp]; split <;> omega
theorem sp_all (h : al f t n = true) : sp f t n = n := by
  cases n with
  | zero => rfl
  | succ n => rw [sp, if_pos h]
theorem sp_stop (h : al f t p = true) (h' : al f t (p + 1) = false) (hp : p ≤ n) : sp f t n = p := by
  induction n with
  | zero => obtain rfl : p = 0 := by omega
            rfl
  | succ n ih =>
    by_cases e : p = n + 1
    · subst e; rw [sp, if_pos h]
    · rw [sp, if_neg (by rw [dead h' (by omega)]; decide)]
      exact ih (by omega)
theorem al_sp : al f t (sp f t n) = true := by
  induction n with
  | zero => rfl
  | succ n ih =>
    rw [sp]
    by_cases h : al f t (n + 1) = true
    · rw [if_pos h]; exact h
    · rw [if_neg h]; exact ih
theorem sp_lt (h : al f t n = false) : sp f t n < n ∧ al f t (sp f t n + 1) = false := by
  induction n with
  | zero => cases h
  | succ n ih =>
    rw [sp, if_neg (by rw [h]; decide)]
    by_cases e : al f t n = true
    · rw [sp_all e]; exact ⟨by omega, h⟩
    · have := ih (by simpa using e)
      exact ⟨by omega, this.2⟩
theorem go_congr (e : ∀ i, i < n → f i = g i) : go f t n = go g t n := by
  induction n with
  | zero => rfl
  | succ n ih =>
    have h := ih fun i hi => e i (by omega)
    rw [go, go, h, e n (by omega)]
theorem al_congr (e : ∀ i, i < n → f i = g i) : al f t n = al g t n := by unfold al; rw [go_congr e]
theorem tk_congr (e : ∀ i, i < n → f i = g i) : tk f t n = tk g t n := by unfold tk; rw [go_congr e]
theorem sp_congr (e : ∀ i, i < n → f i = g i) : sp f t n = sp g t n := by
  induction n with
  | zero => rfl
  | succ n ih => rw [sp, sp, al_congr e, ih fun i hi => e i (by omega)]
/-- going on behind m bytes -/
theorem go_add (h : al f t m = true) : go f t (m + n) = go (fun i => f (m + i)) (tk f t m) n := by
  induction n with
  | zero => rw [Nat.add_zero]; exact Prod.ext rfl h
  | succ n ih => rw [← Nat.add_assoc, go, go, ih]
theorem al_add (h : al f t m = true) : al f t (m + n) = al (fun i => f (m + i)) (tk f t m) n := by unfold al; rw [go_add h]
theorem tk_add (h : al f t m = true) : tk f t (m + n) = tk (fun i => f (m + i)) (tk f t m) n := by
  show (go f t (m + n)).1 = (go _ _ n).1
  rw [go_add h]
theorem sp_add (h : al f t m = true) : sp f t (m + n) = m + sp (fun i => f (m + i)) (tk f t m) n := by
  induction n with
  | zero => rw [Nat.add_zero, sp_all h]; rfl
  | succ n ih =>
    rw [← Nat.add_assoc, sp, sp, Nat.add_assoc, al_add h]
    split
    · rfl
    · exact ih
end

/-- the states that are met -/
def Gd (t : Tl) : Prop := t.c = 0 ∨ (t.c = 1 ∧ t.lo = 128 ∧ t.hi = 191) ∨ (t.c = 2 ∧ (t.lo = 160 ∧ t.hi = 191 ∨ t.lo = 128 ∧ t.hi = 191 ∨ t.lo = 128 ∧ t.hi = 159)) ∨
  (t.c = 3 ∧ (t.lo = 144 ∧ t.hi = 191 ∨ t.lo = 128 ∧ t.hi = 191 ∨ t.lo = 128 ∧ t.hi = 143))
theorem gd_zero : Gd t0 := .inl rfl
theorem nd_cases (x : Nat) : (x < 128 ∧ nd x = 1) ∨ (194 ≤ x ∧ x ≤ 223 ∧ nd x = 2) ∨ (224 ≤ x ∧ x ≤ 239 ∧ nd x = 3) ∨ (240 ≤ x ∧ x ≤ 244 ∧ nd x = 4) ∨ ((128 ≤ x ∧ x < 194 ∨ 244 < x) ∧ nd x = 0) := by
  unfold nd
  repeat' split
  all_goals omega
theorem lt_cases (x : Nat) : (x = 224 ∧ lt_ x 1 = 160) ∨ (x = 240 ∧ lt_ x 1 = 144) ∨ (x ≠ 224 ∧ x ≠ 240 ∧ lt_ x 1 = 128) := by
  unfold lt_
  rw [if_pos rfl]
  repeat' split
  all_goals omega
theorem mt_cases (x : Nat) : (x = 237 ∧ mt_ x 1 = 159) ∨ (x = 244 ∧ mt_ x 1 = 143) ∨ (x ≠ 237 ∧ x ≠ 244 ∧ mt_ x 1 = 191) := by
  unfold mt_
  rw [if_pos rfl]
  repeat' split
  all_goals omega
theorem gd_bh (x : Nat) : Gd (bh x) := by
  have h1 := nd_cases x
  have h2 := lt_cases x
  have h3 := mt_cases x
  unfold bh
  split
  · exact gd_zero
  · unfold Gd
    dsimp only
    omega
theorem gd_nx {t : Tl} (h : Gd t) (x : Nat) : Gd (nx t x) := by
  unfold nx
  split
  · exact gd_bh x
  · split
    · unfold Gd at h ⊢
      dsimp only
      omega
    · exact h
theorem gd_go {f : Nat → Nat} {t : Tl} (h : Gd t) (i : Nat) : Gd (tk f t i) := by
  induction i with
  | zero => exact h
  | succ i ih =>
    unfold tk at ih ⊢
    rw [go]
    split
    · exact gd_nx ih _
    · exact ih
theorem gd_lt {t : Tl} (h : Gd t) : t.c < 4 := by unfold Gd at h; omega

/-- what Check answers -/
def ckA (f : Nat → Nat) (n : Nat) : Nat := sp f t0 n
def ckE (f : Nat → Nat) (n : Nat) : Nat := if al f t0 n then (if (tk f t0 n).c = 0 then 0 else 3) else 4

/-- all of i bytes may stand in a text of N bytes (N below 0: of however many) -/
def aw (f : Nat → Nat) (N : Int) : Nat → Bool
  | 0 => true
  | i + 1 => aw f N i && (al f t0 (i + 1) && decide (N < 0 ∨ ((tk f t0 (i + 1)).c : Int) + (i + 1) ≤ N))
def spw (f : Nat → Nat) (N : Int) : Nat → Nat
  | 0 => 0
  | n + 1 => if aw f N (n + 1) then n + 1 else spw f N n
/-- what is told of m bytes that stand in a text of N bytes -/
def wE (f : Nat → Nat) (N : Int) (m : Nat) : Nat := if aw f N m then (if (tk f t0 m).c ≠ 0 ∨ (m : Int) < N then 3 else 0) else 4

section
variable {f g : Nat → Nat} {N : Int} {i j k n m p : Nat}
theorem aw_mono (h : aw f N n = true) (hm : m ≤ n) : aw f N m = true := by
  induction n with
  | zero => obtain rfl : m = 0 := by omega
            exact h
  | succ n ih =>
    by_cases e : m = n + 1
    · subst e; exact h
    · rw [aw, Bool.and_eq_true] at h
      exact ih h.1 (by omega)
theorem aw_dead (h : aw f N m = false) (hm : m ≤ n) : aw f N n = false := by
  cases hn : aw f N n with
  | false => rfl
  | true => rw [aw_mono hn hm] at h; cases h
theorem spw_all (h : aw f N n = true) : spw f N n = n := by
  cases n with
  | zero => rfl
  | succ n => rw [spw, if_pos h]
theorem spw_stop (h : aw f N p = true) (h' : aw f N (p + 1) = false) (hp : p ≤ n) : spw f N n = p := by
  induction n with
  | zero => obtain rfl : p = 0 := by omega
            rfl
  | succ n ih =>
    by_cases e : p = n + 1
    · subst e; rw [spw, if_pos h]
    · rw [spw, if_neg (by rw [aw_dead h' (by omega)]; decide)]
      exact ih (by omega)
theorem aw_al (h : aw f N n = true) : al f t0 n = true := by
  cases n with
  | zero => rfl
  | succ n =>
    rw [aw, Bool.and_eq_true, Bool.and_eq_true] at h
    exact h.2.1
theorem aw_room (h : aw f N n = true) (h0 : 0 < n) : N < 0 ∨ ((tk f t0 n).c : Int) + n ≤ N := by
  obtain ⟨n, rfl⟩ : ∃ j, n = j + 1 := ⟨n - 1, by omega⟩
  rw [aw, Bool.and_eq_true, Bool.and_eq_true] at h
  have := of_decide_eq_true h.2.2
  omega
theorem aw_mk (h : aw f N n = true) (ha : al f t0 (n + 1) = true) (hr : N < 0 ∨ ((tk f t0 (n + 1)).c : Int) + (n + 1) ≤ N) : aw f N (n + 1) = true := by
  rw [aw, h, ha, Bool.true_and, Bool.true_and]
  exact decide_eq_true hr
theorem aw_neg (h : N < 0) : aw f N n = al f t0 n := by
  induction n with
  | zero => rfl
  | succ n ih =>
    rw [aw, ih, decide_eq_true (.inl h), Bool.and_true]
    cases e : al f t0 (n + 1) with
    | false => rw [Bool.and_false]
    | true => rw [al_mono e (Nat.le_succ n)]; rfl
theorem spw_neg (h : N < 0) : spw f N n = sp f t0 n := by
  induction n with
  | zero => rfl
  | succ n ih => rw [spw, sp, aw_neg h, ih]
theorem wE_neg (h : N < 0) : wE f N m = ckE f m := by
  unfold wE ckE
  rw [aw_neg h]
  by_cases hc : (tk f t0 m).c = 0
  · rw [if_pos hc, if_neg (show ¬ ((tk f t0 m).c ≠ 0 ∨ (m : Int) < N) by omega)]
  · rw [if_neg hc, if_pos (show ((tk f t0 m).c ≠ 0 ∨ (m : Int) < N) from .inl hc)]
/-- what is due never ends later than it did before -/
theorem due_step (h : al f t0 (i + 1) = true) (hc : (tk f t0 i).c ≠ 0) : (tk f t0 (i + 1)).c + (i + 1) = (tk f t0 i).c + i := by
  rw [al_succ, Bool.and_eq_true] at h
  rw [tk_succ h.1]
  have h2 := h.2
  unfold ok at h2
  unfold nx
  rw [if_neg hc] at h2 ⊢
  rw [if_pos (of_decide_eq_true h2)]
  show (tk f t0 i).c - 1 + (i + 1) = _
  omega

/-! one code point, byte by byte -/
/-- j of the k bytes of the code point that begins at i have come -/
def In (f : Nat → Nat) (i j k : Nat) : Prop := (tk f t0 (i + j)).c = k - j ∧ (j < k → (tk f t0 (i + j)).lo = lt_ (f i) j ∧ (tk f t0 (i + j)).hi = mt_ (f i) j)

theorem first_no (ha : al f t0 i = true) (hc : (tk f t0 i).c = 0) (h : nd (f i) = 0 ∨ 0 ≤ N ∧ N < (nd (f i) : Int) + i) : aw f N (i + 1) = false := by
  rw [aw]
  by_cases h0 : nd (f i) = 0
  · have : al f t0 (i + 1) = false := by
      rw [al_succ, ha]
      unfold ok
      rw [if_pos hc, h0]
      rfl
    rw [this]
    simp
  · have hr : ¬ (N < 0 ∨ ((tk f t0 (i + 1)).c : Int) + (i + 1) ≤ N) := by
      rw [tk_succ ha]
      unfold nx bh
      rw [if_pos hc]
      split
      · simp only [t0]; omega
      · dsimp only; omega
    rw [decide_eq_false hr]
    simp
theorem first_yes (hw : aw f N i = true) (hc : (tk f t0 i).c = 0) (h0 : nd (f i) ≠ 0) (h : N < 0 ∨ (nd (f i) : Int) + i ≤ N) : aw f N (i + 1) = true ∧ In f i 1 (nd (f i)) := by
  have ha := aw_al hw
  have ha1 : al f t0 (i + 1) = true := by
    rw [al_succ, ha]
    unfold ok
    rw [if_pos hc, decide_eq_true h0]
    rfl
  have ht : tk f t0 (i + 1) = bh (f i) := by
    rw [tk_succ ha]
    unfold nx
    rw [if_pos hc]
  have hd : (bh (f i)).c = nd (f i) - 1 ∧ (1 < nd (f i) → (bh (f i)).lo = lt_ (f i) 1 ∧ (bh (f i)).hi = mt_ (f i) 1) := by
    unfold bh
    split
    · exact ⟨by simp only [t0]; omega, fun h => by omega⟩
    · exact ⟨rfl, fun _ => ⟨rfl, rfl⟩⟩
  refine ⟨aw_mk hw ha1 ?_, ?_⟩
  · rw [ht, hd.1]; omega
  · unfold In
    rw [ht]
    exact hd
theorem next_no (ha : al f t0 (i + j) = true) (hi : In f i j k) (hj : j < k) (h : my (f i) j (f (i + j)) = false) : al f t0 (i + j + 1) = false := by
  obtain ⟨h1, h2⟩ := hi
  obtain ⟨h3, h4⟩ := h2 hj
  rw [al_succ, ha]
  unfold ok
  rw [if_neg (by omega), h3, h4]
  exact h
theorem next_yes (hw : aw f N (i + j) = true) (hi : In f i j k) (hj : j < k) (h1 : 1 ≤ j) (h : my (f i) j (f (i + j)) = true) : aw f N (i + j + 1) = true ∧ In f i (j + 1) k := by
  obtain ⟨e1, e2⟩ := hi
  obtain ⟨e3, e4⟩ := e2 hj
  have ha := aw_al hw
  have ha1 : al f t0 (i + j + 1) = true := by
    rw [al_succ, ha]
    unfold ok
    rw [if_neg (by omega), e3, e4]
    exact h
  refine ⟨aw_mk hw ha1 ?_, ?_⟩
  · have := due_step ha1 (by omega)
    have := aw_room hw (by omega)
    omega
  · unfold In
    rw [← Nat.add_assoc, tk_succ ha]
    unfold nx
    rw [if_neg (by omega), e3, e4, if_pos (of_decide_eq_true h), e1]
    refine ⟨by dsimp only; omega, fun _ => ⟨?_, ?_⟩⟩
    · unfold lt_; rw [if_neg (by omega)]
    · unfold mt_; rw [if_neg (by omega)]
theorem in_end (h : In f i k k) : (tk f t0 (i + k)).c = 0 := by rw [h.1]; omega
/-- the answers -/
theorem ans_no (hw : aw f N p = true) (h : aw f N (p + 1) = false) (hp : p < m) : spw f N m = p ∧ wE f N m = 4 :=
  ⟨spw_stop hw h (by omega), by unfold wE; rw [if_neg (by rw [aw_dead h (by omega)]; decide)]⟩
theorem ans_short (hw : aw f N m = true) (hi : (tk f t0 m).c ≠ 0) : spw f N m = m ∧ wE f N m = 3 :=
  ⟨spw_all hw, by unfold wE; rw [if_pos hw, if_pos (.inl hi)]⟩
theorem ans_less (hw : aw f N m = true) (hi : (m : Int) < N) : spw f N m = m ∧ wE f N m = 3 :=
  ⟨spw_all hw, by unfold wE; rw [if_pos hw, if_pos (.inr hi)]⟩
theorem ans_all (hw : aw f N m = true) (hi : (tk f t0 m).c = 0) (h : ¬ (m : Int) < N) : spw f N m = m ∧ wE f N m = 0 :=
  ⟨spw_all hw, by unfold wE; rw [if_pos hw, if_neg (by omega)]⟩
end
end Go.Proofs.Ytaopjeobapnhbaa.nn
namespace Go.Proofs.Ytaopjeobapnhbaa.nn
open Go.RowKit Go.Great

def tlv (t : Tl) : Value := .agg #[.int .i64 (t.c : Int), .int .u8 (t.lo : Int), .int .u8 (t.hi : Int)]

def tab : Array Value := #[.int .u8 194, .int .u8 223, .int .i64 1, .int .u8 128, .int .u8 191, .int .u8 224, .int .u8 224, .int .i64 2, .int .u8 160, .int .u8 191,
  .int .u8 225, .int .u8 236, .int .i64 2, .int .u8 128, .int .u8 191, .int .u8 237, .int .u8 237, .int .i64 2, .int .u8 128, .int .u8 159,
  .int .u8 238, .int .u8 239, .int .i64 2, .int .u8 128, .int .u8 191, .int .u8 240, .int .u8 240, .int .i64 3, .int .u8 144, .int .u8 191,
  .int .u8 241, .int .u8 243, .int .i64 3, .int .u8 128, .int .u8 191, .int .u8 244, .int .u8 244, .int .i64 3, .int .u8 128, .int .u8 143]
/-- row k of the table -/
def bfr : Nat → Nat | 0 => 194 | 1 => 224 | 2 => 225 | 3 => 237 | 4 => 238 | 5 => 240 | 6 => 241 | _ => 244
def to_ : Nat → Nat | 0 => 223 | 1 => 224 | 2 => 236 | 3 => 237 | 4 => 239 | 5 => 240 | 6 => 243 | _ => 244
def tc : Nat → Nat | 0 => 1 | 1 => 2 | 2 => 2 | 3 => 2 | 4 => 2 | _ => 3
def tl : Nat → Nat | 1 => 160 | 5 => 144 | _ => 128
def th : Nat → Nat | 3 => 159 | 7 => 143 | _ => 191

def zer : Array Value := #[.int .u8 0, .int .u8 0, .int .i64 0, .int .u8 0, .int .u8 0, .int .u8 0, .int .u8 0, .int .i64 0, .int .u8 0, .int .u8 0,
  .int .u8 0, .int .u8 0, .int .i64 0, .int .u8 0, .int .u8 0, .int .u8 0, .int .u8 0, .int .i64 0, .int .u8 0, .int .u8 0,
  .int .u8 0, .int .u8 0, .int .i64 0, .int .u8 0, .int .u8 0, .int .u8 0, .int .u8 0, .int .i64 0, .int .u8 0, .int .u8 0,
  .int .u8 0, .int .u8 0, .int .i64 0, .int .u8 0, .int .u8 0, .int .u8 0, .int .u8 0, .int .i64 0, .int .u8 0, .int .u8 0]
theorem bhsz (w : World) (o : Obj) : (w.alloc o).heap.size = w.heap.size + 1 := by simp
theorem last2 (w : World) (o o' : Obj) : ((w.alloc o).alloc o').heap[w.heap.size + 1]? = some o' := by
  have := heap_alloc_last (w.alloc o) o'
  simpa using this
theorem setRow2 (w : World) (o : Obj) (c c' : Array Value) (t : TypeId) : ((w.alloc o).alloc (.cells c t)).setRow (w.heap.size + 1) c' = (w.alloc o).alloc (.cells c' t) := by
  have := World.setRow_alloc_new (w.alloc o) c c' t
  simpa using this
set_option maxRecDepth 100000 in
theorem ix (k : Nat) (h : k < 8) (w : World) : (Instr.index 100 (.agg tab) (.int .i64 (k : Int))).run Try.prog w = .ok (.agg #[.int .u8 (bfr k : Int), .int .u8 (to_ k : Int), .int .i64 (tc k : Int), .int .u8 (tl k : Int), .int .u8 (th k : Int)]) w := by
  match k, h with
  | 0, _ => exact (by kernel_rfl : (Instr.index 100 (.agg tab) (.int .i64 0)).run Try.prog w = .ok (.agg #[.int .u8 194, .int .u8 223, .int .i64 1, .int .u8 128, .int .u8 191]) w)
  | 1, _ => exact (by kernel_rfl : (Instr.index 100 (.agg tab) (.int .i64 1)).run Try.prog w = .ok (.agg #[.int .u8 224, .int .u8 224, .int .i64 2, .int .u8 160, .int .u8 191]) w)
  | 2, _ => exact (by kernel_rfl : (Instr.index 100 (.agg tab) (.int .i64 2)).run Try.prog w = .ok (.agg #[.int .u8 225, .int .u8 236, .int .i64 2, .int .u8 128, .int .u8 191]) w)
  | 3, _ => exact (by kernel_rfl : (Instr.index 100 (.agg tab) (.int .i64 3)).run Try.prog w = .ok (.agg #[.int .u8 237, .int .u8 237, .int .i64 2, .int .u8 128, .int .u8 159]) w)
  | 4, _ => exact (by kernel_rfl : (Instr.index 100 (.agg tab) (.int .i64 4)).run Try.prog w = .ok (.agg #[.int .u8 238, .int .u8 239, .int .i64 2, .int .u8 128, .int .u8 191]) w)
  | 5, _ => exact (by kernel_rfl : (Instr.index 100 (.agg tab) (.int .i64 5)).run Try.prog w = .ok (.agg #[.int .u8 240, .int .u8 240, .int .i64 3, .int .u8 144, .int .u8 191]) w)
  | 6, _ => exact (by kernel_rfl : (Instr.index 100 (.agg tab) (.int .i64 6)).run Try.prog w = .ok (.agg #[.int .u8 241, .int .u8 243, .int .i64 3, .int .u8 128, .int .u8 191]) w)
  | 7, _ => exact (by kernel_rfl : (Instr.index 100 (.agg tab) (.int .i64 7)).run Try.prog w = .ok (.agg #[.int .u8 244, .int .u8 244, .int .i64 3, .int .u8 128, .int .u8 143]) w)
theorem row_le (k : Nat) : bfr k < 256 ∧ to_ k < 256 ∧ tc k < 4 ∧ tl k < 256 ∧ th k < 256 := by
  refine ⟨?_, ?_, ?_, ?_, ?_⟩
  · unfold bfr; split <;> omega
  · unfold to_; split <;> omega
  · unfold tc; split <;> omega
  · unfold tl; split <;> omega
  · unfold th; split <;> omega
/-- the row that holds x tells its tail -/
theorem row_yes {k x : Nat} (hk : k < 8) (h1 : bfr k ≤ x) (h2 : x ≤ to_ k) : bh x = ⟨tc k, tl k, th k⟩ ∧ nd x ≠ 0 := by
  match k, hk with
  | 0, _ | 1, _ | 2, _ | 3, _ | 4, _ | 5, _ | 6, _ | 7, _ =>
    simp only [bfr, to_] at h1 h2
    have a := nd_cases x
    have b := lt_cases x
    have c := mt_cases x
    unfold bh
    rw [if_neg (by omega), Tl.mk.injEq]
    simp only [tc, tl, th]
    omega
theorem row_no {x : Nat} (hx : 127 < x) (h : ∀ k, k < 8 → ¬ (bfr k ≤ x ∧ x ≤ to_ k)) : bh x = t0 ∧ nd x = 0 := by
  have h0 := h 0 (by omega)
  have h1 := h 1 (by omega)
  have h2 := h 2 (by omega)
  have h3 := h 3 (by omega)
  have h4 := h 4 (by omega)
  have h5 := h 5 (by omega)
  have h6 := h 6 (by omega)
  have h7 := h 7 (by omega)
  simp only [bfr, to_] at h0 h1 h2 h3 h4 h5 h6 h7
  have a := nd_cases x
  have e : nd x = 0 := by omega
  exact ⟨by unfold bh; rw [if_pos (by omega)], e⟩

set_option maxHeartbeats 400000 in
theorem behind_low (x : Nat) (w : World) (hx : x < 128) :
    Calls Try.prog 62 #[.int .u8 x] w fun e w' => e = .returned (.tuple #[tlv t0, .bool true]) ∧ Below w.heap.size w w' := by
  go_enter Try.func62, Try.ntmps62
  go_wp2
  refine bodyPost_ret (v := .tuple #[tlv t0, .bool true]) (by simp [results, Try.results62, go_sem, tlv, t0]) rfl ⟨rfl, ?_⟩
  exact (Below.refl _ _).alloc (Nat.le_refl _) _

set_option maxRecDepth 100000 in
set_option maxHeartbeats 1000000 in
theorem behind_high (x : Nat) (w : World) (hx : x < 256) (hx' : 127 < x) :
    Calls Try.prog 62 #[.int .u8 x] w fun e w' => e = .returned (.tuple #[tlv (bh x), .bool (decide (nd x ≠ 0))]) ∧ Below w.heap.size w w' := by
  go_enter Try.func62, Try.ntmps62
  go_upto_region 3 with fail
  go_cut [4] from 10 to 26 (fun s4 wx => s4 = .pointer (some ⟨w.heap.size + 1, 0, none⟩) ∧ wx = (w.alloc (.cells #[.int .i64 0, .int .u8 0, .int .u8 0] 91)).alloc (.cells tab 100))
  case first =>
    apply wp_region_lit
    refine wpList_buildTo rfl 91 _ rfl (some 10) rfl #[.int .i64 1, .int .u8 128, .int .u8 191] (by kernel_rfl) ?_
    refine wpList_buildTo rfl 99 _ rfl (some 11) rfl #[.int .u8 194, .int .u8 223, .int .i64 1, .int .u8 128, .int .u8 191] (by kernel_rfl) ?_
    refine wpList_buildTo rfl 91 _ rfl (some 12) rfl #[.int .i64 2, .int .u8 160, .int .u8 191] (by kernel_rfl) ?_
    refine wpList_buildTo rfl 99 _ rfl (some 13) rfl #[.int .u8 224, .int .u8 224, .int .i64 2, .int .u8 160, .int .u8 191] (by kernel_rfl) ?_
    refine wpList_buildTo rfl 91 _ rfl (some 14) rfl #[.int .i64 2, .int .u8 128, .int .u8 191] (by kernel_rfl) ?_
    refine wpList_buildTo rfl 99 _ rfl (some 15) rfl #[.int .u8 225, .int .u8 236, .int .i64 2, .int .u8 128, .int .u8 191] (by kernel_rfl) ?_
    refine wpList_buildTo rfl 91 _ rfl (some 16) rfl #[.int .i64 2, .int .u8 128, .int .u8 159] (by kernel_rfl) ?_
    refine wpList_buildTo rfl 99 _ rfl (some 17) rfl #[.int .u8 237, .int .u8 237, .int .i64 2, .int .u8 128, .int .u8 159] (by kernel_rfl) ?_
    refine wpList_buildTo rfl 91 _ rfl (some 18) rfl #[.int .i64 2, .int .u8 128, .int .u8 191] (by kernel_rfl) ?_
    refine wpList_buildTo rfl 99 _ rfl (some 19) rfl #[.int .u8 238, .int .u8 239, .int .i64 2, .int .u8 128, .int .u8 191] (by kernel_rfl) ?_
    refine wpList_buildTo rfl 91 _ rfl (some 20) rfl #[.int .i64 3, .int .u8 144, .int .u8 191] (by kernel_rfl) ?_
    refine wpList_buildTo rfl 99 _ rfl (some 21) rfl #[.int .u8 240, .int .u8 240, .int .i64 3, .int .u8 144, .int .u8 191] (by kernel_rfl) ?_
    refine wpList_buildTo rfl 91 _ rfl (some 22) rfl #[.int .i64 3, .int .u8 128, .int .u8 191] (by kernel_rfl) ?_
    refine wpList_buildTo rfl 99 _ rfl (some 23) rfl #[.int .u8 241, .int .u8 243, .int .i64 3, .int .u8 128, .int .u8 191] (by kernel_rfl) ?_
    refine wpList_buildTo rfl 91 _ rfl (some 24) rfl #[.int .i64 3, .int .u8 128, .int .u8 143] (by kernel_rfl) ?_
    refine wpList_buildTo rfl 99 _ rfl (some 25) rfl #[.int .u8 244, .int .u8 244, .int .i64 3, .int .u8 128, .int .u8 143] (by kernel_rfl) ?_
    refine wpList_buildTo rfl 100 _ rfl (some 26) rfl tab (by kernel_rfl) ?_
    refine wpList_allocTo rfl (some 4) rfl (.pointer (some ⟨(w.alloc (.cells #[.int .i64 0, .int .u8 0, .int .u8 0] 91)).heap.size, 0, none⟩)) (.cells zer 100) (by kernel_rfl) ?_
    rw [bhsz]
    refine wpList_store_rowTo rfl 100 _ _ rfl rfl (w.heap.size + 1) tab (by kernel_rfl) (by kernel_rfl) 100 zer (last2 _ _ _) (by kernel_rfl) (by kernel_rfl) (by kernel_rfl) ?_
    rw [setRow2]
    refine wpList_frame (a' := { tmps := #[(.int .u8 (x : Int)), undef, (.pointer (some ⟨w.heap.size, 0, none⟩)), (.bool false), (.pointer (some ⟨w.heap.size + 1, 0, none⟩)), undef, undef, (.int .u8 (x : Int)), (.bool (decide ((x : Int) ≤ 127))), undef, (.agg #[.int .i64 1, .int .u8 128, .int .u8 191]), (.agg #[.int .u8 194, .int .u8 223, .int .i64 1, .int .u8 128, .int .u8 191]), (.agg #[.int .i64 2, .int .u8 160, .int .u8 191]), (.agg #[.int .u8 224, .int .u8 224, .int .i64 2, .int .u8 160, .int .u8 191]), (.agg #[.int .i64 2, .int .u8 128, .int .u8 191]), (.agg #[.int .u8 225, .int .u8 236, .int .i64 2, .int .u8 128, .int .u8 191]), (.agg #[.int .i64 2, .int .u8 128, .int .u8 159]), (.agg #[.int .u8 237, .int .u8 237, .int .i64 2, .int .u8 128, .int .u8 159]), (.agg #[.int .i64 2, .int .u8 128, .int .u8 191]), (.agg #[.int .u8 238, .int .u8 239, .int .i64 2, .int .u8 128, .int .u8 191]), (.agg #[.int .i64 3, .int .u8 144, .int .u8 191]), (.agg #[.int .u8 240, .int .u8 240, .int .i64 3, .int .u8 144, .int .u8 191]), (.agg #[.int .i64 3, .int .u8 128, .int .u8 191]), (.agg #[.int .u8 241, .int .u8 243, .int .i64 3, .int .u8 128, .int .u8 191]), (.agg #[.int .i64 3, .int .u8 128, .int .u8 143]), (.agg #[.int .u8 244, .int .u8 244, .int .i64 3, .int .u8 128, .int .u8 143]), (.agg tab), undef, undef, undef, undef, undef, undef, undef, undef, undef, undef, undef, undef, undef, undef, undef, undef, undef, undef], defers := [] }) (by kernel_rfl) ?_
    refine wpList_nil ?_
    rename_i hJ hK
    exact hK _ _ (Met.intro (hJ _ _ ⟨_, _, _, _, _, _, _, _, _, _, _, _, _, _, _, _, _, _, ⟨rfl, rfl⟩, rfl⟩))
  case rest =>
    obtain ⟨rfl, rfl⟩ := hcut
    go_upto_region 4 with fail
    apply wp_region_lit
    refine wpList_load_row rfl 100 (.tmp 4) rfl (w.heap.size + 1) rfl _ tab (0, 0) _ (last2 _ _ _) Try.underlying100 rfl (by kernel_rfl) ?_
    go_wp2
    go_loopw [28] (fun s28 wr => ∃ k : Nat, k ≤ 8 ∧ s28 = .int .i64 (k : Int) ∧ Hid (∀ j, j < k → ¬ (bfr j ≤ x ∧ x ≤ to_ j)) ∧ Below w.heap.size w wr ∧ w.heap.size < wr.heap.size ∧ wr.heap[w.heap.size]? = some (.cells #[.int .i64 0, .int .u8 0, .int .u8 0] 91 (0, 0))) (fun s28 _ => (8 - intOf s28).toNat)
    case atStart => exact ⟨0, by omega, rfl, Lib.hid (fun j hj => absurd hj (by omega)), ((Below.refl _ _).alloc (Nat.le_refl _) _).alloc (by rw [bhsz]; omega) _, by rw [bhsz, bhsz]; omega, (Below.heap_alloc _ _ _ (by rw [bhsz]; omega)).trans (heap_alloc_last _ _)⟩
    case round =>
      obtain ⟨k, hk, rfl, hno, hb, hs, hblk⟩ := hrel
      have c0 : wr.cell? ⟨w.heap.size, 0, none⟩ = some (.int .i64 0) := cell_of_row _ _ 0 _ _ _ hblk
      have c1 : wr.cell? ⟨w.heap.size, 1, none⟩ = some (.int .u8 0) := cell_of_row _ _ 1 _ _ _ hblk
      have c2 : wr.cell? ⟨w.heap.size, 2, none⟩ = some (.int .u8 0) := cell_of_row _ _ 2 _ _ _ hblk
      have f0 : ∀ i, wr.frozen? ⟨w.heap.size, i, none⟩ = false := fun i => by simp [World.frozen?, hblk]
      have hlt : ∀ o, w.heap.size < (wr.alloc o).heap.size := fun o => by rw [bhsz]; omega
      by_cases hk8 : k < 8
      · have hix := ix k hk8
        have hr := row_le k
        by_cases hy : bfr k ≤ x ∧ x ≤ to_ k
        · have HE := Lib.hid (row_yes hk8 hy.1 hy.2)
          obtain ⟨hl, hh⟩ := hy
          go_wp2_with fail
          refine bodyPost_ret (v := .tuple #[.agg #[.int .i64 (tc k : Int), .int .u8 (tl k : Int), .int .u8 (th k : Int)], .bool true]) (by
            have hne : ¬ w.heap.size = wr.heap.size := by omega
            simp [results, Try.results62, go_sem, World.cell?, World.setCell, World.alloc, Array.getElem?_push, Array.getElem?_modify, hblk, hne]) rfl ⟨?_, ?_⟩
          · rw [HE.out.1]
            simp [tlv, HE.out.2]
          · exact (((hb.setCell (Nat.le_refl _) _).setCell (Nat.le_refl _) _).setCell (Nat.le_refl _) _).alloc (by simp [World.setCell]; omega) _
        · have HN := Lib.hid (fun j (hj : j < k + 1) => show ¬ (bfr j ≤ x ∧ x ≤ to_ j) from by
            by_cases e : j = k
            · subst e; exact hy
            · exact hno.out j (by omega))
          by_cases hl : bfr k ≤ x
          · have hh : ¬ x ≤ to_ k := fun h => hy ⟨hl, h⟩
            clear hy
            go_wp2_with fail
            go_roundw
            case rel => exact ⟨k + 1, by omega, by go_num, HN, hb.alloc (Nat.le_of_lt hs) _, hlt _, (Below.heap_alloc _ _ _ hs).trans hblk⟩
            case measure => simp [intOf]; omega
          · clear hy
            go_wp2_with fail
            go_roundw
            case rel => exact ⟨k + 1, by omega, by go_num, HN, hb.alloc (Nat.le_of_lt hs) _, hlt _, (Below.heap_alloc _ _ _ hs).trans hblk⟩
            case measure => simp [intOf]; omega
      · obtain rfl : k = 8 := by omega
        have HE := Lib.hid (row_no hx' hno.out)
        clear hno
        go_wp2_with fail
        refine bodyPost_ret (v := .tuple #[tlv t0, .bool false]) (by simp [results, Try.results62, go_sem, tlv, t0, World.cell?, World.setCell, Array.getElem?_modify, hblk]) rfl ⟨?_, ?_⟩
        · rw [HE.out.1]
          simp [HE.out.2]
        · exact ((hb.setCell (Nat.le_refl _) _).setCell (Nat.le_refl _) _).setCell (Nat.le_refl _) _

theorem behind_any (x : Nat) (w : World) (hx : x < 256) :
    Calls Try.prog 62 #[.int .u8 x] w fun e w' => e = .returned (.tuple #[tlv (bh x), .bool (decide (nd x ≠ 0))]) ∧ Below w.heap.size w w' := by
  by_cases h : 127 < x
  · exact behind_high x w hx h
  · have e : nd x = 1 := by unfold nd; rw [if_pos (by omega)]
    have e2 : bh x = t0 := by unfold bh; rw [if_pos (by omega)]
    rw [e, e2]
    exact behind_low x w (by omega)
end Go.Proofs.Ytaopjeobapnhbaa.nn
namespace Go.Proofs.Ytaopjeobapnhbaa.nn
open Go.RowKit

/-- block g is just pre and, behind it, what is due -/
def tcs (pre : List Value) (t : Tl) : Array Value := (pre ++ ([Value.int .i64 (t.c : Int), Value.int .u8 (t.lo : Int), Value.int .u8 (t.hi : Int)] : List Value)).toArray
def Sc (w : World) (g : Nat) (e : TypeId) (pre : List Value) (t : Tl) : Prop := w.heap[g]? = some (.cells (tcs pre t) e (0, 0))

section
variable {w w' : World} {g : Nat} {e : TypeId} {pre : List Value} {t t' : Tl} {off : Nat}
theorem tcs_0 : (tcs pre t)[pre.length]? = some (.int .i64 (t.c : Int)) := by simp [tcs]
theorem tcs_1 : (tcs pre t)[pre.length + 1]? = some (.int .u8 (t.lo : Int)) := by simp [tcs]
theorem tcs_2 : (tcs pre t)[pre.length + 2]? = some (.int .u8 (t.hi : Int)) := by simp [tcs]
theorem Sc.lt (h : Sc w g e pre t) : g < w.heap.size := (Array.getElem?_eq_some_iff.1 h).1
theorem Sc.cell (h : Sc w g e pre t) (i : Nat) : w.cell? ⟨g, i, none⟩ = (tcs pre t)[i]? := cell_of_row w g i (tcs pre t) e (0, 0) h
theorem Sc.c0 (h : Sc w g e pre t) (ho : pre.length = off) : w.cell? ⟨g, off, none⟩ = some (.int .i64 (t.c : Int)) := by subst ho; rw [h.cell, tcs_0]
theorem Sc.c1 (h : Sc w g e pre t) (ho : pre.length = off) : w.cell? ⟨g, off + 1, none⟩ = some (.int .u8 (t.lo : Int)) := by subst ho; rw [h.cell, tcs_1]
theorem Sc.c2 (h : Sc w g e pre t) (ho : pre.length = off) : w.cell? ⟨g, off + 2, none⟩ = some (.int .u8 (t.hi : Int)) := by subst ho; rw [h.cell, tcs_2]
theorem Sc.frozen (h : Sc w g e pre t) (i : Nat) : w.frozen? ⟨g, i, none⟩ = false := by
  unfold Sc at h
  simp [World.frozen?, h]
theorem Sc.below {B : Nat} (h : Sc w g e pre t) (hb : Below B w w') (hg : g < B) : Sc w' g e pre t := (hb.block g hg).trans h
theorem Sc.alloc (h : Sc w g e pre t) (o : Obj) : Sc (w.alloc o) g e pre t := (Below.heap_alloc _ _ _ h.lt).trans h
theorem Sc.set3 (h : Sc w g e pre t) (ho : pre.length = off) (c lo hi : Nat) : Sc (((w.setCell ⟨g, off, none⟩ (.int .i64 (c : Int))).setCell ⟨g, off + 1, none⟩ (.int .u8 (lo : Int))).setCell ⟨g, off + 2, none⟩ (.int .u8 (hi : Int))) g e pre ⟨c, lo, hi⟩ := by
  subst ho
  unfold Sc at h ⊢
  simp only [World.setCell, Array.getElem?_modify, h, if_true, Option.map_some, Option.isSome_none, Bool.false_eq_true, if_false]
  congr 2
  apply Array.ext_getElem?
  intro i
  simp only [tcs, Array.getElem?_setIfInBounds, List.getElem?_toArray, List.size_toArray, Array.size_setIfInBounds, List.length_append, List.length_cons, List.length_nil]
  by_cases h0 : i < pre.length
  · rw [if_neg (by omega), if_neg (by omega), if_neg (by omega), List.getElem?_append_left h0, List.getElem?_append_left h0]
  · obtain ⟨j, rfl⟩ : ∃ j, i = pre.length + j := ⟨i - pre.length, by omega⟩
    match j with
    | 0 | 1 | 2 => simp
    | j + 3 => simp
theorem Sc.set3n (h : Sc w g e pre t) (ho : pre.length = off) (c : Nat) : Sc (((w.setCell ⟨g, off, none⟩ (.int .i64 (c : Int))).setCell ⟨g, off + 1, none⟩ (.int .u8 128)).setCell ⟨g, off + 2, none⟩ (.int .u8 191)) g e pre ⟨c, 128, 191⟩ := h.set3 ho c 128 191
theorem below_set3 {B : Nat} (h : Below B w w') (hg : B ≤ g) (a b c : Nat) (u v x : Value) : Below B w (((w'.setCell ⟨g, a, none⟩ u).setCell ⟨g, b, none⟩ v).setCell ⟨g, c, none⟩ x) :=
  ((h.setCell hg u).setCell hg v).setCell hg x
end

theorem behind_bd (x : Nat) : (bh x).c < 4 ∧ (bh x).lo < 256 ∧ (bh x).hi < 256 := by
  have a := nd_cases x
  have b := lt_cases x
  have c := mt_cases x
  unfold bh
  split
  · exact ⟨by decide, by decide, by decide⟩
  · exact ⟨by dsimp only; omega, by dsimp only; omega, by dsimp only; omega⟩

set_option maxRecDepth 100000 in
set_option maxHeartbeats 1000000 in
theorem take_first (t : Tl) (g off : Nat) (e : TypeId) (pre : List Value) (x : Nat) (w : World) (h : Sc w g e pre t) (ho : pre.length = off) (hz : t.c = 0) (c lo hi : Nat) (b : Bool) (_ : c < 4) (_ : lo < 256) (_ : hi < 256)
    (hB : Hid (Calls Try.prog 62 #[.int .u8 (x : Int)] w fun e w' => e = .returned (.tuple #[.agg #[.int .i64 (c : Int), .int .u8 (lo : Int), .int .u8 (hi : Int)], .bool b]) ∧ Below w.heap.size w w')) :
    Calls Try.prog 61 #[.pointer (some ⟨g, off, none⟩), .int .u8 (x : Int)] w fun r w' => r = .returned (.bool b) ∧ Below g w w' ∧ Sc w' g e pre ⟨c, lo, hi⟩ := by
  have c0 := h.c0 ho
  have hlt := h.lt
  rw [hz] at c0
  have hz' := Lib.hid hz
  have ho' := Lib.hid ho
  have h' := Lib.hid h
  clear hz ho h
  go_enter Try.func61, Try.ntmps61
  go_wp2_with fail
  refine hB.out.mono ?_
  rintro r w1 ⟨rfl, hb⟩
  have hs := h'.out.below hb hlt
  have hb1 := (Below.refl g w).trans (hb.mono (Nat.le_of_lt hlt))
  have hlt1 := hs.lt
  have f1 := hs.frozen
  have d0 := hs.c0 ho'.out
  have d1 := hs.c1 ho'.out
  have d2 := hs.c2 ho'.out
  have hs' := Lib.hid hs
  clear hs
  go_wp2_with fail
  go_ret
  exact ⟨rfl, (below_set3 hb1 (Nat.le_refl g) _ _ _ _ _ _).alloc (by simp [World.setCell]; omega) _, (hs'.out.set3 ho'.out c lo hi).alloc _⟩

set_option maxRecDepth 100000 in
set_option maxHeartbeats 1000000 in
theorem take_next (t : Tl) (g off : Nat) (e : TypeId) (pre : List Value) (x : Nat) (w : World) (h : Sc w g e pre t) (ho : pre.length = off) (_ : x < 256) (hz : t.c ≠ 0) (hc : t.c < 4) :
    Calls Try.prog 61 #[.pointer (some ⟨g, off, none⟩), .int .u8 (x : Int)] w fun r w' => r = .returned (.bool (ok t x)) ∧ Below g w w' ∧ Sc w' g e pre (nx t x) := by
  have e1 : ok t x = decide (t.lo ≤ x ∧ x ≤ t.hi) := by unfold ok; rw [if_neg hz]
  have e2 : nx t x = if t.lo ≤ x ∧ x ≤ t.hi then ⟨t.c - 1, 128, 191⟩ else t := by unfold nx; rw [if_neg hz]
  rw [e1, e2]
  clear e1 e2
  obtain ⟨c, lo, hi⟩ := t
  dsimp only at *
  have c0 := h.c0 ho
  have c1 := h.c1 ho
  have c2 := h.c2 ho
  have f0 := h.frozen
  have hlt := h.lt
  have ho' := Lib.hid ho
  have h' := Lib.hid h
  clear ho h
  obtain ⟨c', rfl⟩ : ∃ c', c = c' + 1 := ⟨c - 1, by omega⟩
  by_cases hy : lo ≤ x ∧ x ≤ hi
  · rw [if_pos hy, decide_eq_true hy]
    obtain ⟨hl, hh⟩ := hy
    go_enter Try.func61, Try.ntmps61
    go_wp2_with fail
    go_ret
    exact ⟨rfl, below_set3 (Below.refl g w) (Nat.le_refl g) _ _ _ _ _ _, h'.out.set3n ho'.out c'⟩
  · rw [if_neg hy, decide_eq_false hy]
    by_cases hl : lo ≤ x
    · have hh : ¬ x ≤ hi := fun h => hy ⟨hl, h⟩
      clear hy
      go_enter Try.func61, Try.ntmps61
      go_wp2_with fail
      go_ret
      exact ⟨rfl, Below.refl _ _, h'.out⟩
    · clear hy
      go_enter Try.func61, Try.ntmps61
      go_wp2_with fail
      go_ret
      exact ⟨rfl, Below.refl _ _, h'.out⟩

theorem take_any (t : Tl) (g off : Nat) (e : TypeId) (pre : List Value) (x : Nat) (w : World) (h : Sc w g e pre t) (ho : pre.length = off) (hx : x < 256) (hc : t.c < 4) :
    Calls Try.prog 61 #[.pointer (some ⟨g, off, none⟩), .int .u8 (x : Int)] w fun r w' => r = .returned (.bool (ok t x)) ∧ Below g w w' ∧ Sc w' g e pre (nx t x) := by
  by_cases hz : t.c = 0
  · have e1 : ok t x = decide (nd x ≠ 0) := by unfold ok; rw [if_pos hz]
    have e2 : nx t x = bh x := by unfold nx; rw [if_pos hz]
    rw [e1, e2]
    have hb := behind_bd x
    exact take_first t g off e pre x w h ho hz _ _ _ _ hb.1 hb.2.1 hb.2.2 (Lib.hid (behind_any x w hx))
  · exact take_next t g off e pre x w h ho hx hz hc
end Go.Proofs.Ytaopjeobapnhbaa.nn
namespace Go.Proofs.Ytaopjeobapnhbaa.nn

/-- byte i of a text -/
def bt (s : ByteArray) (i : Nat) : Nat := if h : i < s.size then s[i].toNat else 0
theorem bt_at {s : ByteArray} {i : Nat} (h : i < s.size) : bt s i = s[i].toNat := dif_pos h
theorem bt_lt (s : ByteArray) (i : Nat) : bt s i < 256 := by
  unfold bt
  split
  · exact s[i].toNat_lt
  · omega
end Go.Proofs.Ytaopjeobapnhbaa.nn
namespace Go.Proofs.Ytaopjeobapnhbaa.nn
open Go.RowKit

theorem ret_n {k : IntKind} {a b : Nat} (h : a = b) : Ending.returned (.int k (a : Int)) = .returned (.int k (b : Int)) := by rw [h]
/-- behind a refused byte the state stays -/
theorem tk_dead {f : Nat → Nat} {t : Tl} {m n : Nat} (h : al f t m = false) (hm : m ≤ n) : tk f t n = tk f t m := by
  induction n with
  | zero => obtain rfl : m = 0 := by omega
            rfl
  | succ n ih =>
    by_cases e : m = n + 1
    · subst e; rfl
    · have hn := dead h (show m ≤ n by omega)
      rw [← ih (by omega)]
      unfold al at hn
      unfold tk
      rw [go, if_neg (by rw [hn]; decide)]

set_option maxRecDepth 100000 in
set_option maxHeartbeats 1000000 in
theorem takeS_any (s : ByteArray) (t : Tl) (g off : Nat) (e : TypeId) (pre : List Value) (w : World) (h : Sc w g e pre t) (ho : pre.length = off) (ht : Gd t) (hs : s.size ≤ maxLen) :
    Calls Try.prog 58 #[.pointer (some ⟨g, off, none⟩), .string s] w fun r w' => r = .returned (.int .i64 (sp (bt s) t s.size : Int)) ∧ Below g w w' ∧ Sc w' g e pre (tk (bt s) t s.size) := by
  unfold maxLen at hs
  have ho' := Lib.hid ho
  have h' := Lib.hid h
  clear ho h
  go_enter Try.func58, Try.ntmps58
  go_wp2
  go_loopw [8] (fun s8 wr => ∃ k : Nat, k ≤ s.size ∧ s8 = .int .i64 (k : Int) ∧ Hid (al (bt s) t k = true) ∧ Hid (Below g w wr) ∧ Hid (Sc wr g e pre (tk (bt s) t k))) (fun s8 _ => s.size - (intOf s8).toNat)
  case atStart => exact ⟨0, Nat.zero_le _, rfl, Lib.hid rfl, Lib.hid (Below.refl _ _), h'⟩
  case round =>
    obtain ⟨k, hk, rfl, hal, hb, hsc⟩ := hrel
    by_cases hlt : k < s.size
    · have hC := take_any (tk (bt s) t k) g off e pre (bt s k) wr hsc.out ho'.out (bt_lt s k) (gd_lt (gd_go ht k))
      rw [bt_at hlt] at hC
      have hok := bt_at hlt
      by_cases hy : ok (tk (bt s) t k) (bt s k) = true
      · rw [← hok, hy, hok] at hC
        have hal' : Hid (al (bt s) t (k + 1) = true) := Lib.hid (by rw [al_succ, hal.out, hy]; rfl)
        have htk : Hid (tk (bt s) t (k + 1) = nx (tk (bt s) t k) s[k].toNat) := Lib.hid (by rw [tk_succ hal.out, hok])
        have HC := Lib.hid hC
        clear hC hy hok
        go_wp2_with fail
        refine HC.out.mono ?_
        rintro r w1 ⟨rfl, hb1, hs1⟩
        have hb2 := Lib.hid (hb.out.trans hb1)
        have hs2 : Hid (Sc w1 g e pre (tk (bt s) t (k + 1))) := Lib.hid (by rw [htk.out]; exact hs1)
        clear hb1 hs1
        go_wp2_with fail
        go_roundw
        case rel => exact ⟨k + 1, by omega, by go_num, hal', hb2, hs2⟩
        case measure => simp [intOf]; omega
      · have hy' : ok (tk (bt s) t k) (bt s k) = false := by simpa using hy
        rw [← hok, hy', hok] at hC
        have hal' : al (bt s) t (k + 1) = false := by rw [al_succ, hal.out, hy']; rfl
        have hE : Hid (sp (bt s) t s.size = k) := Lib.hid (sp_stop hal.out hal' (by omega))
        have htk : Hid (tk (bt s) t s.size = nx (tk (bt s) t k) s[k].toNat) := Lib.hid (by rw [tk_dead hal' (by omega), tk_succ hal.out, hok])
        have HC := Lib.hid hC
        clear hC hy hok hy' hal'
        go_wp2_with fail
        refine HC.out.mono ?_
        rintro r w1 ⟨rfl, hb1, hs1⟩
        have hb2 := Lib.hid (hb.out.trans hb1)
        have hs2 : Hid (Sc w1 g e pre (tk (bt s) t s.size)) := Lib.hid (by rw [htk.out]; exact hs1)
        clear hb1 hs1
        go_wp2_with fail
        go_ret
        exact ⟨ret_n hE.out.symm, hb2.out, hs2.out⟩
    · obtain rfl : k = s.size := by omega
      have hE : Hid (sp (bt s) t s.size = s.size) := Lib.hid (sp_all hal.out)
      go_wp2_with fail
      go_ret
      exact ⟨ret_n hE.out.symm, hb.out, hsc.out⟩
end Go.Proofs.Ytaopjeobapnhbaa.nn
namespace Go.Proofs.Ytaopjeobapnhbaa.nn
open Go.RowKit

theorem ofInt_64 (a : Nat) (ha : a < 9223372036854775808) : (BitVec.ofInt 64 (a : Int)).toNat = a := by
  rw [BitVec.ofInt_natCast, BitVec.toNat_ofNat]
  exact Nat.mod_eq_of_lt (by omega)
theorem wrap64_nat {n : Nat} (h : n < 9223372036854775808) : wrap64 (n : Int) = (n : Int) := by unfold wrap64; omega
theorem wrapi64_nat {n : Nat} (h : n < 9223372036854775808) : IntKind.i64.wrap (n : Int) = (n : Int) := IntWalk.i64_in _ ⟨by omega, by omega⟩
theorem i64_and_nat (a b : Nat) (ha : a < 9223372036854775808) (hb : b < 9223372036854775808) : bits .and .i64 (a : Int) (b : Int) = ((a &&& b : Nat) : Int) := by
  have hx : a &&& b < 2 ^ 63 := Nat.and_lt_two_pow _ (by omega)
  show IntKind.i64.wrap ((BitVec.ofInt 64 (a : Int) &&& BitVec.ofInt 64 (b : Int)).toNat : Int) = _
  rw [BitVec.toNat_and, ofInt_64 a ha, ofInt_64 b hb, wrapi64_nat (by omega)]
theorem i64_or_nat (a b : Nat) (ha : a < 9223372036854775808) (hb : b < 9223372036854775808) : bits .or .i64 (a : Int) (b : Int) = ((a ||| b : Nat) : Int) := by
  have hx : a ||| b < 2 ^ 63 := Nat.or_lt_two_pow (by omega) (by omega)
  show IntKind.i64.wrap ((BitVec.ofInt 64 (a : Int) ||| BitVec.ofInt 64 (b : Int)).toNat : Int) = _
  rw [BitVec.toNat_or, ofInt_64 a ha, ofInt_64 b hb, wrapi64_nat (by omega)]
theorem and_mask (x k : Nat) : x &&& (2 ^ k - 1) = x % 2 ^ k := Nat.and_two_pow_sub_one_eq_mod x k
theorem i64_63 (a : Nat) (ha : a < 9223372036854775808) : bits .and .i64 (a : Int) 63 = ((a % 64 : Nat) : Int) :=
  (i64_and_nat a 63 ha (by decide)).trans (by rw [and_mask a 6])
/-- x times 64, or y below 64 -/
theorem i64_join (x y : Nat) (hx : x < 100000000000000000) (hy : y < 64) : bits .or .i64 ((x : Int) * 64) (y : Int) = ((x * 64 + y : Nat) : Int) := by
  have e : (x : Int) * 64 = ((x * 64 : Nat) : Int) := by omega
  rw [e, i64_or_nat _ _ (by omega) (by omega), nat_join 6 _ _ (Nat.mul_mod_left _ _) hy]
/-- the head of a first byte: 192, 224, 240 with what stands below -/
theorem i64_high (x y k : Nat) (hx : x % 2 ^ k = 0) (hy : y < 2 ^ k) (hxk : x < 256) (hk : k < 9) : bits .or .i64 (x : Int) (y : Int) = ((x + y : Nat) : Int) := by
  have : 2 ^ k ≤ 2 ^ 8 := Nat.pow_le_pow_right (by omega) (by omega)
  rw [i64_or_nat _ _ (by omega) (by omega), nat_join k _ _ hx hy]
end Go.Proofs.Ytaopjeobapnhbaa.nn
namespace Go.Proofs.Ytaopjeobapnhbaa.nn
open Go.RowKit

/-- the bits of the first byte of k, and what j more bytes make of them -/
def hdv (f : Nat → Nat) (k : Nat) : Nat := if k = 1 then f 0 else f 0 % 2 ^ (7 - k)
def pv (f : Nat → Nat) (k : Nat) : Nat → Nat
  | 0 => hdv f k
  | j + 1 => pv f k j * 64 + f (j + 1) % 64

theorem pv_lt (f : Nat → Nat) (k : Nat) (h : f 0 < 256) : pv f k 0 < 256 ∧ pv f k 1 < 256 * 64 ∧ pv f k 2 < 256 * 64 * 64 ∧ pv f k 3 < 256 * 64 * 64 * 64 := by
  have h0 : pv f k 0 < 256 := by
    unfold pv hdv
    split
    · exact h
    · exact Nat.lt_of_le_of_lt (Nat.mod_le _ _) h
  have h1 : pv f k 1 = pv f k 0 * 64 + f 1 % 64 := rfl
  have h2 : pv f k 2 = pv f k 1 * 64 + f 2 % 64 := rfl
  have h3 : pv f k 3 = pv f k 2 * 64 + f 3 % 64 := rfl
  omega

theorem pv_le (f : Nat → Nat) (k : Nat) (h : f 0 < 256) {j : Nat} (hj : j < 4) : pv f k j < 67108864 := by
  have := pv_lt f k h
  match j, hj with
  | 0, _ | 1, _ | 2, _ | 3, _ => omega
end Go.Proofs.Ytaopjeobapnhbaa.nn
namespace Go.Proofs.Ytaopjeobapnhbaa.nn
open Go.RowKit

set_option maxRecDepth 100000 in
theorem need_any (x : Nat) (w : World) (hx : x < 256) :
    Calls Try.prog 43 #[.int .u8 (x : Int)] w fun e w' => e = .returned (.int .i64 (nd x : Int)) ∧ w = w' := by
  rcases nd_cases x with ⟨h, e⟩ | ⟨h, h', e⟩ | ⟨h, h', e⟩ | ⟨h, h', e⟩ | ⟨h | h, e⟩
  all_goals
    rw [e]
    clear e
    go_enter Try.func43, Try.ntmps43
    go_wp2
    go_ret
    exact ⟨rfl, rfl⟩

theorem ret_yes {p : Prop} [Decidable p] (h : p) : Ending.returned (.bool (decide p)) = .returned (.bool true) := by rw [decide_eq_true h]
theorem ret_no {p : Prop} [Decidable p] (h : ¬ p) : Ending.returned (.bool (decide p)) = .returned (.bool false) := by rw [decide_eq_false h]
theorem my_mk {x j y L M : Nat} (hL : lt_ x j = L) (hM : mt_ x j = M) : my x j y = decide (L ≤ y ∧ y ≤ M) := by rw [← hL, ← hM]; rfl

set_option maxRecDepth 100000 in
set_option maxHeartbeats 1000000 in
theorem may_any (x j y : Nat) (w : World) (hx : x < 256) (hy : y < 256) (hj : j < 5) :
    Calls Try.prog 44 #[.int .u8 (x : Int), .int .i64 (j : Int), .int .u8 (y : Int)] w fun e w' => e = .returned (.bool (my x j y)) ∧ w = w' := by
  by_cases h1 : j = 1
  · subst h1
    have hl := lt_cases x
    have hm := mt_cases x
    by_cases a : x = 224 ∨ x = 237 ∨ x = 240 ∨ x = 244
    · clear hl hm
      rcases a with rfl | rfl | rfl | rfl
      · rw [my_mk (x := 224) (j := 1) (y := y) (L := 160) (M := 191) rfl rfl]
        by_cases b : 160 ≤ y
        · by_cases c : y ≤ 191
          · rw [decide_eq_true ⟨b, c⟩]
            go_enter Try.func44, Try.ntmps44
            go_wp2
            go_ret
            exact ⟨ret_yes (p := (y : Int) ≤ 191) (by omega), rfl⟩
          · rw [decide_eq_false (fun h => c h.2)]
            go_enter Try.func44, Try.ntmps44
            go_wp2
            go_ret
            exact ⟨ret_no (p := (y : Int) ≤ 191) (by omega), rfl⟩
        · rw [decide_eq_false (fun h => b h.1)]
          go_enter Try.func44, Try.ntmps44
          go_wp2
          go_ret
          exact ⟨rfl, rfl⟩
      · rw [my_mk (x := 237) (j := 1) (y := y) (L := 128) (M := 159) rfl rfl]
        by_cases b : 128 ≤ y
        · by_cases c : y ≤ 159
          · rw [decide_eq_true ⟨b, c⟩]
            go_enter Try.func44, Try.ntmps44
            go_wp2
            go_ret
            exact ⟨ret_yes (p := (y : Int) ≤ 159) (by omega), rfl⟩
          · rw [decide_eq_false (fun h => c h.2)]
            go_enter Try.func44, Try.ntmps44
            go_wp2
            go_ret
            exact ⟨ret_no (p := (y : Int) ≤ 159) (by omega), rfl⟩
        · rw [decide_eq_false (fun h => b h.1)]
          go_enter Try.func44, Try.ntmps44
          go_wp2
          go_ret
          exact ⟨rfl, rfl⟩
      · rw [my_mk (x := 240) (j := 1) (y := y) (L := 144) (M := 191) rfl rfl]
        by_cases b : 144 ≤ y
        · by_cases c : y ≤ 191
          · rw [decide_eq_true ⟨b, c⟩]
            go_enter Try.func44, Try.ntmps44
            go_wp2
            go_ret
            exact ⟨ret_yes (p := (y : Int) ≤ 191) (by omega), rfl⟩
          · rw [decide_eq_false (fun h => c h.2)]
            go_enter Try.func44, Try.ntmps44
            go_wp2
            go_ret
            exact ⟨ret_no (p := (y : Int) ≤ 191) (by omega), rfl⟩
        · rw [decide_eq_false (fun h => b h.1)]
          go_enter Try.func44, Try.ntmps44
          go_wp2
          go_ret
          exact ⟨rfl, rfl⟩
      · rw [my_mk (x := 244) (j := 1) (y := y) (L := 128) (M := 143) rfl rfl]
        by_cases b : 128 ≤ y
        · by_cases c : y ≤ 143
          · rw [decide_eq_true ⟨b, c⟩]
            go_enter Try.func44, Try.ntmps44
            go_wp2
            go_ret
            exact ⟨ret_yes (p := (y : Int) ≤ 143) (by omega), rfl⟩
          · rw [decide_eq_false (fun h => c h.2)]
            go_enter Try.func44, Try.ntmps44
            go_wp2
            go_ret
            exact ⟨ret_no (p := (y : Int) ≤ 143) (by omega), rfl⟩
        · rw [decide_eq_false (fun h => b h.1)]
          go_enter Try.func44, Try.ntmps44
          go_wp2
          go_ret
          exact ⟨rfl, rfl⟩
    · rw [my_mk (x := x) (j := 1) (y := y) (L := 128) (M := 191) (by omega) (by omega)]
      have a1 : ¬ x = 224 := fun h => a (.inl h)
      have a2 : ¬ x = 237 := fun h => a (.inr (.inl h))
      have a3 : ¬ x = 240 := fun h => a (.inr (.inr (.inl h)))
      have a4 : ¬ x = 244 := fun h => a (.inr (.inr (.inr h)))
      clear hl hm a
      by_cases b : 128 ≤ y
      · by_cases c : y ≤ 191
        · rw [decide_eq_true ⟨b, c⟩]
          go_enter Try.func44, Try.ntmps44
          go_wp2
          go_ret
          exact ⟨ret_yes (p := (y : Int) ≤ 191) (by omega), rfl⟩
        · rw [decide_eq_false (fun h => c h.2)]
          go_enter Try.func44, Try.ntmps44
          go_wp2
          go_ret
          exact ⟨ret_no (p := (y : Int) ≤ 191) (by omega), rfl⟩
      · rw [decide_eq_false (fun h => b h.1)]
        go_enter Try.func44, Try.ntmps44
        go_wp2
        go_ret
        exact ⟨rfl, rfl⟩
  · rw [my_mk (x := x) (j := j) (y := y) (L := 128) (M := 191) (by unfold lt_; rw [if_neg h1]) (by unfold mt_; rw [if_neg h1])]
    by_cases b : 128 ≤ y
    · by_cases c : y ≤ 191
      · rw [decide_eq_true ⟨b, c⟩]
        go_enter Try.func44, Try.ntmps44
        go_wp2
        go_ret
        exact ⟨ret_yes (p := (y : Int) ≤ 191) (by omega), rfl⟩
      · rw [decide_eq_false (fun h => c h.2)]
        go_enter Try.func44, Try.ntmps44
        go_wp2
        go_ret
        exact ⟨ret_no (p := (y : Int) ≤ 191) (by omega), rfl⟩
    · rw [decide_eq_false (fun h => b h.1)]
      go_enter Try.func44, Try.ntmps44
      go_wp2
      go_ret
      exact ⟨rfl, rfl⟩
end Go.Proofs.Ytaopjeobapnhbaa.nn
namespace Go.Proofs.Ytaopjeobapnhbaa.nn
open Go.RowKit
theorem drew_below {B : Nat} {a w : World} (h : Below B a w) (j : Nat) : Below B a (w.drewN j) := ⟨h.os, h.tape, h.output, h.size, h.block⟩
end Go.Proofs.Ytaopjeobapnhbaa.nn
namespace Go.Proofs.Ytaopjeobapnhbaa.nn
open Go.RowKit

theorem ret_two {a b c d : Nat} (h1 : a = b) (h2 : c = d) : Ending.returned (.tuple #[.int .i64 (a : Int), .int .i64 (c : Int)]) = .returned (.tuple #[.int .i64 (b : Int), .int .i64 (d : Int)]) := by rw [h1, h2]
theorem nd_lt (x : Nat) : nd x < 5 := by have := nd_cases x; omega

set_option maxRecDepth 100000 in
set_option maxHeartbeats 1000000 in
theorem rwithin_any (s : ByteArray) (n : Int) (w : World) (hs : s.size ≤ maxLen) (hn : -1 ≤ n) (hn' : n ≤ maxLen) :
    Calls Try.prog 45 #[.string s, .int .i64 n] w fun r w' => r = .returned (.tuple #[.int .i64 (spw (bt s) n s.size : Int), .int .i64 (wE (bt s) n s.size : Int)]) ∧ Below w.heap.size w w' := by
  unfold maxLen at hs hn'
  go_enter Try.func45, Try.ntmps45
  go_wp2
  go_loopw [6] (fun s6 wr => ∃ i : Nat, i ≤ s.size ∧ s6 = .int .i64 (i : Int) ∧ Hid (aw (bt s) n i = true) ∧ Hid ((tk (bt s) t0 i).c = 0) ∧ Hid (Below w.heap.size w wr)) (fun s6 _ => s.size - (intOf s6).toNat)
  case atStart => exact ⟨0, Nat.zero_le _, rfl, Lib.hid rfl, Lib.hid rfl, Lib.hid (Below.refl _ _)⟩
  case round =>
    obtain ⟨i, hi, rfl, haw, hc, hb⟩ := hrel
    by_cases hlt : i < s.size
    · have hC := need_any (bt s i) wr (bt_lt s i)
      have hbi := bt_at hlt
      have hk5 := nd_lt (bt s i)
      obtain ⟨k, hk⟩ : ∃ k, nd (bt s i) = k := ⟨_, rfl⟩
      rw [hk] at hC hk5
      have HK := Lib.hid hk
      rw [hbi] at hC
      have HC := Lib.hid hC
      have HBI := Lib.hid hbi
      clear hC hbi hk
      by_cases hbad : k = 0 ∨ 0 ≤ n ∧ n < (k : Int) + i
      · have hno : aw (bt s) n (i + 1) = false := first_no (aw_al haw.out) hc.out (by rw [HK.out]; exact hbad)
        have HA := Lib.hid (ans_no haw.out hno hlt)
        clear hno
        by_cases hk0 : k = 0
        · subst hk0
          clear hbad
          go_wp2_with fail
          refine HC.out.mono ?_
          rintro r w1 ⟨rfl, rfl⟩
          go_wp2_with fail
          go_ret2
          exact ⟨ret_two HA.out.1.symm HA.out.2.symm, hb.out⟩
        · have h0 : 0 ≤ n := by omega
          have h1 : n - i < (k : Int) := by omega
          clear hbad
          go_wp2_with fail
          refine HC.out.mono ?_
          rintro r w1 ⟨rfl, rfl⟩
          go_wp2_with fail
          go_ret2
          exact ⟨ret_two HA.out.1.symm HA.out.2.symm, hb.out⟩
      · have hk0 : k ≠ 0 := by omega
        have hroom : n < 0 ∨ (k : Int) + i ≤ n := by omega
        obtain ⟨hy1, hy2⟩ := first_yes haw.out hc.out (by rw [HK.out]; exact hk0) (by rw [HK.out]; exact hroom)
        rw [HK.out] at hy2
        have HY1 := Lib.hid hy1
        have HY2 := Lib.hid hy2
        clear hy1 hy2 hbad
        by_cases h0 : 0 ≤ n
        all_goals
          first | (have h1 : (k : Int) ≤ n - i := by omega) | (have h1 : n < 0 := by omega)
          clear hroom
          have q1 : ((k : Int) == 0) = false := by simp; omega
          have q2 : n < 0 ∨ decide (n - (i : Int) < (k : Int)) = false := by first | exact .inl h1 | exact .inr (decide_eq_false (by omega))
          first | (have q3 := q2.resolve_left (by omega)) | skip
          clear q2
          go_wp2_with fail
          refine HC.out.mono ?_
          rintro r w1 ⟨rfl, rfl⟩
          go_wp2_with fail
          go_loopw [8] (fun s8 wq => ∃ j : Nat, 1 ≤ j ∧ j ≤ k ∧ i + j ≤ s.size ∧ s8 = .int .i64 (j : Int) ∧ Hid (aw (bt s) n (i + j) = true) ∧ Hid (In (bt s) i j k) ∧ Hid (Below w.heap.size w wq)) (fun s8 _ => k - (intOf s8).toNat)
          case atStart => exact ⟨1, by omega, by omega, by omega, rfl, HY1, HY2, hb⟩
          case round =>
            obtain ⟨j, hj1, hjk, hij, rfl, hawj, hin, hbq⟩ := hrel
            by_cases hj : j < k
            · by_cases he : i + j < s.size
              · have hbj := bt_at he
                have hC2 := fun wz => (may_any (bt s i) j (bt s (i + j)) wz (bt_lt s i) (bt_lt s _) (by omega)).mono (fun _ _ h => And.intro h.1 h.2.symm)
                by_cases hy : my (bt s i) j (bt s (i + j)) = true
                · obtain ⟨z1, z2⟩ := next_yes hawj.out hin.out hj hj1 hy
                  have Z1 := Lib.hid z1
                  have Z2 := Lib.hid z2
                  rw [hy, hbj, HBI.out] at hC2
                  have HC2 := Lib.hid hC2
                  clear z1 z2 hy hC2 hbj
                  go_wp2_with fail
                  have k1 : IntKind.i64.wrap ((i : Int) + (j : Int)) = (i : Int) + (j : Int) := IntWalk.i64_in _ (by omega)
                  have k2 : 0 ≤ (i : Int) + (j : Int) := by omega
                  have k3 : ((i : Int) + (j : Int)).toNat = i + j := by omega
                  go_quiet ((go_at_call 44; exact Calls.quiet_of_same (HC2.out _)))
                  clear k1
                  go_wp2_with fail
                  go_roundw
                  case rel => exact ⟨j + 1, by omega, by omega, by omega, by go_num, Z1, Z2, Lib.hid (drew_below hbq.out _)⟩
                  case measure => simp [intOf]; omega
                · have hy' : my (bt s i) j (bt s (i + j)) = false := by simpa using hy
                  have z1 : aw (bt s) n (i + j + 1) = false := by
                    cases hh : aw (bt s) n (i + j + 1) with
                    | false => rfl
                    | true => have := next_no (aw_al hawj.out) hin.out hj hy'; rw [aw_al hh] at this; cases this
                  have HA := Lib.hid (ans_no hawj.out z1 he)
                  rw [hy', hbj, HBI.out] at hC2
                  have HC2 := Lib.hid hC2
                  clear z1 hy hy' hC2 hbj
                  go_wp2_with fail
                  have k1 : IntKind.i64.wrap ((i : Int) + (j : Int)) = (i : Int) + (j : Int) := IntWalk.i64_in _ (by omega)
                  have k2 : 0 ≤ (i : Int) + (j : Int) := by omega
                  have k3 : ((i : Int) + (j : Int)).toNat = i + j := by omega
                  go_quiet ((go_at_call 44; exact Calls.quiet_of_same (HC2.out _)))
                  clear k1
                  go_wp2_with fail
                  go_ret2
                  exact ⟨ret_two HA.out.1.symm HA.out.2.symm, drew_below hbq.out _⟩
              · have hE : i + j = s.size := by omega
                have hA := ans_short (f := bt s) (N := n) (m := i + j) hawj.out (by rw [hin.out.1]; omega)
                rw [hE] at hA
                have HA := Lib.hid hA
                clear hA
                go_wp2_with fail
                go_ret2
                exact ⟨ret_two HA.out.1.symm HA.out.2.symm, hbq.out⟩
            · obtain rfl : j = k := by omega
              have HC0 := Lib.hid (in_end hin.out)
              go_wp2_with fail
              go_roundw
              case rel => exact ⟨i + j, by omega, by go_num, hawj, HC0, hbq⟩
              case measure => simp [intOf]; omega
    · obtain rfl : i = s.size := by omega
      by_cases hl : (s.size : Int) < n
      · have HA := Lib.hid (ans_less haw.out hl)
        by_cases h0 : 0 ≤ n
        · go_wp2_with fail
          go_ret2
          exact ⟨ret_two HA.out.1.symm HA.out.2.symm, hb.out⟩
        · omega
      · have HA := Lib.hid (ans_all haw.out hc.out hl)
        by_cases h0 : 0 ≤ n
        · go_wp2_with fail
          go_ret2
          exact ⟨ret_two HA.out.1.symm HA.out.2.symm, hb.out⟩
        · go_wp2_with fail
          go_ret2
          exact ⟨ret_two HA.out.1.symm HA.out.2.symm, hb.out⟩
end Go.Proofs.Ytaopjeobapnhbaa.nn
namespace Go.Proofs.Ytaopjeobapnhbaa.nn
open Go.RowKit

theorem rcheck_any (s : ByteArray) (w : World) (hs : s.size ≤ maxLen) :
    Calls Try.prog 29 #[.string s] w fun r w' => r = .returned (.tuple #[.int .i64 (ckA (bt s) s.size : Int), .int .i64 (ckE (bt s) s.size : Int)]) ∧ Below w.heap.size w w' := by
  have hC := rwithin_any s (-1) w hs (by omega) (by simp [maxLen])
  rw [spw_neg (by omega), wE_neg (by omega)] at hC
  have HC := Lib.hid hC
  clear hC
  have hA : ckA (bt s) s.size = sp (bt s) t0 s.size := rfl
  rw [hA]
  clear hA
  go_enter Try.func29, Try.ntmps29
  go_wp2_with fail
  refine HC.out.mono ?_
  rintro r w1 ⟨rfl, hb⟩
  go_wp2_with fail
  go_ret2
  exact ⟨rfl, hb⟩

theorem sc_new (w : World) : Sc (w.alloc (.cells #[.int .i64 0, .int .u8 0, .int .u8 0] 91)) w.heap.size 91 [] t0 := heap_alloc_last _ _

set_option maxRecDepth 100000 in
set_option maxHeartbeats 1000000 in
theorem check_any (s : ByteArray) (w : World) (hs : s.size ≤ maxLen) :
    Calls Try.prog 52 #[.string s] w fun r w' => r = .returned (.tuple #[.int .i64 (ckA (bt s) s.size : Int), .int .i64 (ckE (bt s) s.size : Int)]) ∧ Below w.heap.size w w' := by
  have HC := Lib.hid (takeS_any s t0 w.heap.size 0 91 [] _ (sc_new w) rfl gd_zero hs)
  have hle : sp (bt s) t0 s.size ≤ s.size := sp_le
  have H0 := Lib.hid (Below.refl w.heap.size w)
  have H1 := Lib.hid (fun o => (Below.refl w.heap.size w).alloc (Nat.le_refl _) o)
  unfold maxLen at hs
  by_cases hal : al (bt s) t0 s.size = true
  · have hE : ckA (bt s) s.size = s.size := sp_all hal
    rw [hE]
    rw [show sp (bt s) t0 s.size = s.size from hE] at HC
    have hc4 := gd_lt (gd_go gd_zero s.size (f := bt s))
    by_cases hz : (tk (bt s) t0 s.size).c = 0
    · have hE2 : ckE (bt s) s.size = 0 := by unfold ckE; rw [if_pos hal, if_pos hz]
      rw [hE2]
      have HZ := Lib.hid hz
      clear hz hE2 hE hal hle hc4
      go_enter Try.func52, Try.ntmps52
      go_wp2_with fail
      refine HC.out.mono ?_
      rintro r w1 ⟨rfl, hb, hsc⟩
      have c0 : w1.cell? ⟨w.heap.size, 0, none⟩ = some (.int .i64 0) := by
        have h := hsc.c0 (off := 0) rfl
        rw [HZ.out] at h
        exact h
      clear hsc
      go_wp2_with fail
      go_ret2
      exact ⟨rfl, (H1.out _).trans hb⟩
    · have hE2 : ckE (bt s) s.size = 3 := by unfold ckE; rw [if_pos hal, if_neg hz]
      rw [hE2]
      obtain ⟨c, hc⟩ : ∃ c, (tk (bt s) t0 s.size).c = c := ⟨_, rfl⟩
      have HZ := Lib.hid hc
      rw [hc] at hz hc4
      have hz' : 0 < c := by omega
      clear hz hE2 hE hal hle hc
      go_enter Try.func52, Try.ntmps52
      go_wp2_with fail
      refine HC.out.mono ?_
      rintro r w1 ⟨rfl, hb, hsc⟩
      have c0 := hsc.c0 (off := 0) rfl
      rw [HZ.out] at c0
      clear hsc
      go_wp2_with fail
      go_ret2
      exact ⟨rfl, (H1.out _).trans hb⟩
  · have hal' : al (bt s) t0 s.size = false := by simpa using hal
    have hE2 : ckE (bt s) s.size = 4 := by unfold ckE; rw [if_neg hal]
    rw [hE2]
    have hl := (sp_lt hal').1
    have hA : ckA (bt s) s.size = sp (bt s) t0 s.size := rfl
    rw [hA]
    clear hE2 hal hal' hA hle
    obtain ⟨p, hp⟩ : ∃ p, sp (bt s) t0 s.size = p := ⟨_, rfl⟩
    rw [hp] at HC hl
    rw [hp]
    clear hp
    go_enter Try.func52, Try.ntmps52
    go_wp2_with fail
    refine HC.out.mono ?_
    rintro r w1 ⟨rfl, hb, _⟩
    go_wp2_with fail
    go_ret2
    exact ⟨rfl, (H1.out _).trans hb⟩
end Go.Proofs.Ytaopjeobapnhbaa.nn
namespace Go.Proofs.Ytaopjeobapnhbaa.nn
open Go.RowKit

/-- does a code point stand at the beginning -/
def pok (f : Nat → Nat) (n : Nat) : Bool := decide (n ≠ 0 ∧ nd (f 0) ≠ 0 ∧ nd (f 0) ≤ n) && al f t0 (nd (f 0))
def ptK (f : Nat → Nat) (n : Nat) : Nat := if pok f n then nd (f 0) else 0
def ptV (f : Nat → Nat) (n : Nat) : Nat := if pok f n then pv f (nd (f 0)) (nd (f 0) - 1) else 0
/-- i bytes of it have come, and more are due -/
def Mid (f : Nat → Nat) (i : Nat) : Prop := i = 0 ∨ (tk f t0 i).c + i = nd (f 0) ∧ (tk f t0 i).c ≠ 0

section
variable {f g : Nat → Nat} {n i j k : Nat}
theorem pok_yes (h0 : n ≠ 0) (hk : nd (f 0) = k) (h1 : k ≠ 0) (h2 : k ≤ n) (h3 : al f t0 k = true) : ptK f n = k ∧ ptV f n = pv f k (k - 1) := by
  have : pok f n = true := by
    unfold pok
    rw [hk, h3, decide_eq_true ⟨h0, h1, h2⟩]
    rfl
  unfold ptK ptV
  rw [if_pos this, if_pos this, hk]
  exact ⟨rfl, rfl⟩
theorem pok_no (h : n = 0 ∨ nd (f 0) = 0 ∨ n < nd (f 0) ∨ al f t0 (nd (f 0)) = false) : ptK f n = 0 ∧ ptV f n = 0 := by
  have : pok f n = false := by
    unfold pok
    rcases h with h | h | h | h
    · rw [decide_eq_false (fun q => q.1 h)]; rfl
    · rw [decide_eq_false (fun q => q.2.1 h)]; rfl
    · rw [decide_eq_false (fun q => by omega)]; rfl
    · rw [h, Bool.and_false]
  unfold ptK ptV
  rw [if_neg (by rw [this]; decide), if_neg (by rw [this]; decide)]
  exact ⟨rfl, rfl⟩
theorem mid_step (hm : Mid f i) (h : al f t0 (i + 1) = true) : (tk f t0 (i + 1)).c + (i + 1) = nd (f 0) := by
  rcases hm with rfl | ⟨h1, h2⟩
  · rw [al_succ, Bool.and_eq_true] at h
    have h2 := h.2
    rw [tk_succ h.1]
    have h3 : nd (f 0) ≠ 0 := of_decide_eq_true h2
    show (bh (f 0)).c + 1 = _
    unfold bh
    split
    · simp only [t0]; omega
    · dsimp only; omega
  · have := due_step h h2
    omega
end


end Go.Proofs.Ytaopjeobapnhbaa.nn
namespace Go.Proofs.Ytaopjeobapnhbaa.nn
open Go.RowKit

def isPt (c : Int) : Prop := 0 ≤ c ∧ c ≤ 1114111 ∧ ¬ (55296 ≤ c ∧ c ≤ 57343)
instance (c : Int) : Decidable (isPt c) := by unfold isPt; infer_instance
/-- the bytes of a code point; none of what is none -/
def encF (c : Int) : ByteArray := if isPt c then Utf8.encode c else ⟨#[]⟩
theorem encF_no {c : Int} (h : c < 0 ∨ 1114111 < c ∨ 55296 ≤ c ∧ c ≤ 57343) : encF c = ⟨#[]⟩ := by
  unfold encF
  rw [if_neg (by unfold isPt; omega)]
theorem encF_yes {c : Int} (h : isPt c) : encF c = Utf8.encode c := by unfold encF; rw [if_pos h]

theorem ret_str {a b : ByteArray} (h : a = b) : Ending.returned (.string a) = .returned (.string b) := by rw [h]

set_option maxRecDepth 100000 in
set_option maxHeartbeats 1000000 in
theorem enc_any (c : Int) (w : World) (h1 : -9223372036854775808 ≤ c) (h2 : c ≤ 9223372036854775807) :
    Calls Try.prog 57 #[.int .i64 c] w fun r w' => r = .returned (.string (encF c)) ∧ w = w' := by
  by_cases hv : isPt c
  · rw [encF_yes hv]
    obtain ⟨a, b, d⟩ := hv
    by_cases hl : c < 55296
    · clear d
      go_enter Try.func57, Try.ntmps57
      go_wp2
      go_ret
      exact ⟨rfl, rfl⟩
    · have hg : 57343 < c := by omega
      clear d
      go_enter Try.func57, Try.ntmps57
      go_wp2
      go_ret
      exact ⟨rfl, rfl⟩
  · have hn : c < 0 ∨ 1114111 < c ∨ 55296 ≤ c ∧ c ≤ 57343 := by unfold isPt at hv; omega
    rw [encF_no hn]
    clear hv
    rcases hn with h | h | ⟨h, h'⟩
    all_goals
      go_enter Try.func57, Try.ntmps57
      go_wp2
      go_ret
      exact ⟨rfl, rfl⟩

theorem conv_new (w : World) (xs : List Int) (n : Nat) (h : xs.length = n) : (convert 40 9 (.slice (some ⟨w.heap.size, 0, none⟩) n n)).run Try.prog (w.alloc (.cells (xs.map (Value.int .u8)).toArray 5)) = .ok (.string (strOfNums xs)) (w.alloc (.cells (xs.map (Value.int .u8)).toArray 5)) :=
  run_convert_bytes_arg _ 40 5 Try.underlying40 Try.underlying5 _ 0 n n xs h (fun i hi => by
    rw [Nat.zero_add, World.cell?_alloc_at _ _ _ _ rfl]
    have : i < xs.length := by omega
    simp [this]) 9 Try.underlying9

theorem and63 {c : Int} (h0 : 0 ≤ c) (h : c ≤ 1114111) : bits .and .i64 c 63 = c % 64 := by
  obtain ⟨C, rfl⟩ := Int.eq_ofNat_of_zero_le h0
  exact i64_63 C (by omega)
theorem or128 {c : Int} (h0 : 0 ≤ c) (h : c < 64) : bits .or .i64 128 c = 128 + c := by
  obtain ⟨C, rfl⟩ := Int.eq_ofNat_of_zero_le h0
  exact i64_high 128 C 7 (by decide) (by omega) (by decide) (by decide)
theorem or192 {c : Int} (h0 : 0 ≤ c) (h : c < 32) : bits .or .i64 192 c = 192 + c := by
  obtain ⟨C, rfl⟩ := Int.eq_ofNat_of_zero_le h0
  exact i64_high 192 C 6 (by decide) (by omega) (by decide) (by decide)
theorem or224 {c : Int} (h0 : 0 ≤ c) (h : c < 16) : bits .or .i64 224 c = 224 + c := by
  obtain ⟨C, rfl⟩ := Int.eq_ofNat_of_zero_le h0
  exact i64_high 224 C 5 (by decide) (by omega) (by decide) (by decide)
theorem or240 {c : Int} (h0 : 0 ≤ c) (h : c < 8) : bits .or .i64 240 c = 240 + c := by
  obtain ⟨C, rfl⟩ := Int.eq_ofNat_of_zero_le h0
  exact i64_high 240 C 4 (by decide) (by omega) (by decide) (by decide)

theorem str_of {xs : List Int} {ys : List UInt8} (h : xs.map (fun n => UInt8.ofNat n.toNat) = ys) : strOfNums xs = ⟨ys.toArray⟩ := by unfold strOfNums; rw [h]
theorem valid_nat {C : Nat} (h : isPt (C : Int)) : Utf8.valid (C : Int) = true := by
  unfold isPt at h
  simp [Utf8.valid]
  omega
theorem str1 {c : Int} (h0 : 0 ≤ c) (h : c < 128) : strOfNums [c] = Utf8.encode c := by
  obtain ⟨C, rfl⟩ := Int.eq_ofNat_of_zero_le h0
  have hv : Utf8.valid (C : Int) = true := valid_nat (by unfold isPt; omega)
  unfold Utf8.encode
  simp only [hv, if_true, Int.toNat_natCast]
  rw [if_pos (by omega)]
  exact str_of rfl
theorem str2 {c : Int} (h0 : 128 ≤ c) (h : c < 2048) : strOfNums [192 + c / 64, 128 + c % 64] = Utf8.encode c := by
  obtain ⟨C, rfl⟩ := Int.eq_ofNat_of_zero_le (show 0 ≤ c by omega)
  have hv : Utf8.valid (C : Int) = true := valid_nat (by unfold isPt; omega)
  unfold Utf8.encode
  simp only [hv, if_true, Int.toNat_natCast]
  rw [if_neg (by omega), if_pos (by omega)]
  exact str_of rfl
theorem str3 {c : Int} (h0 : 2048 ≤ c) (h : c < 65536) (hs : ¬ (55296 ≤ c ∧ c ≤ 57343)) : strOfNums [224 + c / 4096, 128 + c / 64 % 64, 128 + c % 64] = Utf8.encode c := by
  obtain ⟨C, rfl⟩ := Int.eq_ofNat_of_zero_le (show 0 ≤ c by omega)
  have hv : Utf8.valid (C : Int) = true := valid_nat (by unfold isPt; omega)
  unfold Utf8.encode
  simp only [hv, if_true, Int.toNat_natCast]
  rw [if_neg (by omega), if_neg (by omega), if_pos (by omega)]
  exact str_of rfl
theorem str4 {c : Int} (h0 : 65536 ≤ c) (h : c ≤ 1114111) : strOfNums [240 + c / 262144, 128 + c / 4096 % 64, 128 + c / 64 % 64, 128 + c % 64] = Utf8.encode c := by
  obtain ⟨C, rfl⟩ := Int.eq_ofNat_of_zero_le (show 0 ≤ c by omega)
  have hv : Utf8.valid (C : Int) = true := valid_nat (by unfold isPt; omega)
  unfold Utf8.encode
  simp only [hv, if_true, Int.toNat_natCast]
  rw [if_neg (by omega), if_neg (by omega), if_neg (by omega)]
  exact str_of rfl

set_option maxRecDepth 100000 in
set_option maxHeartbeats 1000000 in
theorem renc_any (c : Int) (w : World) (h1 : -9223372036854775808 ≤ c) (h2 : c ≤ 9223372036854775807) :
    Calls Try.prog 42 #[.int .i64 c] w fun r w' => r = .returned (.string (encF c)) ∧ Below w.heap.size w w' := by
  by_cases hv : isPt c
  · rw [encF_yes hv]
    obtain ⟨a, b, d⟩ := hv
    have H := Lib.hid (fun o => (Below.refl w.heap.size w).alloc (Nat.le_refl _) o)
    by_cases l1 : c < 128
    · have kc := conv_new w [c] 1 rfl
      simp only [List.map_cons, List.map_nil] at kc
      clear d
      go_enter Try.func42, Try.ntmps42
      go_wp2
      go_ret
      exact ⟨ret_str (str1 a l1), H.out _⟩
    · by_cases l2 : c < 2048
      · have kc := fun x0 x1 => conv_new w [x0, x1] 2 rfl
        simp only [List.map_cons, List.map_nil] at kc
        have q1 := and63 a b
        have q2 := or128 (c := c % 64) (by omega) (by omega)
        have q3 := or192 (c := c / 64) (by omega) (by omega)
        clear d
        go_enter Try.func42, Try.ntmps42
        go_wp2
        go_ret
        refine ⟨ret_str ?_, H.out _⟩
        exact str2 (by omega) l2
      · by_cases l3 : c < 65536
        · have kc := fun x0 x1 x2 => conv_new w [x0, x1, x2] 3 rfl
          simp only [List.map_cons, List.map_nil] at kc
          have q1 := and63 a b
          have q2 := or128 (c := c % 64) (by omega) (by omega)
          have q3 := and63 (c := c / 64) (by omega) (by omega)
          have q4 := or128 (c := c / 64 % 64) (by omega) (by omega)
          have q5 := or224 (c := c / 4096) (by omega) (by omega)
          have S3 := Lib.hid (str3 (by omega) l3 d)
          by_cases hl : c < 55296
          · clear d
            go_enter Try.func42, Try.ntmps42
            go_wp2
            go_ret
            exact ⟨ret_str S3.out, H.out _⟩
          · have hg : 57343 < c := by omega
            clear d
            go_enter Try.func42, Try.ntmps42
            go_wp2
            go_ret
            exact ⟨ret_str S3.out, H.out _⟩
        · have kc := fun x0 x1 x2 x3 => conv_new w [x0, x1, x2, x3] 4 rfl
          simp only [List.map_cons, List.map_nil] at kc
          have q1 := and63 a b
          have q2 := or128 (c := c % 64) (by omega) (by omega)
          have q3 := and63 (c := c / 64) (by omega) (by omega)
          have q4 := or128 (c := c / 64 % 64) (by omega) (by omega)
          have q5 := and63 (c := c / 4096) (by omega) (by omega)
          have q6 := or128 (c := c / 4096 % 64) (by omega) (by omega)
          have q7 := or240 (c := c / 262144) (by omega) (by omega)
          clear d
          go_enter Try.func42, Try.ntmps42
          go_wp2
          go_ret
          exact ⟨ret_str (str4 (by omega) b), H.out _⟩
  · have hn : c < 0 ∨ 1114111 < c ∨ 55296 ≤ c ∧ c ≤ 57343 := by unfold isPt at hv; omega
    rw [encF_no hn]
    clear hv
    rcases hn with h | h | ⟨h, h'⟩
    all_goals
      go_enter Try.func42, Try.ntmps42
      go_wp2
      go_ret
      exact ⟨rfl, Below.refl _ _⟩
end Go.Proofs.Ytaopjeobapnhbaa.nn
namespace Go.Proofs.Ytaopjeobapnhbaa.nn
open Go.RowKit

section
variable {f g : Nat → Nat} {n i j k : Nat}
theorem al_bytes (hk : nd (f 0) = k) (h0 : k ≠ 0) (h : ∀ j, 1 ≤ j → j < k → my (f 0) j (f j) = true) : al f t0 k = true := by
  have key : ∀ p, 1 ≤ p → p ≤ k → aw f (-1) (0 + p) = true ∧ In f 0 p k := by
    intro p
    induction p with
    | zero => intro hp; omega
    | succ p ih =>
      intro _ hpk
      by_cases hp : p = 0
      · subst hp
        have := first_yes (f := f) (N := -1) (i := 0) rfl rfl (by rw [hk]; exact h0) (.inl (by omega))
        rw [hk] at this
        exact this
      · obtain ⟨h1, h2⟩ := ih (by omega) (by omega)
        exact next_yes h1 h2 (by omega) (by omega) (by rw [Nat.zero_add]; exact h p (by omega) (by omega))
  have := aw_al (key k (by omega) (Nat.le_refl _)).1
  rwa [Nat.zero_add] at this
end

theorem bt1 (x : Nat) : bt ⟨#[UInt8.ofNat x]⟩ 0 = x % 256 := by
  rw [bt_at (show 0 < (⟨#[UInt8.ofNat x]⟩ : ByteArray).size from Nat.zero_lt_one)]
  exact UInt8.toNat_ofNat' ..
theorem bt2 (x y : Nat) : bt ⟨#[UInt8.ofNat x, UInt8.ofNat y]⟩ 0 = x % 256 ∧ bt ⟨#[UInt8.ofNat x, UInt8.ofNat y]⟩ 1 = y % 256 := by
  refine ⟨?_, ?_⟩
  · rw [bt_at (show 0 < (⟨#[UInt8.ofNat x, UInt8.ofNat y]⟩ : ByteArray).size from (by decide : 0 < 2))]
    exact UInt8.toNat_ofNat' ..
  · rw [bt_at (show 1 < (⟨#[UInt8.ofNat x, UInt8.ofNat y]⟩ : ByteArray).size from (by decide : 1 < 2))]
    exact UInt8.toNat_ofNat' ..
theorem bt3 (x y z : Nat) : bt ⟨#[UInt8.ofNat x, UInt8.ofNat y, UInt8.ofNat z]⟩ 0 = x % 256 ∧ bt ⟨#[UInt8.ofNat x, UInt8.ofNat y, UInt8.ofNat z]⟩ 1 = y % 256 ∧ bt ⟨#[UInt8.ofNat x, UInt8.ofNat y, UInt8.ofNat z]⟩ 2 = z % 256 := by
  refine ⟨?_, ?_, ?_⟩
  · rw [bt_at (show 0 < (⟨#[UInt8.ofNat x, UInt8.ofNat y, UInt8.ofNat z]⟩ : ByteArray).size from (by decide : 0 < 3))]
    exact UInt8.toNat_ofNat' ..
  · rw [bt_at (show 1 < (⟨#[UInt8.ofNat x, UInt8.ofNat y, UInt8.ofNat z]⟩ : ByteArray).size from (by decide : 1 < 3))]
    exact UInt8.toNat_ofNat' ..
  · rw [bt_at (show 2 < (⟨#[UInt8.ofNat x, UInt8.ofNat y, UInt8.ofNat z]⟩ : ByteArray).size from (by decide : 2 < 3))]
    exact UInt8.toNat_ofNat' ..
theorem bt4 (x y z u : Nat) : bt ⟨#[UInt8.ofNat x, UInt8.ofNat y, UInt8.ofNat z, UInt8.ofNat u]⟩ 0 = x % 256 ∧ bt ⟨#[UInt8.ofNat x, UInt8.ofNat y, UInt8.ofNat z, UInt8.ofNat u]⟩ 1 = y % 256 ∧
    bt ⟨#[UInt8.ofNat x, UInt8.ofNat y, UInt8.ofNat z, UInt8.ofNat u]⟩ 2 = z % 256 ∧ bt ⟨#[UInt8.ofNat x, UInt8.ofNat y, UInt8.ofNat z, UInt8.ofNat u]⟩ 3 = u % 256 := by
  refine ⟨?_, ?_, ?_, ?_⟩
  · rw [bt_at (show 0 < (⟨#[UInt8.ofNat x, UInt8.ofNat y, UInt8.ofNat z, UInt8.ofNat u]⟩ : ByteArray).size from (by decide : 0 < 4))]
    exact UInt8.toNat_ofNat' ..
  · rw [bt_at (show 1 < (⟨#[UInt8.ofNat x, UInt8.ofNat y, UInt8.ofNat z, UInt8.ofNat u]⟩ : ByteArray).size from (by decide : 1 < 4))]
    exact UInt8.toNat_ofNat' ..
  · rw [bt_at (show 2 < (⟨#[UInt8.ofNat x, UInt8.ofNat y, UInt8.ofNat z, UInt8.ofNat u]⟩ : ByteArray).size from (by decide : 2 < 4))]
    exact UInt8.toNat_ofNat' ..
  · rw [bt_at (show 3 < (⟨#[UInt8.ofNat x, UInt8.ofNat y, UInt8.ofNat z, UInt8.ofNat u]⟩ : ByteArray).size from (by decide : 3 < 4))]
    exact UInt8.toNat_ofNat' ..

/-- the bytes of a code point, one by one -/
def EncB (E : Nat → Nat) (m C : Nat) : Prop :=
  (C < 128 ∧ m = 1 ∧ E 0 = C) ∨ (128 ≤ C ∧ C < 2048 ∧ m = 2 ∧ E 0 = 192 + C / 64 ∧ E 1 = 128 + C % 64) ∨
  (2048 ≤ C ∧ C < 65536 ∧ m = 3 ∧ E 0 = 224 + C / 4096 ∧ E 1 = 128 + C / 64 % 64 ∧ E 2 = 128 + C % 64) ∨
  (65536 ≤ C ∧ C ≤ 1114111 ∧ m = 4 ∧ E 0 = 240 + C / 262144 ∧ E 1 = 128 + C / 4096 % 64 ∧ E 2 = 128 + C / 64 % 64 ∧ E 3 = 128 + C % 64)
theorem enc_bytes {C : Nat} (h : isPt (C : Int)) : EncB (bt (Utf8.encode (C : Int))) (Utf8.encode (C : Int)).size C := by
  have hv := valid_nat h
  unfold isPt at h
  unfold Utf8.encode EncB
  simp only [hv, if_true, Int.toNat_natCast]
  by_cases l1 : C < 128
  · rw [if_pos l1]
    exact .inl ⟨l1, rfl, by rw [bt1]; omega⟩
  · rw [if_neg l1]
    by_cases l2 : C < 2048
    · rw [if_pos l2]
      have := bt2 (192 + C / 64) (128 + C % 64)
      exact .inr (.inl ⟨by omega, l2, rfl, by rw [this.1]; omega, by rw [this.2]; omega⟩)
    · rw [if_neg l2]
      by_cases l3 : C < 65536
      · rw [if_pos l3]
        have := bt3 (224 + C / 4096) (128 + C / 64 % 64) (128 + C % 64)
        exact .inr (.inr (.inl ⟨by omega, l3, rfl, by rw [this.1]; omega, by rw [this.2.1]; omega, by rw [this.2.2]; omega⟩))
      · rw [if_neg l3]
        have := bt4 (240 + C / 262144) (128 + C / 4096 % 64) (128 + C / 64 % 64) (128 + C % 64)
        exact .inr (.inr (.inr ⟨by omega, by omega, rfl, by rw [this.1]; omega, by rw [this.2.1]; omega, by rw [this.2.2.1]; omega, by rw [this.2.2.2]; omega⟩))

theorem my_of {x j y : Nat} (h : lt_ x j ≤ y ∧ y ≤ mt_ x j) : my x j y = true := decide_eq_true h
theorem lt_far {x j : Nat} (h : j ≠ 1) : lt_ x j = 128 ∧ mt_ x j = 191 := by unfold lt_ mt_; rw [if_neg h, if_neg h]; exact ⟨rfl, rfl⟩

/-- THERE: its bytes are one code point, itself, whatever stands behind -/
theorem enc_point {f E : Nat → Nat} {m n C : Nat} (h : EncB E m C) (hs : ¬ (55296 ≤ C ∧ C ≤ 57343)) (hf : ∀ i, i < m → f i = E i) (hn : m ≤ n) : ptK f n = m ∧ ptV f n = C := by
  have c0 := nd_cases (f 0)
  have c1 := lt_cases (f 0)
  have c2 := mt_cases (f 0)
  have p0 : ∀ k, pv f k 0 = hdv f k := fun _ => rfl
  have p1 : ∀ k, pv f k 1 = pv f k 0 * 64 + f 1 % 64 := fun _ => rfl
  have p2 : ∀ k, pv f k 2 = pv f k 1 * 64 + f 2 % 64 := fun _ => rfl
  have p3 : ∀ k, pv f k 3 = pv f k 2 * 64 + f 3 % 64 := fun _ => rfl
  rcases h with ⟨h1, rfl, e0⟩ | ⟨h1, h2, rfl, e0, e1⟩ | ⟨h1, h2, rfl, e0, e1, e2⟩ | ⟨h1, h2, rfl, e0, e1, e2, e3⟩
  · have g0 := hf 0 (by omega)
    have hk : nd (f 0) = 1 := by omega
    have := pok_yes (f := f) (n := n) (by omega) hk (by omega) hn (al_bytes hk (by omega) (fun j h3 h4 => by omega))
    refine ⟨this.1, this.2.trans ?_⟩
    show hdv f 1 = C
    unfold hdv
    rw [if_pos rfl]
    omega
  · have g0 := hf 0 (by omega)
    have g1 := hf 1 (by omega)
    have hk : nd (f 0) = 2 := by omega
    have := pok_yes (f := f) (n := n) (by omega) hk (by omega) hn (al_bytes hk (by omega) (fun j h3 h4 => by
      obtain rfl : j = 1 := by omega
      exact my_of (by omega)))
    refine ⟨this.1, this.2.trans ?_⟩
    rw [p1, p0]
    unfold hdv
    rw [if_neg (by decide), show (2 : Nat) ^ (7 - 2) = 32 from rfl]
    omega
  · have g0 := hf 0 (by omega)
    have g1 := hf 1 (by omega)
    have g2 := hf 2 (by omega)
    have hk : nd (f 0) = 3 := by omega
    have := pok_yes (f := f) (n := n) (by omega) hk (by omega) hn (al_bytes hk (by omega) (fun j h3 h4 => by
      by_cases e : j = 1
      · subst e; exact my_of (by omega)
      · obtain rfl : j = 2 := by omega
        have := lt_far (x := f 0) e
        exact my_of (by omega)))
    refine ⟨this.1, this.2.trans ?_⟩
    rw [p2, p1, p0]
    unfold hdv
    rw [if_neg (by decide), show (2 : Nat) ^ (7 - 3) = 16 from rfl]
    omega
  · have g0 := hf 0 (by omega)
    have g1 := hf 1 (by omega)
    have g2 := hf 2 (by omega)
    have g3 := hf 3 (by omega)
    have hk : nd (f 0) = 4 := by omega
    have := pok_yes (f := f) (n := n) (by omega) hk (by omega) hn (al_bytes hk (by omega) (fun j h3 h4 => by
      by_cases e : j = 1
      · subst e; exact my_of (by omega)
      · have := lt_far (x := f 0) e
        by_cases e2 : j = 2
        · subst e2; exact my_of (by omega)
        · obtain rfl : j = 3 := by omega
          exact my_of (by omega)))
    refine ⟨this.1, this.2.trans ?_⟩
    rw [p3, p2, p1, p0]
    unfold hdv
    rw [if_neg (by decide), show (2 : Nat) ^ (7 - 4) = 8 from rfl]
    omega

end Go.Proofs.Ytaopjeobapnhbaa.nn
namespace Go.Proofs.Ytaopjeobapnhbaa.nn

inductive Rs (α : Type) where
  | ok (a : α) (k : Nat)
  | no (q e : Nat)

/-- a reader: the bytes, how many there are, the place -/
def Prs (α : Type) := (Nat → Nat) → Nat → Nat → Rs α

structure Det {α : Type} (p : Prs α) : Prop where
  ok : ∀ {f n i a k}, i ≤ n → p f n i = .ok a k → i ≤ k ∧ k ≤ n ∧ ∀ g m, (∀ j, j < k → g j = f j) → k ≤ m → p g m i = .ok a k
  form : ∀ {f n i q e}, i ≤ n → p f n i = .no q e → e ≠ 3 → i ≤ q ∧ q < n ∧ ∀ g m, (∀ j, j ≤ q → g j = f j) → q < m → p g m i = .no q e
  short : ∀ {f n i q}, i ≤ n → p f n i = .no q 3 → q = n

section
variable {α β σ : Type} {p : Prs α} {f g : Nat → Nat} {n m i j k q e : Nat} {a : α}

/-! the parts that readers are made of -/
def ret (a : α) : Prs α := fun _ _ i => .ok a i
def fail_ : Prs α := fun _ n i => if n ≤ i then .no n 3 else .no i 4
def one (t : Nat → Option α) : Prs α := fun f n i => if n ≤ i then .no n 3 else match t (f i) with | some a => .ok a (i + 1) | none => .no i 4
def Prs.bind (p : Prs α) (q : α → Prs β) : Prs β := fun f n i => match p f n i with | .ok a k => q a f n k | .no q e => .no q e
/-- a byte decides which reader reads from its place on -/
def peek (t : Nat → Prs α) : Prs α := fun f n i => if n ≤ i then .no n 3 else t (f i) f n i

theorem det_ret (a : α) : Det (ret a) := by
  refine ⟨fun {f n i b k} hi h => ?_, fun _ h _ => ?_, fun _ h => ?_⟩
  · unfold ret at h
    injection h with h1 h2
    subst h1 h2
    exact ⟨Nat.le_refl _, hi, fun _ _ _ _ => rfl⟩
  · cases h
  · cases h
theorem det_fail : Det (fail_ : Prs α) := by
  refine ⟨fun {f n i b k} hi h => ?_, fun {f n i q e} hi h he => ?_, fun {f n i q} hi h => ?_⟩
  · unfold fail_ at h; split at h <;> cases h
  · unfold fail_ at h
    split at h
    · injection h with h1 h2; exact absurd h2.symm he
    · injection h with h1 h2
      subst h1 h2
      refine ⟨Nat.le_refl _, by omega, fun g m _ hm => ?_⟩
      unfold fail_
      rw [if_neg (by omega)]
  · unfold fail_ at h
    split at h
    · injection h with h1 h2; exact h1.symm
    · injection h with h1 h2; cases h2
theorem det_one (t : Nat → Option α) : Det (one t) := by
  refine ⟨fun {f n i b k} hi h => ?_, fun {f n i q e} hi h he => ?_, fun {f n i q} hi h => ?_⟩
  · unfold one at h
    split at h
    · cases h
    · rename_i h0
      cases ht : t (f i) with
      | none => rw [ht] at h; cases h
      | some c =>
        rw [ht] at h
        injection h with h1 h2
        subst h1 h2
        refine ⟨by omega, by omega, fun g m hg hm => ?_⟩
        unfold one
        rw [if_neg (by omega), hg i (by omega), ht]
  · unfold one at h
    split at h
    · injection h with h1 h2; exact absurd h2.symm he
    · rename_i h0
      cases ht : t (f i) with
      | some c => rw [ht] at h; cases h
      | none =>
        rw [ht] at h
        injection h with h1 h2
        subst h1 h2
        refine ⟨Nat.le_refl _, by omega, fun g m hg hm => ?_⟩
        unfold one
        rw [if_neg (by omega), hg i (by omega), ht]
  · unfold one at h
    split at h
    · injection h with h1 h2; exact h1.symm
    · cases ht : t (f i) with
      | some c => rw [ht] at h; cases h
      | none => rw [ht] at h; injection h with h1 h2; cases h2
theorem one_lt {t : Nat → Option α} (h : one t f n i = .ok a k) : k = i + 1 ∧ i < n ∧ t (f i) = some a := by
  unfold one at h
  split at h
  · cases h
  · cases ht : t (f i) with
    | none => rw [ht] at h; cases h
    | some c => rw [ht] at h; injection h with h1 h2; exact ⟨h2.symm, by omega, by rw [h1]⟩
theorem bind_ok {q : α → Prs β} (h : p f n i = .ok a k) : p.bind q f n i = q a f n k := by unfold Prs.bind; rw [h]
theorem bind_no {q : α → Prs β} {r e : Nat} (h : p f n i = .no r e) : p.bind q f n i = .no r e := by unfold Prs.bind; rw [h]
theorem bind_to {q : α → Prs β} {b : β} (h : p.bind q f n i = .ok b k) : ∃ a j, p f n i = .ok a j ∧ q a f n j = .ok b k := by
  unfold Prs.bind at h
  cases e : p f n i with
  | ok a j => rw [e] at h; exact ⟨a, j, rfl, h⟩
  | no r e' => rw [e] at h; cases h
theorem Det.bind (h : Det p) {q : α → Prs β} (hq : ∀ a, Det (q a)) : Det (p.bind q) := by
  refine ⟨fun {f n i b k} hi h1 => ?_, fun {f n i r e} hi h1 he => ?_, fun {f n i r} hi h1 => ?_⟩
  · obtain ⟨a, j, e1, e2⟩ := bind_to h1
    obtain ⟨a1, a2, a3⟩ := h.ok hi e1
    obtain ⟨b1, b2, b3⟩ := (hq a).ok a2 e2
    refine ⟨by omega, b2, fun g m hg hm => ?_⟩
    rw [bind_ok (a3 g m (fun l hl => hg l (by omega)) (by omega))]
    exact b3 g m hg hm
  · cases e1 : p f n i with
    | ok a j =>
      obtain ⟨a1, a2, a3⟩ := h.ok hi e1
      rw [bind_ok e1] at h1
      obtain ⟨b1, b2, b3⟩ := (hq a).form a2 h1 he
      refine ⟨by omega, b2, fun g m hg hm => ?_⟩
      rw [bind_ok (a3 g m (fun l hl => hg l (by omega)) (by omega))]
      exact b3 g m hg hm
    | no r' e' =>
      rw [bind_no e1] at h1
      injection h1 with h2 h3
      subst h2 h3
      obtain ⟨a1, a2, a3⟩ := h.form hi e1 he
      exact ⟨a1, a2, fun g m hg hm => bind_no (a3 g m hg hm)⟩
  · cases e1 : p f n i with
    | ok a j =>
      obtain ⟨a1, a2, a3⟩ := h.ok hi e1
      rw [bind_ok e1] at h1
      exact (hq a).short a2 h1
    | no r' e' =>
      rw [bind_no e1] at h1
      injection h1 with h2 h3
      subst h2 h3
      exact h.short hi e1
theorem det_peek {t : Nat → Prs α} (h : ∀ c, Det (t c)) (hl : ∀ {c f n i a k}, i < n → f i = c → t c f n i = .ok a k → i < k) : Det (peek t) := by
  refine ⟨fun {f n i b k} hi h1 => ?_, fun {f n i r e} hi h1 he => ?_, fun {f n i r} hi h1 => ?_⟩
  · unfold peek at h1
    split at h1
    · cases h1
    · obtain ⟨b1, b2, b3⟩ := (h (f i)).ok hi h1
      have hk := hl (by omega) rfl h1
      refine ⟨b1, b2, fun g m hg hm => ?_⟩
      unfold peek
      rw [if_neg (by omega), hg i hk]
      exact b3 g m hg hm
  · unfold peek at h1
    split at h1
    · injection h1 with h2 h3; exact absurd h3.symm he
    · obtain ⟨b1, b2, b3⟩ := (h (f i)).form hi h1 he
      refine ⟨b1, b2, fun g m hg hm => ?_⟩
      unfold peek
      rw [if_neg (by omega), hg i b1]
      exact b3 g m hg hm
  · unfold peek at h1
    split at h1
    · injection h1 with h2 h3; exact h2.symm
    · exact (h (f i)).short hi h1

/-! a loop: its body goes on with a state, or ends -/
def its (b : σ → Prs (σ ⊕ β)) : Nat → σ → Prs β
  | 0, _ => fun _ n _ => .no n 3
  | u + 1, s => fun f n i => match b s f n i with | .ok (.inl s') k => its b u s' f n k | .ok (.inr r) k => .ok r k | .no q e => .no q e
/-- each round of it goes on -/
structure Body (b : σ → Prs (σ ⊕ β)) : Prop where
  det : ∀ s, Det (b s)
  lt : ∀ {s f n i s' k}, i ≤ n → b s f n i = .ok (.inl s') k → i < k
def lp (b : σ → Prs (σ ⊕ β)) (s : σ) : Prs β := fun f n i => its b (n - i + 1) s f n i
variable {b : σ → Prs (σ ⊕ β)}
theorem its_succ (u : Nat) (s : σ) : its b (u + 1) s f n i = match b s f n i with | .ok (.inl s') k => its b u s' f n k | .ok (.inr r) k => .ok r k | .no q e => .no q e := rfl
theorem its_det (h : Body b) (u : Nat) : ∀ s, Det (its b u s) := by
  induction u with
  | zero =>
    intro s
    refine ⟨fun _ h => (by cases h), fun _ h he => ?_, fun _ h => ?_⟩
    · injection h with h1 h2; exact absurd h2.symm he
    · injection h with h1 h2; exact h1.symm
  | succ u ih =>
    intro s
    have e : its b (u + 1) s = (b s).bind (fun x => match x with | .inl s' => its b u s' | .inr r => ret r) := by
      funext f n i
      rw [its_succ]
      unfold Prs.bind
      cases b s f n i with
      | ok x k => cases x <;> rfl
      | no q e => rfl
    rw [e]
    exact (h.det s).bind fun x => match x with | .inl s' => ih s' | .inr r => det_ret r
theorem its_fuel (h : Body b) : ∀ (d : Nat) (s : σ) (i u v : Nat), i ≤ n → n - i ≤ d → n - i < u → n - i < v → its b u s f n i = its b v s f n i := by
  intro d
  induction d with
  | zero =>
    intro s i u v hi hd hu hv
    obtain ⟨u, rfl⟩ : ∃ x, u = x + 1 := ⟨u - 1, by omega⟩
    obtain ⟨v, rfl⟩ : ∃ x, v = x + 1 := ⟨v - 1, by omega⟩
    rw [its_succ, its_succ]
    cases e : b s f n i with
    | no q r => rfl
    | ok x k =>
      cases x with
      | inr r => rfl
      | inl s' =>
        have h1 := h.lt hi e
        have h2 := ((h.det s).ok hi e).2.1
        omega
  | succ d ih =>
    intro s i u v hi hd hu hv
    obtain ⟨u, rfl⟩ : ∃ x, u = x + 1 := ⟨u - 1, by omega⟩
    obtain ⟨v, rfl⟩ : ∃ x, v = x + 1 := ⟨v - 1, by omega⟩
    rw [its_succ, its_succ]
    cases e : b s f n i with
    | no q r => rfl
    | ok x k =>
      cases x with
      | inr r => rfl
      | inl s' =>
        have h1 := h.lt hi e
        have h2 := ((h.det s).ok hi e).2.1
        exact ih s' k u v h2 (by omega) (by omega) (by omega)
theorem lp_its (h : Body b) {s : σ} {u : Nat} (hi : i ≤ n) (hu : n - i < u) : lp b s f n i = its b u s f n i := its_fuel h (n - i) s i _ _ hi (Nat.le_refl _) (by omega) hu
theorem lp_step (h : Body b) (s : σ) (hi : i ≤ n) : lp b s f n i = match b s f n i with | .ok (.inl s') k => lp b s' f n k | .ok (.inr r) k => .ok r k | .no q e => .no q e := by
  show its b (n - i + 1) s f n i = _
  rw [its_succ]
  cases e : b s f n i with
  | no q r => rfl
  | ok x k =>
    cases x with
    | inr r => rfl
    | inl s' =>
      have h1 := h.lt hi e
      have h2 := ((h.det s).ok hi e).2.1
      exact (lp_its h h2 (by omega)).symm
theorem lp_det (h : Body b) (s : σ) : Det (lp b s) := by
  refine ⟨fun {f n i r k} hi h1 => ?_, fun {f n i q e} hi h1 he => ?_, fun {f n i q} hi h1 => (its_det h _ s).short hi h1⟩
  · obtain ⟨a1, a2, a3⟩ := (its_det h _ s).ok hi h1
    refine ⟨a1, a2, fun g m hg hm => ?_⟩
    have hb : its b (max (n - i + 1) (m - i + 1)) s f n i = .ok r k := by rw [← lp_its h hi (by omega)]; exact h1
    obtain ⟨_, _, b3⟩ := (its_det h _ s).ok hi hb
    rw [lp_its h (by omega) (show m - i < max (n - i + 1) (m - i + 1) by omega)]
    exact b3 g m hg hm
  · obtain ⟨a1, a2, a3⟩ := (its_det h _ s).form hi h1 he
    refine ⟨a1, a2, fun g m hg hm => ?_⟩
    have hb : its b (max (n - i + 1) (m - i + 1)) s f n i = .no q e := by rw [← lp_its h hi (by omega)]; exact h1
    obtain ⟨_, _, b3⟩ := (its_det h _ s).form hi hb he
    rw [lp_its h (by omega) (show m - i < max (n - i + 1) (m - i + 1) by omega)]
    exact b3 g m hg hm
/-- what holds ahead of each round and is kept holds at the end -/
theorem lp_inv (h : Body b) (I : σ → Nat → Prop) (J : β → Nat → Prop) (h1 : ∀ {s i s' k}, i ≤ n → I s i → b s f n i = .ok (.inl s') k → I s' k) (h2 : ∀ {s i r k}, i ≤ n → I s i → b s f n i = .ok (.inr r) k → J r k)
    {s : σ} {r : β} (hi : i ≤ n) (hI : I s i) (hr : lp b s f n i = .ok r k) : J r k := by
  have key : ∀ (u : Nat) (s : σ) (i : Nat), i ≤ n → I s i → its b u s f n i = .ok r k → J r k := by
    intro u
    induction u with
    | zero => intro s i _ _ hr; cases hr
    | succ u ih =>
      intro s i hi hI hr
      rw [its_succ] at hr
      cases e : b s f n i with
      | no q r => rw [e] at hr; cases hr
      | ok x l =>
        rw [e] at hr
        cases x with
        | inr r' => injection hr with t1 t2; subst t1 t2; exact h2 hi hI e
        | inl s' => exact ih s' l ((h.det s).ok hi e).2.1 (h1 hi hI e) hr
  exact key _ s i hi hI hr
end
end Go.Proofs.Ytaopjeobapnhbaa.nn
namespace Go.Proofs.Ytaopjeobapnhbaa.nn

/-! the reader -/
def hx (c : Nat) : Option Nat := if 48 ≤ c ∧ c ≤ 57 then some (c - 48) else if 97 ≤ c ∧ c ≤ 102 then some (c - 87) else if 65 ≤ c ∧ c ≤ 70 then some (c - 55) else none
/-- may the digit d stand at place i behind the digits u -/
def fbad (low : Bool) (i u d : Nat) : Bool := if low then (i == 0 && d != 13) || (i == 1 && decide (d < 12)) else i == 1 && (u == 13 && decide (12 ≤ d))
def fd (low : Bool) (i u c : Nat) : Option Nat := match hx c with | none => none | some d => if fbad low i u d then none else some (16 * u + d)
def four (low : Bool) : Prs Nat := (one (fd low 0 0)).bind fun u => (one (fd low 1 u)).bind fun v => (one (fd low 2 v)).bind fun x => one (fd low 3 x)
/-- what a letter behind the sign stands for; 0: nothing -/
def pl (c : Nat) : Nat := if c = 34 ∨ c = 92 ∨ c = 47 then c else if c = 98 then 8 else if c = 102 then 12 else if c = 110 then 10 else if c = 114 then 13 else if c = 116 then 9 else 0
def encL (u : Nat) : List UInt8 := (encF (u : Int)).data.toList
def is_ (x : Nat) : Nat → Option Nat := fun c => if c = x then some c else none
def pairP (u : Nat) : Prs (List UInt8) := (one (is_ 92)).bind fun _ => (one (is_ 117)).bind fun _ => (four true).bind fun v => ret (encL (65536 + (u - 55296) * 1024 + v - 56320))
def uP : Prs (List UInt8) := (four false).bind fun u => if u < 55296 ∨ 56319 < u then ret (encL u) else pairP u
def escK (c : Nat) : Option Nat := if c = 117 then some 117 else if pl c = 0 then none else some (pl c)
def escP : Prs (List UInt8) := (one escK).bind fun x => if x = 117 then uP else ret [UInt8.ofNat x]
def sh (f : Nat → Nat) (i : Nat) : Nat → Nat := fun j => f (i + j)
def raw (f : Nat → Nat) (i k : Nat) : List UInt8 := (List.range k).map fun j => UInt8.ofNat (f (i + j))
/-- a code point as it is -/
def ptP : Prs (List UInt8) := fun f n i => if n ≤ i then .no n 3 else if pok (sh f i) (n - i) then .ok (raw f i (nd (f i))) (i + nd (f i)) else .no (i + ckA (sh f i) (n - i)) (ckE (sh f i) (n - i))
def elP (out : List UInt8) (c : Nat) : Prs (List UInt8 ⊕ List UInt8) :=
  if c = 34 then (one some).bind fun _ => ret (.inr out) else if c < 32 then fail_ else if c = 92 then (one some).bind fun _ => escP.bind fun t => ret (.inl (out ++ t)) else ptP.bind fun t => ret (.inl (out ++ t))
def inP (out : List UInt8) : Prs (List UInt8 ⊕ List UInt8) := peek (elP out)
def scanP : Prs (List UInt8) := (one (is_ 34)).bind fun _ => lp inP []

/-! it is steady -/
section
variable {f g : Nat → Nat} {n m i j k : Nat}
theorem due_at {p : Nat} (h : al f t0 p = true) (h1 : 1 ≤ p) (hp : p ≤ nd (f 0)) : (tk f t0 p).c + p = nd (f 0) := by
  induction p with
  | zero => omega
  | succ p ih =>
    refine mid_step ?_ h
    by_cases e : p = 0
    · exact .inl e
    · have := ih (al_mono h (Nat.le_succ p)) (by omega) (by omega)
      exact .inr ⟨this, by omega⟩
theorem pok_iff : pok f n = true ↔ n ≠ 0 ∧ nd (f 0) ≠ 0 ∧ nd (f 0) ≤ n ∧ al f t0 (nd (f 0)) = true := by
  unfold pok
  rw [Bool.and_eq_true, decide_eq_true_eq, and_assoc, and_assoc]
/-- where no code point stands, a check errs within the first one -/
theorem pok_not (h : pok f n = false) (h0 : n ≠ 0) : ckE f n = 3 ∧ ckA f n = n ∨ ckE f n = 4 := by
  unfold ckE ckA
  by_cases ha : al f t0 n = true
  · by_cases hc : (tk f t0 n).c = 0
    · have h1 : nd (f 0) ≠ 0 := by
        have := al_mono ha (show 1 ≤ n by omega)
        rw [al_succ] at this
        exact of_decide_eq_true (by simpa [al_zero, ok, tk_zero, t0] using this)
      by_cases hn : nd (f 0) ≤ n
      · have : pok f n = true := pok_iff.2 ⟨h0, h1, hn, al_mono ha hn⟩
        rw [this] at h
        cases h
      · have := due_at ha (by omega) (by omega)
        omega
    · rw [if_pos ha, if_neg hc]
      exact .inl ⟨rfl, sp_all ha⟩
  · rw [if_neg ha]
    exact .inr rfl
theorem sh_congr {k : Nat} (hg : ∀ j, j < i + k → g j = f j) : ∀ j, j < k → sh g i j = sh f i j := fun j hj => hg (i + j) (by omega)
theorem raw_congr {k : Nat} (hg : ∀ j, j < i + k → g j = f j) : raw g i k = raw f i k := List.map_congr_left fun j hj => by rw [hg (i + j) (by have := List.mem_range.1 hj; omega)]
theorem raw_len (k : Nat) : (raw f i k).length = k := by simp [raw]
theorem pt_ok {L : List UInt8} (h : ptP f n i = .ok L k) : i < n ∧ pok (sh f i) (n - i) = true ∧ L = raw f i (nd (f i)) ∧ k = i + nd (f i) ∧ nd (f i) ≠ 0 ∧ k ≤ n := by
  unfold ptP at h
  split at h
  · cases h
  · split at h
    · rename_i h1 h2
      injection h with h3 h4
      have := pok_iff.1 h2
      simp only [sh, Nat.add_zero] at this
      exact ⟨by omega, h2, h3.symm, h4.symm, this.2.1, by omega⟩
    · cases h
theorem det_pt : Det ptP := by
  refine ⟨fun {f n i L k} hi h => ?_, fun {f n i q e} hi h he => ?_, fun {f n i q} hi h => ?_⟩
  · obtain ⟨h1, h2, rfl, rfl, h5, h6⟩ := pt_ok h
    refine ⟨by omega, h6, fun g m hg hm => ?_⟩
    have e0 : g i = f i := hg i (by omega)
    have hp := pok_iff.1 h2
    simp only [sh, Nat.add_zero] at hp
    have h2' : pok (sh g i) (m - i) = true := pok_iff.2 ⟨by omega, by simp only [sh, Nat.add_zero, e0]; exact h5, by simp only [sh, Nat.add_zero, e0]; omega, by
      have : al (sh g i) t0 (nd (f i)) = true := by rw [al_congr (sh_congr hg)]; exact hp.2.2.2
      simpa only [sh, Nat.add_zero, e0] using this⟩
    unfold ptP
    rw [if_neg (by omega), if_pos h2', e0, raw_congr hg]
  · unfold ptP at h
    split at h
    · injection h with h1 h2; exact absurd h2.symm he
    · rename_i h0
      split at h
      · cases h
      · rename_i hp
        have hp' : pok (sh f i) (n - i) = false := by simpa using hp
        injection h with h1 h2
        subst h1 h2
        have hE : ckE (sh f i) (n - i) = 4 := by
          rcases pok_not hp' (by omega) with h | h
          · exact absurd h.1 he
          · exact h
        have ha : al (sh f i) t0 (n - i) = false := by
          cases hh : al (sh f i) t0 (n - i) with
          | false => rfl
          | true => unfold ckE at hE; rw [if_pos hh] at hE; split at hE <;> cases hE
        obtain ⟨s1, s2⟩ := sp_lt ha
        have s3 := al_sp (f := sh f i) (t := t0) (n := n - i)
        unfold ckA
        obtain ⟨d, hd⟩ : ∃ d, sp (sh f i) t0 (n - i) = d := ⟨_, rfl⟩
        rw [hd] at s1 s2 s3 ⊢
        refine ⟨by omega, by omega, fun g m hg hm => ?_⟩
        have hg' : ∀ j, j < d + 1 → sh g i j = sh f i j := fun j hj => hg (i + j) (by omega)
        have g2 : al (sh g i) t0 (d + 1) = false := by rw [al_congr hg']; exact s2
        have g3 : al (sh g i) t0 d = true := by rw [al_congr fun j hj => hg' j (by omega)]; exact s3
        have gp : pok (sh g i) (m - i) = false := by
          cases hh : pok (sh g i) (m - i) with
          | false => rfl
          | true =>
            have q := pok_iff.1 hh
            have e0 : sh g i 0 = sh f i 0 := hg' 0 (by omega)
            rw [e0] at q
            have hle : nd (sh f i 0) ≤ d := by
              rcases Nat.lt_or_ge d (nd (sh f i 0)) with h | h
              · rw [dead g2 (by omega)] at q; cases q.2.2.2
              · exact h
            have : pok (sh f i) (n - i) = true := pok_iff.2 ⟨by omega, q.2.1, by omega, by
              rw [← al_congr (g := sh f i) (f := sh g i) fun j hj => hg' j (by omega)]; exact q.2.2.2⟩
            rw [hp'] at this
            cases this
        unfold ptP
        rw [if_neg (by omega), gp, if_neg (by decide)]
        have a1 : ckA (sh g i) (m - i) = d := sp_stop g3 g2 (by omega)
        have a2 : ckE (sh g i) (m - i) = 4 := by unfold ckE; rw [dead g2 (by omega), if_neg (by decide)]
        rw [a1, a2, hE]
  · unfold ptP at h
    split at h
    · injection h with h1 h2; exact h1.symm
    · split at h
      · cases h
      · rename_i h0 hp
        have hp' : pok (sh f i) (n - i) = false := by simpa using hp
        injection h with h1 h2
        rcases pok_not hp' (by omega) with h | h
        · rw [← h1, h.2]; omega
        · rw [h] at h2; cases h2

theorem det_four (low : Bool) : Det (four low) := (det_one _).bind fun _ => (det_one _).bind fun _ => (det_one _).bind fun _ => det_one _
theorem det_pair (u : Nat) : Det (pairP u) := (det_one _).bind fun _ => (det_one _).bind fun _ => (det_four _).bind fun _ => det_ret _
theorem det_u : Det uP := (det_four _).bind fun u => by
  split
  · exact det_ret _
  · exact det_pair u
theorem det_esc : Det escP := (det_one _).bind fun u => by
  split
  · exact det_u
  · exact det_ret _
theorem det_el (out : List UInt8) (c : Nat) : Det (elP out c) := by
  unfold elP
  split
  · exact (det_one _).bind fun _ => det_ret _
  · split
    · exact det_fail
    · split
      · exact (det_one _).bind fun _ => det_esc.bind fun _ => det_ret _
      · exact det_pt.bind fun _ => det_ret _
theorem el_lt {out : List UInt8} {c : Nat} {x : List UInt8 ⊕ List UInt8} (_ : i ≤ n) (h : elP out c f n i = .ok x k) : i < k := by
  unfold elP at h
  split at h
  · obtain ⟨a, j, h1, h2⟩ := bind_to h
    have := one_lt h1
    injection h2
    omega
  · split at h
    · unfold fail_ at h; split at h <;> cases h
    · split at h
      · obtain ⟨a, j, h1, h2⟩ := bind_to h
        have := one_lt h1
        have := ((det_esc.bind fun _ => det_ret _).ok (by omega) h2).1
        omega
      · obtain ⟨a, j, h1, h2⟩ := bind_to h
        have := pt_ok h1
        injection h2
        omega
theorem body_in : Body inP := ⟨fun s => det_peek (det_el s) fun hi _ h => el_lt (Nat.le_of_lt hi) h, fun {s f n i s' k} hi h => by
  unfold inP peek at h
  split at h
  · cases h
  · exact el_lt hi h⟩
theorem det_scan : Det scanP := (det_one _).bind fun _ => lp_det body_in _
end
end Go.Proofs.Ytaopjeobapnhbaa.nn
namespace Go.Proofs.Ytaopjeobapnhbaa.nn

/-- the value of n limbs of f at base B, the lowest first -/
def sm (B : Nat) (f : Nat → Nat) : Nat → Nat
  | 0 => 0
  | n + 1 => sm B f n + f n * B ^ n

/-- all limbs below B -/
def Lt (B : Nat) (f : Nat → Nat) (n : Nat) : Prop := ∀ i, i < n → f i < B

/-- trimmed: no zero limb at the end -/
def Trm (f : Nat → Nat) (n : Nat) : Prop := n = 0 ∨ f (n - 1) ≠ 0

/-- f with x at place k -/
def upd (f : Nat → Nat) (k x : Nat) : Nat → Nat := fun i => if i = k then x else f i

theorem upd_at (f : Nat → Nat) (k x : Nat) : upd f k x k = x := by simp [upd]
theorem upd_ne (f : Nat → Nat) {k x i : Nat} (h : i ≠ k) : upd f k x i = f i := by simp [upd, h]

theorem sm_congr (B : Nat) {f g : Nat → Nat} {n : Nat} (h : ∀ i, i < n → f i = g i) : sm B f n = sm B g n := by
  induction n with
  | zero => rfl
  | succ n ih => rw [sm, sm, ih (fun i hi => h i (by omega)), h n (by omega)]

theorem sm_lt {B : Nat} {f : Nat → Nat} {n : Nat} (h : Lt B f n) : sm B f n < B ^ n := by
  induction n with
  | zero => simp [sm]
  | succ n ih =>
    have h1 := ih (fun i hi => h i (by omega))
    have h2 : f n + 1 ≤ B := h n (by omega)
    have h3 : (f n + 1) * B ^ n ≤ B * B ^ n := Nat.mul_le_mul_right _ h2
    rw [sm, Nat.pow_succ, Nat.mul_comm (B ^ n) B]
    rw [Nat.add_mul] at h3
    omega

theorem Lt.mono {B : Nat} {f : Nat → Nat} {n m : Nat} (h : Lt B f n) (hm : m ≤ n) : Lt B f m := fun i hi => h i (by omega)

theorem Lt.upd {B : Nat} {f : Nat → Nat} {n k x : Nat} (h : Lt B f n) (hx : x < B) : Lt B (upd f k x) n := fun i hi => by
  by_cases e : i = k
  · subst e; rw [upd_at]; exact hx
  · rw [upd_ne f e]; exact h i hi

theorem sm_upd_out (B : Nat) (f : Nat → Nat) {n k : Nat} (x : Nat) (h : n ≤ k) : sm B (upd f k x) n = sm B f n :=
  sm_congr B fun i hi => upd_ne f (by omega)

theorem sm_snoc (B : Nat) (f : Nat → Nat) (n x : Nat) : sm B (upd f n x) (n + 1) = sm B f n + x * B ^ n := by
  rw [sm, sm_upd_out B f x (Nat.le_refl n), upd_at]

/-- the value from place k on -/
theorem sm_split (B : Nat) (f : Nat → Nat) (k m : Nat) : sm B f (k + m) = sm B f k + sm B (fun i => f (k + i)) m * B ^ k := by
  induction m with
  | zero => simp [sm]
  | succ m ih =>
    rw [← Nat.add_assoc, sm, ih, sm, Nat.add_mul, Nat.pow_add, Nat.mul_assoc, Nat.mul_comm (B ^ m) (B ^ k)]
    omega

theorem sm_upd (B : Nat) (f : Nat → Nat) {n k : Nat} (x : Nat) (h : k < n) : sm B (upd f k x) n + f k * B ^ k = sm B f n + x * B ^ k := by
  induction n with
  | zero => omega
  | succ n ih =>
    by_cases e : k = n
    · subst e
      rw [sm, sm_upd_out B f x (Nat.le_refl k), upd_at, sm]
      omega
    · rw [sm, sm, upd_ne f (by omega : n ≠ k)]
      have := ih (by omega)
      omega

theorem sm_ge {B : Nat} {f : Nat → Nat} {n : Nat} (h : f n ≠ 0) : B ^ n ≤ sm B f (n + 1) := by
  have : 1 * B ^ n ≤ f n * B ^ n := Nat.mul_le_mul_right _ (by omega)
  rw [sm]
  omega

end Go.Proofs.Ytaopjeobapnhbaa.nn
namespace Go.Proofs.Ytaopjeobapnhbaa.nn
open Go.RowKit

/-- the slice at address A reads as n integers f 0 .. f (n - 1) of kind k, in a block that is there -/
def Rd (w : World) (k : IntKind) (A : Option Addr) (n : Nat) (f : Nat → Nat) : Prop :=
  0 < n → ∃ b off, A = some ⟨b, off, none⟩ ∧ b < w.heap.size ∧ ∀ i, i < n → w.cell? ⟨b, off + i, none⟩ = some (.int k (f i : Int))

section
variable {w w' : World} {k : IntKind} {A : Option Addr} {n m : Nat} {f g : Nat → Nat}

theorem Rd.keep (h : Rd w k A n f) (hs : w.heap.size ≤ w'.heap.size) (hk : ∀ b o, b < w.heap.size → w'.cell? ⟨b, o, none⟩ = w.cell? ⟨b, o, none⟩) : Rd w' k A n f := fun hn => by
  obtain ⟨b, off, e, hb, hc⟩ := h hn
  exact ⟨b, off, e, by omega, fun i hi => (hk b _ hb).trans (hc i hi)⟩
theorem Rd.below (h : Rd w k A n f) (hb : Below w.heap.size w w') : Rd w' k A n f :=
  h.keep hb.size fun b o hlt => hb.cell (p := ⟨b, o, none⟩) hlt
theorem Rd.drew (h : Rd w k A n f) : Rd w.drew k A n f := h
theorem Rd.drewN (h : Rd w k A n f) (j : Nat) : Rd (w.drewN j) k A n f := h
theorem Rd.alloc (h : Rd w k A n f) (o : Obj) : Rd (w.alloc o) k A n f :=
  h.keep (by simp) fun _ _ hlt => World.cell?_alloc_lt w o _ hlt
theorem Rd.mono (h : Rd w k A n f) (hm : m ≤ n) : Rd w k A m f := fun h0 => by
  obtain ⟨b, off, e, hb, hc⟩ := h (by omega)
  exact ⟨b, off, e, hb, fun i hi => hc i (by omega)⟩
theorem Rd.lt {b o : Nat} (h : Rd w k A n f) (e : A = some ⟨b, o, none⟩) (h0 : 0 < n) : b < w.heap.size := by
  obtain ⟨b', o', e', hb, _⟩ := h h0
  rw [e] at e'
  injection e' with e'
  injection e' with e'
  omega
theorem Rd.none_ : Rd w k A 0 f := fun h => absurd h (by omega)

/-- the limbs as a list of values -/
def vl (k : IntKind) (f : Nat → Nat) (n : Nat) : List Value := (List.range n).map fun i => .int k (f i : Int)

theorem vl_length (k : IntKind) (f : Nat → Nat) (n : Nat) : (vl k f n).length = n := by simp [vl]
theorem vl_at (k : IntKind) (f : Nat → Nat) {n i : Nat} (h : i < n) : (vl k f n)[i]? = some (.int k (f i : Int)) := by simp [vl, h]
/-- what the call owns reads as its limbs -/
theorem Rd.of_own {base : Nat} {e : TypeId} {v : Value} (h : w.ownsRow base e 1 v n (vl k f n)) : ∃ A c, v = .slice A n c ∧ n ≤ c ∧ c ≤ maxLen ∧ Rd w k A n f := by
  have hh := h
  rcases h.2 with ⟨rfl, rfl⟩ | ⟨b, cap, cur, rfl, _, hb, hc, hm, _⟩
  · exact ⟨none, 0, rfl, Nat.le_refl _, by simp [maxLen], Rd.none_⟩
  · refine ⟨_, cap, rfl, hc, hm, fun _ => ⟨b, 0, rfl, (Array.getElem?_eq_some_iff.1 hb).1, fun i hi => ?_⟩⟩
    rw [Nat.zero_add, hh.cellAt i (by omega)]
    exact vl_at k f hi

end

end Go.Proofs.Ytaopjeobapnhbaa.nn
namespace Go.Proofs.Ytaopjeobapnhbaa.nn
open Go.RowKit

/-- n limbs of f, then h's -/
def jn (f : Nat → Nat) (n : Nat) (h : Nat → Nat) : Nat → Nat := fun i => if i < n then f i else h (i - n)
theorem jn_lo (f h : Nat → Nat) {n i : Nat} (hi : i < n) : jn f n h i = f i := by simp [jn, hi]
theorem jn_hi (f h : Nat → Nat) (n i : Nat) : jn f n h (n + i) = h i := by
  rw [jn, if_neg (by omega), Nat.add_sub_cancel_left]
theorem sm_jn (B : Nat) (f h : Nat → Nat) (n m : Nat) : sm B (jn f n h) (n + m) = sm B f n + sm B h m * B ^ n := by
  rw [sm_split, sm_congr B (f := jn f n h) (g := f) (fun i hi => jn_lo f h hi), sm_congr B (f := fun i => jn f n h (n + i)) (g := h) (fun i _ => jn_hi f h n i)]
theorem Lt.jn {B : Nat} {f h : Nat → Nat} {n m : Nat} (lf : Lt B f n) (lh : Lt B h m) : Lt B (nn.jn f n h) (n + m) := fun i hi => by
  by_cases e : i < n
  · rw [jn_lo f h e]; exact lf i e
  · have := jn_hi f h n (i - n)
    rw [show n + (i - n) = i from by omega] at this
    rw [this]; exact lh _ (by omega)

section
variable {P : Program} {w : World}

end
end Go.Proofs.Ytaopjeobapnhbaa.nn
namespace Go.Proofs.Ytaopjeobapnhbaa.nn
open Go.RowKit

/-- the text of n bytes f -/
def pc (f : Nat → Nat) (n : Nat) : ByteArray := strOfNums ((List.range n).map fun i => (f i : Int))
/-- a text made of a slice of bytes, nil or not -/
theorem conv_row (A : Option Addr) (n c : Nat) (f : Nat → Nat) (w : World) (h : Rd w .u8 A n f) :
    (convert 40 9 (.slice A n c)).run Try.prog w = .ok (.string (pc f n)) w := by
  by_cases h0 : 0 < n
  · obtain ⟨b, off, rfl, _, hc⟩ := h h0
    exact run_convert_bytes_arg w 40 5 Try.underlying40 Try.underlying5 b off n c _ (by simp) (fun i hi => by
      rw [hc i hi]
      simp [hi]) 9 Try.underlying9
  · obtain rfl : n = 0 := by omega
    have e : pc f 0 = ByteArray.empty := rfl
    rw [e]
    cases A with
    | none => exact run_convert_bytes_nil w 40 5 Try.underlying40 Try.underlying5 0 c 9 Try.underlying9
    | some a =>
      rw [run_convert_bytes_string w 40 9 5 (some a) 0 c Try.underlying40 Try.underlying5 Try.underlying9]
      exact run_bytesToString w a 0 c [] (run_loadCells_list (P := Try.prog) w a [] (fun j v hv => by simp at hv))
end Go.Proofs.Ytaopjeobapnhbaa.nn
namespace Go.Proofs.Ytaopjeobapnhbaa.nn
open Go.RowKit

def gL (L : List UInt8) : Nat → Nat := fun i => (L.getD i 0).toNat
section
variable {i : Nat} {L M : List UInt8}
theorem gL_left (h : i < L.length) : gL (L ++ M) i = gL L i := by
  unfold gL
  simp [List.getD, List.getElem?_append_left h]
theorem gL_right : gL (L ++ M) (L.length + i) = gL M i := by
  unfold gL
  simp [List.getD, List.getElem?_append_right]
theorem gL_at (h : i < L.length) : gL L i = (L[i]).toNat := by unfold gL; rw [List.getD_eq_getElem?_getD, List.getElem?_eq_getElem h]; rfl
theorem bc_vl (L : List UInt8) : Lib.byteCells L = vl .u8 (gL L) L.length := by
  apply List.ext_getElem?
  intro i
  by_cases h : i < L.length
  · rw [vl_at .u8 _ h, gL_at h]
    unfold Lib.byteCells
    rw [List.getElem?_map, List.getElem?_eq_getElem h]
    rfl
  · rw [List.getElem?_eq_none (by rw [Lib.byteCells_length]; omega), List.getElem?_eq_none (by rw [vl_length]; omega)]
theorem pc_list (L : List UInt8) : pc (gL L) L.length = ⟨L.toArray⟩ := by
  unfold pc strOfNums
  congr 2
  apply List.ext_getElem
  · simp
  · intro j h1 h2
    simp only [List.getElem_map, List.getElem_range]
    rw [gL_at h2]
    show UInt8.ofNat (L[j]).toNat = _
    exact UInt8.ofNat_toNat
/-- what the call owns reads as its bytes -/
theorem rd_list {w : World} {base : Nat} {e : TypeId} {v : Value} {n : Nat} (hn : n = L.length) (h : w.ownsRow base e 1 v n (Lib.byteCells L)) : ∃ A c, v = .slice A n c ∧ n ≤ c ∧ c ≤ maxLen ∧ Rd w .u8 A n (gL L) := by
  subst hn
  rw [bc_vl] at h
  exact Rd.of_own h
/-- what the call owns it owns behind a call that only makes memory -/
theorem own_below {w w' : World} {base : Nat} {e : TypeId} {size n : Nat} {v : Value} {xs : List Value} (h : w.ownsRow base e size v n xs) (hb : Below w.heap.size w w') : w'.ownsRow base e size v n xs :=
  h.kept (row := none) ⟨hb.os, hb.tape, hb.output, hb.size, fun k hk _ => hb.block k hk⟩ (by
    cases hv : v.ownBlock with
    | none => exact .inl rfl
    | some k => exact .inr (by simp))
/-- the text made of it -/
theorem conv_list {w : World} {base : Nat} {e : TypeId} {v : Value} {n : Nat} (hn : n = L.length) (h : w.ownsRow base e 1 v n (Lib.byteCells L)) :
    (convert 40 9 v).run Try.prog w = .ok (.string ⟨L.toArray⟩) w := by
  obtain ⟨A, c, rfl, _, _, hr⟩ := rd_list hn h
  subst hn
  rw [← pc_list]
  exact conv_row A L.length c (gL L) w hr
end

section
variable {P : Program} {w : World}
theorem wpList_appS {ops : Array Oper} {rest : List Oper} {o : Oper} {a : Act} {Q : Exit → Act → World → Prop} (hgd : o.guard = none) (s x : Operand) (t u : TypeId)
    (ho : o.op = .call { callee := .builtin .append, args := #[s, x], argTypes := #[t, u] })
    (base : Nat) (e : TypeId) (i : TypeInfo) (ht : P.underlying t = some (.slice e)) (hu : P.underlying u = some .string) (hi : P.info? e = some i) (hz : i.zero = some (.int .u8 0))
    (hsize : i.size = 1) (hby : i.bytes = 1)
    (v : Value) (n : Nat) (L : List UInt8) (hs : a.eval s = v) (hown : w.ownsRow base e 1 v n (Lib.byteCells L)) (T : ByteArray) (hx : a.eval x = .string T)
    (hle : n + T.size ≤ 140737488355328) (hbase : base ≤ w.heap.size)
    (k : ∀ v' w', w'.ownsRow base e 1 v' (n + T.size) (Lib.byteCells (L ++ T.data.toList)) → Below base w w' → wpList P ops Q rest (a.put o.dst v') w') : wpList P ops Q (o :: rest) a w := by
  refine Lib.wpList_append_own_string w hgd s x t u ho base e i ht hu hi hz hsize hby v n _ hs hown T hx (by unfold maxLen; omega) hle hbase fun v' w' h1 h2 _ => k v' w' ?_ ((Below.refl base w).grown h2 hbase (fun k hk => (hown.lt k hk).1))
  rw [Lib.byteCells_append, ← Lib.strCells_eq]
  exact h1
end
end Go.Proofs.Ytaopjeobapnhbaa.nn
namespace Go.Proofs.Ytaopjeobapnhbaa.nn

/-- a list is right UTF-8 -/
def Val (L : List UInt8) : Prop := al (gL L) t0 L.length = true ∧ (tk (gL L) t0 L.length).c = 0
section
variable {f g : Nat → Nat} {n m i j k : Nat} {L M R : List UInt8}
theorem go_zero {t t' : Tl} (h : t.c = 0) (h' : t'.c = 0) : go f t (n + 1) = go f t' (n + 1) := by
  induction n with
  | zero =>
    unfold go
    simp only [go, if_true]
    unfold nx ok
    rw [if_pos h, if_pos h', if_pos h, if_pos h']
  | succ n ih =>
    have e : ∀ t, go f t (n + 1 + 1) = if (go f t (n + 1)).2 then (nx (go f t (n + 1)).1 (f (n + 1)), ok (go f t (n + 1)).1 (f (n + 1))) else go f t (n + 1) := fun _ => rfl
    rw [e, e, ih]
theorem al_zero_state {t t' : Tl} (h : t.c = 0) (h' : t'.c = 0) : al f t n = al f t' n := by
  cases n with
  | zero => rfl
  | succ n => unfold al; rw [go_zero h h']
theorem tk_zero_state {t t' : Tl} (h : t.c = 0) (h' : t'.c = 0) : (tk f t n).c = (tk f t' n).c := by
  cases n with
  | zero => exact h.trans h'.symm
  | succ n => unfold tk; rw [go_zero h h']
theorem val_nil : Val [] := ⟨rfl, rfl⟩
theorem val_app (h : Val L) (h' : Val M) : Val (L ++ M) := by
  have a1 : al (gL (L ++ M)) t0 L.length = true := by rw [al_congr (g := gL L) fun i hi => gL_left hi]; exact h.1
  have a2 : (tk (gL (L ++ M)) t0 L.length).c = 0 := by rw [tk_congr (g := gL L) fun i hi => gL_left hi]; exact h.2
  refine ⟨?_, ?_⟩
  · rw [List.length_append, al_add a1, al_zero_state a2 (show t0.c = 0 from rfl), al_congr (g := gL M) fun i _ => gL_right]
    exact h'.1
  · rw [List.length_append, tk_add a1, tk_zero_state a2 (show t0.c = 0 from rfl), tk_congr (g := gL M) fun i _ => gL_right]
    exact h'.2
/-- one code point is right -/
theorem val_point (hk : nd (gL L 0) = L.length) (h0 : L.length ≠ 0) (h : al (gL L) t0 L.length = true) : Val L :=
  ⟨h, by have := due_at h (by omega) (by omega); omega⟩
theorem raw_at (hf : ∀ j, j < k → f (i + j) < 256) (hj : j < k) : gL (raw f i k) j = f (i + j) := by
  unfold gL raw
  rw [List.getD_eq_getElem?_getD, List.getElem?_map, List.getElem?_range hj]
  show (UInt8.ofNat (f (i + j))).toNat = _
  rw [UInt8.toNat_ofNat']
  exact Nat.mod_eq_of_lt (hf j hj)
theorem val_raw (hf : ∀ j, f j < 256) (hp : pok (sh f i) n = true) : Val (raw f i (nd (f i))) := by
  have q := pok_iff.1 hp
  simp only [sh, Nat.add_zero] at q
  refine val_point ?_ ?_ ?_
  · rw [raw_len, raw_at (fun j _ => hf _) (by omega)]; rfl
  · rw [raw_len]; exact q.2.1
  · rw [raw_len, al_congr (g := sh f i) fun j hj => raw_at (fun j _ => hf _) hj]
    exact q.2.2.2
theorem bt_list (L : List UInt8) (i : Nat) : bt ⟨L.toArray⟩ i = gL L i := by
  by_cases h : i < L.length
  · rw [bt_at (s := ⟨L.toArray⟩) (i := i) h]
    unfold gL
    rw [List.getD_eq_getElem?_getD, List.getElem?_eq_getElem h]
    rfl
  · unfold bt gL
    rw [List.getD_eq_getElem?_getD, List.getElem?_eq_none (by omega), dif_neg (show ¬ i < (⟨L.toArray⟩ : ByteArray).size from h)]
    rfl
theorem list_bt (s : ByteArray) (i : Nat) : gL s.data.toList i = bt s i := by
  have := bt_list s.data.toList i
  rw [← this]
theorem len_data (s : ByteArray) : s.data.toList.length = s.size := rfl
theorem enc_len (u : Nat) : (encL u).length ≤ 4 := by
  unfold encL
  show (encF (u : Int)).size ≤ 4
  by_cases h : isPt (u : Int)
  · rw [encF_yes h]
    have := enc_bytes h
    unfold EncB at this
    omega
  · unfold encF; rw [if_neg h]; decide
theorem enc_val_of {E : ByteArray} {C : Nat} (hb : EncB (bt E) E.size C) (hs : ¬ (55296 ≤ C ∧ C ≤ 57343)) : Val E.data.toList := by
  have h1 := (enc_point (n := E.size) hb hs (fun i _ => rfl) (Nat.le_refl _)).1
  have hpos : 0 < E.size := by unfold EncB at hb; omega
  have hp : pok (bt E) E.size = true := by
    cases hh : pok (bt E) E.size with
    | true => rfl
    | false => unfold ptK at h1; rw [hh, if_neg (by decide)] at h1; omega
  have hk : nd (bt E 0) = E.size := by unfold ptK at h1; rwa [hp, if_pos rfl] at h1
  have q := pok_iff.1 hp
  have hl := len_data E
  refine val_point ?_ ?_ ?_
  · rw [list_bt]; exact hk
  · rw [hl]; omega
  · rw [hl, al_congr (g := bt E) fun j _ => list_bt _ j, ← hk]
    exact q.2.2.2
theorem enc_val (u : Nat) : Val (encL u) := by
  by_cases h : isPt (u : Int)
  · have hb := enc_bytes h
    unfold encL
    rw [encF_yes h]
    exact enc_val_of hb (by unfold isPt at h; omega)
  · unfold encL encF; rw [if_neg h]; exact val_nil
theorem enc_low {u : Nat} (h : u < 128) : encL u = [UInt8.ofNat u] := by
  have hp : isPt (u : Int) := by unfold isPt; omega
  unfold encL
  rw [encF_yes hp, ← str1 (by omega) (by omega)]
  rfl
theorem val_low {x : Nat} (h : x < 128) : Val [UInt8.ofNat x] := by rw [← enc_low h]; exact enc_val x

/-! what is read is right -/
theorem four_len {low : Bool} {u : Nat} (h : four low f n i = .ok u k) : k = i + 4 := by
  unfold four at h
  obtain ⟨_, j1, h1, h⟩ := bind_to h
  obtain ⟨_, j2, h2, h⟩ := bind_to h
  obtain ⟨_, j3, h3, h⟩ := bind_to h
  have := one_lt h1
  have := one_lt h2
  have := one_lt h3
  have := one_lt h
  omega
theorem esck_low {c x : Nat} (h : escK c = some x) : x = 117 ∨ x < 128 := by
  unfold escK at h
  split at h
  · injection h with h; exact .inl h.symm
  · split at h
    · cases h
    · injection h with h
      subst h
      refine .inr ?_
      unfold pl
      repeat' split
      all_goals omega
theorem esc_right (h : escP f n i = .ok L k) : Val L ∧ L.length ≤ k - i ∧ i < k := by
  unfold escP at h
  obtain ⟨x, j1, h1, h⟩ := bind_to h
  obtain ⟨rfl, _, hx⟩ := one_lt h1
  split at h
  · unfold uP at h
    obtain ⟨u, j2, h2, h⟩ := bind_to h
    have e2 := four_len h2
    split at h
    · injection h with h3 h4
      subst h3
      have := enc_len u
      exact ⟨enc_val _, by omega, by omega⟩
    · unfold pairP at h
      obtain ⟨_, j3, h3, h⟩ := bind_to h
      obtain ⟨_, j4, h4, h⟩ := bind_to h
      obtain ⟨v, j5, h5, h⟩ := bind_to h
      have e3 := one_lt h3
      have e4 := one_lt h4
      have e5 := four_len h5
      injection h with h6 h7
      subst h6
      have := enc_len (65536 + (u - 55296) * 1024 + v - 56320)
      exact ⟨enc_val _, by omega, by omega⟩
  · rename_i hne
    injection h with h3 h4
    subst h3
    have hlow : x < 128 := (esck_low hx).resolve_left hne
    exact ⟨val_low hlow, by simp; omega, by omega⟩
theorem in_right (hf : ∀ j, f j < 256) {out s' : List UInt8} (hv : Val out) (h : inP out f n i = .ok (.inl s') k) : Val s' ∧ s'.length ≤ out.length + (k - i) ∧ i < k := by
  unfold inP peek at h
  split at h
  · cases h
  · unfold elP at h
    split at h
    · obtain ⟨_, _, _, h⟩ := bind_to h
      injection h with h1
      cases h1
    · split at h
      · unfold fail_ at h; split at h <;> cases h
      · split at h
        · obtain ⟨_, j, h1, h⟩ := bind_to h
          obtain ⟨t, j2, h2, h⟩ := bind_to h
          injection h with h3 h4
          injection h3 with h3
          subst h3 h4
          have e1 := one_lt h1
          obtain ⟨a, b, c⟩ := esc_right h2
          exact ⟨val_app hv a, by rw [List.length_append]; omega, by omega⟩
        · obtain ⟨t, j2, h2, h⟩ := bind_to h
          injection h with h3 h4
          injection h3 with h3
          subst h3 h4
          obtain ⟨a1, a2, rfl, rfl, a5, a6⟩ := pt_ok h2
          exact ⟨val_app hv (val_raw hf a2), by rw [List.length_append, raw_len]; omega, by omega⟩
theorem in_close {out r : List UInt8} (h : inP out f n i = .ok (.inr r) k) : r = out ∧ k = i + 1 ∧ f i = 34 := by
  unfold inP peek at h
  split at h
  · cases h
  · unfold elP at h
    split at h
    · obtain ⟨_, j, h1, h⟩ := bind_to h
      injection h with h3 h4
      injection h3 with h3
      have := one_lt h1
      exact ⟨h3.symm, by omega, by assumption⟩
    · split at h
      · unfold fail_ at h; split at h <;> cases h
      · split at h
        · obtain ⟨_, j, h1, h⟩ := bind_to h
          obtain ⟨t, j2, h2, h⟩ := bind_to h
          injection h with h3 h4
          cases h3
        · obtain ⟨t, j2, h2, h⟩ := bind_to h
          injection h with h3 h4
          cases h3
/-- WHAT IS READ IS RIGHT -/
theorem scan_right (hf : ∀ j, f j < 256) (h : scanP f n 0 = .ok L k) : Val L ∧ L.length + 2 ≤ k ∧ k ≤ n ∧ f 0 = 34 ∧ f (k - 1) = 34 := by
  have hk := (det_scan.ok (Nat.zero_le _) h).2.1
  unfold scanP at h
  obtain ⟨_, j, h1, h⟩ := bind_to h
  obtain ⟨rfl, h2, h3⟩ := one_lt h1
  have h0 : f 0 = 34 := by
    unfold is_ at h3
    split at h3
    · assumption
    · cases h3
  have := lp_inv body_in (i := 0 + 1) (I := fun s i => Val s ∧ s.length + 1 ≤ i) (J := fun r k => Val r ∧ r.length + 2 ≤ k ∧ f (k - 1) = 34)
    (fun {s i s' k} hi hI hb => by
      obtain ⟨a, b, c⟩ := in_right hf hI.1 hb
      exact ⟨a, by omega⟩)
    (fun {s i r k} hi hI hb => by
      obtain ⟨rfl, rfl, h4⟩ := in_close hb
      exact ⟨hI.1, by omega, by rwa [Nat.add_sub_cancel]⟩)
    (by omega) ⟨val_nil, Nat.le_refl 1⟩ h
  exact ⟨this.1, this.2.1, hk, h0, this.2.2⟩
end
end Go.Proofs.Ytaopjeobapnhbaa.nn
namespace Go.Proofs.Ytaopjeobapnhbaa.nn

def Rs.add {α : Type} (k : Nat) : Rs α → Rs α
  | .ok a j => .ok a (k + j)
  | .no q e => .no (k + q) e
/-- a reader that sees only what stands from its place on -/
def Shf {α : Type} (p : Prs α) : Prop := ∀ (f : Nat → Nat) (n i k : Nat), k ≤ n → p f n (k + i) = (p (sh f k) (n - k) i).add k
theorem shf_one {α : Type} (t : Nat → Option α) : Shf (one t) := by
  intro f n i k hk
  unfold one
  by_cases h : n ≤ k + i
  · rw [if_pos h, if_pos (by omega)]
    simp only [Rs.add]
    rw [show k + (n - k) = n by omega]
  · rw [if_neg h, if_neg (by omega)]
    simp only [sh]
    cases t (f (k + i)) with
    | none => rfl
    | some a => simp only [Rs.add]; rw [Nat.add_assoc]
theorem shf_ret {α : Type} (a : α) : Shf (ret a) := fun _ _ _ _ _ => rfl
theorem shf_bind {α β : Type} {p : Prs α} {q : α → Prs β} (hp : Shf p) (hq : ∀ a, Shf (q a)) : Shf (p.bind q) := by
  intro f n i k hk
  unfold Prs.bind
  rw [hp f n i k hk]
  cases p (sh f k) (n - k) i with
  | no q e => rfl
  | ok a j => exact hq a f n j k hk
theorem shf_four (low : Bool) : Shf (four low) := shf_bind (shf_one _) fun _ => shf_bind (shf_one _) fun _ => shf_bind (shf_one _) fun _ => shf_one _
theorem shf_pair (u : Nat) : Shf (pairP u) := shf_bind (shf_one _) fun _ => shf_bind (shf_one _) fun _ => shf_bind (shf_four _) fun _ => shf_ret _
theorem shf_u : Shf uP := shf_bind (shf_four _) fun u => by
  split
  · exact shf_ret _
  · exact shf_pair u
theorem shf_esc : Shf escP := shf_bind (shf_one _) fun u => by
  split
  · exact shf_u
  · exact shf_ret _

/-- the i-th byte of a unit, behind those that are read as u -/
def stU (low : Bool) (i u c : Nat) : Option Nat := if i = 0 then (if c = 92 then some 0 else none) else if i = 1 then (if c = 117 then some 0 else none) else fd low (i - 2) u c
def sts (low : Bool) : Nat → Nat → Nat → Prs Nat
  | 0, _, u => ret u
  | m + 1, i, u => (one (stU low i u)).bind fun a => sts low m (i + 1) a
/-- a unit: its head and four digits -/
def unP (low : Bool) : Prs Nat := sts low 6 0 0
theorem shf_sts (low : Bool) : ∀ m i u, Shf (sts low m i u)
  | 0, _, _ => shf_ret _
  | m + 1, i, _ => shf_bind (shf_one _) fun a => shf_sts low m (i + 1) a
section
variable {f : Nat → Nat} {n i u : Nat} {low : Bool}
theorem sts_step (m j : Nat) : sts low (m + 1) j u f n i = if n ≤ i then .no n 3 else match stU low j u (f i) with | some a => sts low m (j + 1) a f n (i + 1) | none => .no i 4 := by
  show ((one (stU low j u)).bind fun a => sts low m (j + 1) a) f n i = _
  unfold Prs.bind one
  by_cases h : n ≤ i
  · rw [if_pos h, if_pos h]
  · rw [if_neg h, if_neg h]
    cases stU low j u (f i) <;> rfl
theorem sts_four : sts low 4 2 0 f n i = four low f n i := by
  unfold four
  rw [sts_step]
  unfold Prs.bind one
  by_cases h : n ≤ i
  · rw [if_pos h, if_pos h]
  · rw [if_neg h, if_neg h]
    show (match fd low 0 0 (f i) with | some a => sts low 3 3 a f n (i + 1) | none => .no i 4) = _
    cases h1 : fd low 0 0 (f i) with
    | none => rfl
    | some a =>
      simp only
      rw [sts_step]
      by_cases h : n ≤ i + 1
      · rw [if_pos h, if_pos h]
      · rw [if_neg h, if_neg h]
        show (match fd low 1 a (f (i + 1)) with | some a => sts low 2 4 a f n (i + 1 + 1) | none => .no (i + 1) 4) = _
        cases h1 : fd low 1 a (f (i + 1)) with
        | none => rfl
        | some b =>
          simp only
          rw [sts_step]
          by_cases h : n ≤ i + 1 + 1
          · rw [if_pos h, if_pos h]
          · rw [if_neg h, if_neg h]
            show (match fd low 2 b (f (i + 1 + 1)) with | some a => sts low 1 5 a f n (i + 1 + 1 + 1) | none => .no (i + 1 + 1) 4) = _
            cases h1 : fd low 2 b (f (i + 1 + 1)) with
            | none => rfl
            | some c =>
              simp only
              rw [sts_step]
              by_cases h : n ≤ i + 1 + 1 + 1
              · rw [if_pos h, if_pos h]
              · rw [if_neg h, if_neg h]
                show (match fd low 3 c (f (i + 1 + 1 + 1)) with | some a => sts low 0 6 a f n (i + 1 + 1 + 1 + 1) | none => .no (i + 1 + 1 + 1) 4) = _
                cases fd low 3 c (f (i + 1 + 1 + 1)) <;> rfl
theorem un_form : unP low f n i = if n ≤ i then .no n 3 else if f i = 92 then (if n ≤ i + 1 then .no n 3 else if f (i + 1) = 117 then four low f n (i + 2) else .no (i + 1) 4) else .no i 4 := by
  unfold unP
  rw [sts_step]
  by_cases h : n ≤ i
  · rw [if_pos h, if_pos h]
  · rw [if_neg h, if_neg h]
    by_cases h1 : f i = 92
    · rw [if_pos h1, show stU low 0 0 (f i) = some 0 by unfold stU; rw [if_pos rfl, if_pos h1]]
      simp only
      rw [sts_step]
      by_cases h2 : n ≤ i + 1
      · rw [if_pos h2, if_pos h2]
      · rw [if_neg h2, if_neg h2]
        by_cases h3 : f (i + 1) = 117
        · rw [if_pos h3, show stU low (0 + 1) 0 (f (i + 1)) = some 0 by unfold stU; rw [if_neg (by decide), if_pos rfl, if_pos h3]]
          exact sts_four
        · rw [if_neg h3, show stU low (0 + 1) 0 (f (i + 1)) = none by unfold stU; rw [if_neg (by decide), if_pos rfl, if_neg h3]]
    · rw [if_neg h1, show stU low 0 0 (f i) = none by unfold stU; rw [if_pos rfl, if_neg h1]]
theorem un_pair : pairP u f n i = (unP true).bind (fun v => ret (encL (65536 + (u - 55296) * 1024 + v - 56320))) f n i := by
  unfold pairP
  conv => rhs; unfold Prs.bind
  rw [un_form]
  unfold Prs.bind
  unfold one is_
  by_cases h : n ≤ i
  · rw [if_pos h, if_pos h]
  · rw [if_neg h, if_neg h]
    by_cases h1 : f i = 92
    · rw [if_pos h1, if_pos h1]
      simp only
      by_cases h2 : n ≤ i + 1
      · rw [if_pos h2, if_pos h2]
      · rw [if_neg h2, if_neg h2]
        by_cases h3 : f (i + 1) = 117
        · rw [if_pos h3, if_pos h3]
        · rw [if_neg h3, if_neg h3]
    · rw [if_neg h1, if_neg h1]
/-- an escape by digits, its head with it -/
def rpP : Prs (List UInt8) := (unP false).bind fun u => if u < 55296 ∨ 56319 < u then ret (encL u) else (unP true).bind fun v => ret (encL (65536 + (u - 55296) * 1024 + v - 56320))
theorem rp_esc (h0 : f i = 92) (h1 : f (i + 1) = 117) (hn : i + 1 < n) : escP f n (i + 1) = rpP f n i := by
  have e1 : one escK f n (i + 1) = .ok 117 (i + 2) := by
    unfold one
    rw [if_neg (by omega), h1]
    rfl
  unfold escP
  rw [bind_ok e1, if_pos rfl]
  have hun : unP false f n i = four false f n (i + 2) := by rw [un_form, if_neg (by omega), if_pos h0, if_neg (by omega), if_pos h1]
  unfold uP rpP
  cases h4 : four false f n (i + 2) with
  | no q e => rw [bind_no h4, bind_no (hun.trans h4)]
  | ok u k =>
    rw [bind_ok h4, bind_ok (hun.trans h4)]
    by_cases hu : u < 55296 ∨ 56319 < u
    · rw [if_pos hu, if_pos hu]
    · rw [if_neg hu, if_neg hu, un_pair]
/-- can digits behind these make the half that is wanted (another one) -/
def fitB (low : Bool) (u b : Nat) : Bool := if low then decide (u * 2 ^ b ≤ 57343) && decide (56320 ≤ u * 2 ^ b + (2 ^ b - 1)) else decide (u * 2 ^ b < 56320) || decide (57343 < u * 2 ^ b + (2 ^ b - 1))
theorem fit_bad {d : Nat} (hi : 2 ≤ i) (hi6 : i < 6) (hu : u < 16 ^ (i - 2)) (hf : fitB low u (4 * (6 - i)) = true) (hd : d < 16) : fitB low (16 * u + d) (4 * (5 - i)) = !fbad low (i - 2) u d := by
  rw [Bool.eq_iff_iff]
  unfold fitB at hf ⊢
  unfold fbad
  have : i = 2 ∨ i = 3 ∨ i = 4 ∨ i = 5 := by omega
  rcases this with rfl | rfl | rfl | rfl <;> cases low <;> simp at hu hf ⊢ <;> omega
end
end Go.Proofs.Ytaopjeobapnhbaa.nn
namespace Go.Proofs.Ytaopjeobapnhbaa.nn

/-- the base of half words -/
def W32 : Nat := 4294967296

/-- a guess q with the rest r of U by the high half y1; Y is the divisor, d the next half -/
structure Half (U d y1 y0 q r : Nat) : Prop where
  eq : q * y1 + r = U
  lt : U * W32 + d < (q + 1) * (y1 * W32 + y0)

/-- the guess is too great -/
theorem Half.next {U d y1 y0 q r : Nat} (h : Half U d y1 y0 q r) (hU : U < y1 * W32 + y0) (hd : d < W32) (hc : W32 ≤ q ∨ r * W32 + d < q * y0) : 0 < q ∧ Half U d y1 y0 (q - 1) (r + y1) := by
  have hlt : U * W32 + d < q * (y1 * W32 + y0) := by
    rcases hc with hc | hc
    · have h1 : W32 * (y1 * W32 + y0) ≤ q * (y1 * W32 + y0) := Nat.mul_le_mul_right _ hc
      have h2 : W32 * (U + 1) ≤ W32 * (y1 * W32 + y0) := Nat.mul_le_mul_left _ hU
      rw [Nat.mul_add, Nat.mul_comm W32 U] at h2
      omega
    · rw [← h.eq, Nat.mul_add, Nat.add_mul, ← Nat.mul_assoc]
      omega
  have h0 : 0 < q := by
    rcases Nat.eq_zero_or_pos q with h0 | h0
    · rw [h0, Nat.zero_mul] at hlt; omega
    · exact h0
  obtain ⟨p, rfl⟩ : ∃ p, q = p + 1 := ⟨q - 1, by omega⟩
  refine ⟨h0, ?_, by rw [Nat.add_sub_cancel]; exact hlt⟩
  rw [Nat.add_sub_cancel, ← h.eq, Nat.add_mul]
  omega

theorem Half.fits {U d y1 y0 q r : Nat} (h : Half U d y1 y0 q r) (hc : q * y0 ≤ r * W32 + d) : q = (U * W32 + d) / (y1 * W32 + y0) ∧ q * (y1 * W32 + y0) ≤ U * W32 + d := by
  have h1 : q * (y1 * W32 + y0) ≤ U * W32 + d := by
    rw [← h.eq, Nat.mul_add, Nat.add_mul, ← Nat.mul_assoc]
    omega
  exact ⟨(Nat.div_eq_of_lt_le h1 h.lt).symm, h1⟩

/-- a rest as great as a half word ends it -/
theorem Half.wide {U d y1 y0 q r : Nat} (h : Half U d y1 y0 q r) (hq : q ≤ W32) (hy0 : y0 < W32) (hr : W32 ≤ r) : q = (U * W32 + d) / (y1 * W32 + y0) ∧ q * (y1 * W32 + y0) ≤ U * W32 + d := by
  refine h.fits ?_
  have h1 : q * y0 ≤ W32 * W32 := Nat.mul_le_mul hq (Nat.le_of_lt hy0)
  have h2 : W32 * W32 ≤ r * W32 := Nat.mul_le_mul_right _ hr
  omega

section
/-- the base of wide limbs, as in AddTimes; B is any base here -/
structure Guess (B U d y1 y0 q r : Nat) : Prop where
  eq : q * y1 + r = U
  lt : U * B + d < (q + 1) * (y1 * B + y0)

variable {B U d y1 y0 q r : Nat}

/-- the guess is too great -/
theorem Guess.next (h : Guess B U d y1 y0 q r) (hc : r * B + d < q * y0) : 0 < q ∧ Guess B U d y1 y0 (q - 1) (r + y1) := by
  have hlt : U * B + d < q * (y1 * B + y0) := by
    rw [← h.eq, Nat.mul_add, Nat.add_mul, ← Nat.mul_assoc]
    omega
  have h0 : 0 < q := by
    rcases Nat.eq_zero_or_pos q with h0 | h0
    · rw [h0, Nat.zero_mul] at hlt; omega
    · exact h0
  obtain ⟨p, rfl⟩ : ∃ p, q = p + 1 := ⟨q - 1, by omega⟩
  refine ⟨h0, ?_, by rw [Nat.add_sub_cancel]; exact hlt⟩
  rw [Nat.add_sub_cancel, ← h.eq, Nat.add_mul]
  omega

theorem Guess.fits (h : Guess B U d y1 y0 q r) (hc : q * y0 ≤ r * B + d) : q = (U * B + d) / (y1 * B + y0) := by
  have h1 : q * (y1 * B + y0) ≤ U * B + d := by
    rw [← h.eq, Nat.mul_add, Nat.add_mul, ← Nat.mul_assoc]
    omega
  exact (Nat.div_eq_of_lt_le h1 h.lt).symm

/-- a rest as great as the base ends it -/
theorem Guess.wide (h : Guess B U d y1 y0 q r) (hq : q ≤ B) (hy0 : y0 < B) (hr : B ≤ r) : q = (U * B + d) / (y1 * B + y0) := by
  refine h.fits ?_
  have h1 : q * y0 ≤ B * B := Nat.mul_le_mul hq (Nat.le_of_lt hy0)
  have h2 : B * B ≤ r * B := Nat.mul_le_mul_right _ hr
  omega

/-- what is guessed -/
def gs (B x2 x1 x0 y1 y0 : Nat) : Nat := if y1 ≤ x2 then B - 1 else ((x2 * B + x1) * B + x0) / (y1 * B + y0)

end
end Go.Proofs.Ytaopjeobapnhbaa.nn
namespace Go.Proofs.Ytaopjeobapnhbaa.nn

theorem sm_above {B : Nat} {f : Nat → Nat} {k n : Nat} (h : ∀ j, k ≤ j → j < n → f j = 0) (hk : k ≤ n) : sm B f n = sm B f k := by
  obtain ⟨m, rfl⟩ : ∃ m, n = k + m := ⟨n - k, by omega⟩
  rw [sm_split, sm_congr B (f := fun i => f (k + i)) (g := fun _ => 0) (fun i hi => h (k + i) (by omega) (by omega))]
  have : sm B (fun _ => 0) m = 0 := by
    clear h hk
    induction m with
    | zero => rfl
    | succ m ih => rw [sm, ih]; simp
  rw [this]
  simp

theorem sm_small {B : Nat} {f : Nat → Nat} {n : Nat} (h : sm B f (n + 1) < B ^ n) : f n = 0 := by
  rcases Nat.eq_zero_or_pos (f n) with h0 | h0
  · exact h0
  · have := sm_ge (B := B) (f := f) (n := n) (by omega); omega

theorem sm_first (B : Nat) (f : Nat → Nat) (i n : Nat) : sm B (fun j => f (i + j)) (n + 1) = f i + sm B (fun j => f (i + 1 + j)) n * B := by
  rw [Nat.add_comm n 1, sm_split]
  have e1 : sm B (fun j => f (i + j)) 1 = f i := by simp [sm]
  rw [e1, Nat.pow_one]
  congr 3
  funext j
  rw [← Nat.add_assoc]

/-- the stretch from i on, of n limbs, replaced -/
def put (f : Nat → Nat) (i n : Nat) (f1 : Nat → Nat) : Nat → Nat := fun j => if i ≤ j ∧ j < i + n then f1 (j - i) else f j
theorem put_in (f : Nat → Nat) {i n j : Nat} (f1 : Nat → Nat) (h : j < n) : put f i n f1 (i + j) = f1 j := by
  simp only [put]
  rw [if_pos (by omega), Nat.add_sub_cancel_left]
theorem put_out (f : Nat → Nat) {i n j : Nat} (f1 : Nat → Nat) (h : j < i ∨ i + n ≤ j) : put f i n f1 j = f j := by
  simp only [put]
  rw [if_neg (by omega)]
theorem Lt.put {B : Nat} {f f1 : Nat → Nat} {i n N : Nat} (h : Lt B f N) (h1 : Lt B f1 n) : Lt B (put f i n f1) N := fun j hj => by
  by_cases c : i ≤ j ∧ j < i + n
  · obtain ⟨m, rfl⟩ : ∃ m, j = i + m := ⟨j - i, by omega⟩
    rw [put_in f f1 (by omega)]
    exact h1 m (by omega)
  · rw [put_out f f1 (by omega)]
    exact h j hj

/-- what holds of the numbers when the limbs from i on of the quotient are there: fr the rest (N limbs), fq the quotient (Q limbs) -/
structure Long (B S D n Q : Nat) (fr fq : Nat → Nat) (i : Nat) : Prop where
  hr : Lt B fr (Q + n)
  hq : Lt B fq Q
  zr : ∀ j, i + n ≤ j → j < Q + n → fr j = 0
  zq : ∀ j, j < i → fq j = 0
  val : sm B fr (Q + n) + D * sm B fq Q = S
  lt : sm B (fun j => fr (i + j)) n < D

theorem Long.first {B S D n Q : Nat} {fr fq : Nat → Nat} {i : Nat} (H : Long B S D n Q fr fq (i + 1)) (hi : i < Q) : sm B (fun j => fr (i + j)) (n + 1) < D * B := by
  rw [sm_first]
  have h1 := H.hr i (by omega)
  have h2 : (sm B (fun j => fr (i + 1 + j)) n + 1) * B ≤ D * B := Nat.mul_le_mul_right _ H.lt
  rw [Nat.add_mul] at h2
  omega

theorem Long.step {B S D n Q : Nat} {fr fq : Nat → Nat} {i : Nat} (H : Long B S D n Q fr fq (i + 1)) (hi : i < Q) {f1 : Nat → Nat} (l1 : Lt B f1 (n + 1)) (hD : D < B ^ n) (hD0 : 0 < D)
    (h1 : sm B f1 (n + 1) = sm B (fun j => fr (i + j)) (n + 1) % D) : Long B S D n Q (put fr i (n + 1) f1) (upd fq i (sm B (fun j => fr (i + j)) (n + 1) / D)) i := by
  have hq := (Nat.div_lt_iff_lt_mul hD0).2 (by rw [Nat.mul_comm]; exact H.first hi)
  have hm := Nat.mod_lt (sm B (fun j => fr (i + j)) (n + 1)) hD0
  have hz := H.zr
  have e1 : sm B fr (Q + n) = sm B fr (i + (n + 1)) := sm_above (fun j a b => hz j (by omega) b) (by omega)
  have e2 : sm B (put fr i (n + 1) f1) (Q + n) = sm B (put fr i (n + 1) f1) (i + (n + 1)) := sm_above (fun j a b => by rw [put_out fr f1 (by omega)]; exact hz j (by omega) b) (by omega)
  have e3 : sm B (fun j => put fr i (n + 1) f1 (i + j)) (n + 1) = sm B f1 (n + 1) := sm_congr B fun j hj => put_in fr f1 hj
  have e4 : sm B (put fr i (n + 1) f1) i = sm B fr i := sm_congr B fun j hj => put_out fr f1 (by omega)
  have hf1 : f1 n = 0 := sm_small (by rw [h1]; omega)
  have hv := H.val
  rw [e1, sm_split] at hv
  rw [sm_split B (put fr i (n + 1) f1) i (n + 1), e3, e4, h1] at e2
  have e5 := sm_upd B fq (sm B (fun j => fr (i + j)) (n + 1) / D) hi
  rw [H.zq i (by omega)] at e5
  have e6 := Nat.div_add_mod (sm B (fun j => fr (i + j)) (n + 1)) D
  have e7 : sm B (fun j => put fr i (n + 1) f1 (i + j)) n = sm B f1 (n + 1) := by
    rw [sm_congr B (g := f1) (fun j hj => put_in fr f1 (by omega)), sm, hf1]; simp
  refine ⟨H.hr.put l1, H.hq.upd hq, fun j a b => ?_, fun j a => ?_, ?_, ?_⟩
  · by_cases c : j = i + n
    · subst c
      rw [put_in fr f1 (by omega)]; exact hf1
    · rw [put_out fr f1 (by omega)]; exact hz j (by omega) b
  · rw [upd_ne fq (by omega)]; exact H.zq j (by omega)
  · rw [e2]
    generalize sm B (fun j => fr (i + j)) (n + 1) = A at *
    generalize A / D = q at *
    generalize A % D = r at *
    generalize sm B (upd fq i q) Q = Z at *
    have c1 := congrArg (D * ·) e5
    simp only [Nat.mul_add, Nat.zero_mul, Nat.add_zero] at c1
    have c2 := congrArg (· * B ^ i) e6
    simp only [Nat.add_mul] at c2
    rw [c1, ← Nat.mul_assoc]
    omega
  · rw [e7, h1]; exact hm

theorem Long.last {B S D n Q : Nat} {fr fq : Nat → Nat} (H : Long B S D n Q fr fq 0) : sm B fq Q = S / D ∧ sm B fr (Q + n) = S % D := by
  have hl := H.lt
  simp only [Nat.zero_add] at hl
  have e1 : sm B fr (Q + n) = sm B fr n := sm_above (fun j a b => H.zr j (by omega) b) (by omega)
  have hv := H.val
  rw [e1] at hv ⊢
  have h0 : 0 < D := by omega
  rw [← hv, Nat.add_mul_mod_self_left, Nat.mod_eq_of_lt hl, Nat.add_mul_div_left _ _ h0, Nat.div_eq_of_lt hl]
  exact ⟨by omega, rfl⟩

end Go.Proofs.Ytaopjeobapnhbaa.nn
