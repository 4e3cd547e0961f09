/- Plain words for texts of UTF-8: the state behind some bytes, how far bytes are taken, what a check answers. No program is named here. -/
namespace Go.Proofs.Ytakbahhoiggmhaa.nn

/-- how many bytes a code point has that begins with x; 0: none does -/
def nd (x : Nat) : Nat := if x < 128 then 1 else if 194 ≤ x ∧ x ≤ 223 then 2 else if 224 ≤ x ∧ x ≤ 239 then 3 else if 240 ≤ x ∧ x ≤ 244 then 4 else 0
/-- the least and the greatest byte at place j of a code point that begins with x -/
def lt_ (x j : Nat) : Nat := if j = 1 then (if x = 224 then 160 else if x = 240 then 144 else 128) else 128
def mt_ (x j : Nat) : Nat := if j = 1 then (if x = 237 then 159 else if x = 244 then 143 else 191) else 191
def my (x j y : Nat) : Bool := decide (lt_ x j ≤ y ∧ y ≤ mt_ x j)

/-- what is due: so many bytes, the next one between low and high -/
structure Tl where
  c : Nat
  lo : Nat
  hi : Nat

def t0 : Tl := ⟨0, 0, 0⟩
def bh (x : Nat) : Tl := if nd x ≤ 1 then t0 else ⟨nd x - 1, lt_ x 1, mt_ x 1⟩
def ok (t : Tl) (x : Nat) : Bool := if t.c = 0 then decide (nd x ≠ 0) else decide (t.lo ≤ x ∧ x ≤ t.hi)
def nx (t : Tl) (x : Nat) : Tl := if t.c = 0 then bh x else if t.lo ≤ x ∧ x ≤ t.hi then ⟨t.c - 1, 128, 191⟩ else t

/-- the state behind i bytes from state t on, and whether all of them were taken -/
def go (f : Nat → Nat) (t : Tl) : Nat → Tl × Bool
  | 0 => (t, true)
  | i + 1 => if (go f t i).2 then (nx (go f t i).1 (f i), ok (go f t i).1 (f i)) else go f t i
def al (f : Nat → Nat) (t : Tl) (i : Nat) : Bool := (go f t i).2
def tk (f : Nat → Nat) (t : Tl) (i : Nat) : Tl := (go f t i).1
/-- how many of n bytes are taken -/
def sp (f : Nat → Nat) (t : Tl) : Nat → Nat
  | 0 => 0
  | n + 1 => if al f t (n + 1) then n + 1 else sp f t n

section
variable {f g : Nat → Nat} {t : Tl} {i j n m p : Nat}
theorem al_zero : al f t 0 = true := rfl
theorem tk_zero : tk f t 0 = t := rfl
theorem al_succ : al f t (i + 1) = (al f t i && ok (tk f t i) (f i)) := by
  unfold al tk
  rw [go]
  by_cases h : (go f t i).2 <;> simp [h]
theorem tk_succ (h : al f t i = true) : tk f t (i + 1) = nx (tk f t i) (f i) := by
  unfold al at h
  unfold tk
  rw [go, if_pos h]
theorem al_mono (h : al f t n = true) (hm : m ≤ n) : al f t m = true := by
  induction n with
  | zero => obtain rfl : m = 0 := by omega
            exact h
  | succ n ih =>
    rw [al_succ, Bool.and_eq_true] at h
    by_cases e : m = n + 1
    · subst e; rw [al_succ, h.1, h.2]; rfl
    · exact ih h.1 (by omega)
theorem dead (h : al f t m = false) (hm : m ≤ n) : al f t n = false := by
  cases hn : al f t n with
  | false => rfl
  | true => rw [al_mono hn hm] at h; cases h
theorem sp_le : sp f t n ≤ n := by
  induction n with
  | zero => simp [sp]
  | succ n ih => rw [sp]; split <;> omega
theorem sp_all (h : al f t n = true) : sp f t n = n := by
  cases n with
  | zero => rfl
  | succ n => rw [sp, if_pos h]
theorem sp_stop (h : al f t p = true) (h' : al f t (p + 1) = false) (hp : p ≤ n) : sp f t n = p := by
  induction n with
  | zero => obtain rfl : p = 0 := by omega
            rfl
  | succ n ih =>
    by_cases e : p = n + 1
    · subst e; rw [sp, if_pos h]
    · rw [sp, if_neg (by rw [dead h' (by omega)]; decide)]
      exact ih (by omega)
theorem al_sp : al f t (sp f t n) = true := by
  induction n with
  | zero => rfl
  | succ n ih =>
    rw [sp]
    by_cases h : al f t (n + 1) = true
    · rw [if_pos h]; exact h
    · rw [if_neg h]; exact ih
theorem sp_lt (h : al f t n = false) : sp f t n < n ∧ al f t (sp f t n + 1) = false := by
  induction n with
  | zero => cases h
  | succ n ih =>
    rw [sp, if_neg (by rw [h]; decide)]
    by_cases e : al f t n = true
    · rw [sp_all e]; exact ⟨by omega, h⟩
    · have := ih (by simpa using e)
      exact ⟨by omega, this.2⟩
theorem go_congr (e : ∀ i, i < n → f i = g i) : go f t n = go g t n := by
  induction n with
  | zero => rfl
  | succ n ih =>
    have h := ih fun i hi => e i (by omega)
    rw [go, go, h, e n (by omega)]
theorem al_congr (e : ∀ i, i < n → f i = g i) : al f t n = al g t n := by unfold al; rw [go_congr e]
theorem tk_congr (e : ∀ i, i < n → f i = g i) : tk f t n = tk g t n := by unfold tk; rw [go_congr e]
theorem sp_congr (e : ∀ i, i < n → f i = g i) : sp f t n = sp g t n := by
  induction n with
  | zero => rfl
  | succ n ih => rw [sp, sp, al_congr e, ih fun i hi => e i (by omega)]
/-- going on behind m bytes -/
theorem go_add (h : al f t m = true) : go f t (m + n) = go (fun i => f (m + i)) (tk f t m) n := by
  induction n with
  | zero => rw [Nat.add_zero]; exact Prod.ext rfl h
  | succ n ih => rw [← Nat.add_assoc, go, go, ih]
theorem al_add (h : al f t m = true) : al f t (m + n) = al (fun i => f (m + i)) (tk f t m) n := by unfold al; rw [go_add h]
theorem tk_add (h : al f t m = true) : tk f t (m + n) = tk (fun i => f (m + i)) (tk f t m) n := by
  show (go f t (m + n)).1 = (go _ _ n).1
  rw [go_add h]
theorem sp_add (h : al f t m = true) : sp f t (m + n) = m + sp (fun i => f (m + i)) (tk f t m) n := by
  induction n with
  | zero => rw [Nat.add_zero, sp_all h]; rfl
  | succ n ih =>
    rw [← Nat.add_assoc, sp, sp, Nat.add_assoc, al_add h]
    split
    · rfl
    · exact ih
end

/-- the states that are met -/
def Gd (t : Tl) : Prop := t.c = 0 ∨ (t.c = 1 ∧ t.lo = 128 ∧ t.hi = 191) ∨ (t.c = 2 ∧ (t.lo = 160 ∧ t.hi = 191 ∨ t.lo = 128 ∧ t.hi = 191 ∨ t.lo = 128 ∧ t.hi = 159)) ∨
  (t.c = 3 ∧ (t.lo = 144 ∧ t.hi = 191 ∨ t.lo = 128 ∧ t.hi = 191 ∨ t.lo = 128 ∧ t.hi = 143))
theorem gd_zero : Gd t0 := .inl rfl
theorem nd_cases (x : Nat) : (x < 128 ∧ nd x = 1) ∨ (194 ≤ x ∧ x ≤ 223 ∧ nd x = 2) ∨ (224 ≤ x ∧ x ≤ 239 ∧ nd x = 3) ∨ (240 ≤ x ∧ x ≤ 244 ∧ nd x = 4) ∨ ((128 ≤ x ∧ x < 194 ∨ 244 < x) ∧ nd x = 0) := by
  unfold nd
  repeat' split
  all_goals omega
theorem lt_cases (x : Nat) : (x = 224 ∧ lt_ x 1 = 160) ∨ (x = 240 ∧ lt_ x 1 = 144) ∨ (x ≠ 224 ∧ x ≠ 240 ∧ lt_ x 1 = 128) := by
  unfold lt_
  rw [if_pos rfl]
  repeat' split
  all_goals omega
theorem mt_cases (x : Nat) : (x = 237 ∧ mt_ x 1 = 159) ∨ (x = 244 ∧ mt_ x 1 = 143) ∨ (x ≠ 237 ∧ x ≠ 244 ∧ mt_ x 1 = 191) := by
  unfold mt_
  rw [if_pos rfl]
  repeat' split
  all_goals omega
theorem gd_bh (x : Nat) : Gd (bh x) := by
  have h1 := nd_cases x
  have h2 := lt_cases x
  have h3 := mt_cases x
  unfold bh
  split
  · exact gd_zero
  · unfold Gd
    dsimp only
    omega
theorem gd_nx {t : Tl} (h : Gd t) (x : Nat) : Gd (nx t x) := by
  unfold nx
  split
  · exact gd_bh x
  · split
    · unfold Gd at h ⊢
      dsimp only
      omega
    · exact h
theorem gd_go {f : Nat → Nat} {t : Tl} (h : Gd t) (i : Nat) : Gd (tk f t i) := by
  induction i with
  | zero => exact h
  | succ i ih =>
    unfold tk at ih ⊢
    rw [go]
    split
    · exact gd_nx ih _
    · exact ih
theorem gd_lt {t : Tl} (h : Gd t) : t.c < 4 := by unfold Gd at h; omega

/-- what Check answers -/
def ckA (f : Nat → Nat) (n : Nat) : Nat := sp f t0 n
def ckE (f : Nat → Nat) (n : Nat) : Nat := if al f t0 n then (if (tk f t0 n).c = 0 then 0 else 3) else 4

/-- all of i bytes may stand in a text of N bytes (N below 0: of however many) -/
def aw (f : Nat → Nat) (N : Int) : Nat → Bool
  | 0 => true
  | i + 1 => aw f N i && (al f t0 (i + 1) && decide (N < 0 ∨ ((tk f t0 (i + 1)).c : Int) + (i + 1) ≤ N))
def spw (f : Nat → Nat) (N : Int) : Nat → Nat
  | 0 => 0
  | n + 1 => if aw f N (n + 1) then n + 1 else spw f N n
/-- what is told of m bytes that stand in a text of N bytes -/
def wE (f : Nat → Nat) (N : Int) (m : Nat) : Nat := if aw f N m then (if (tk f t0 m).c ≠ 0 ∨ (m : Int) < N then 3 else 0) else 4

section
variable {f g : Nat → Nat} {N : Int} {i j k n m p : Nat}
theorem aw_mono (h : aw f N n = true) (hm : m ≤ n) : aw f N m = true := by
  induction n with
  | zero => obtain rfl : m = 0 := by omega
            exact h
  | succ n ih =>
    by_cases e : m = n + 1
    · subst e; exact h
    · rw [aw, Bool.and_eq_true] at h
      exact ih h.1 (by omega)
theorem aw_dead (h : aw f N m = false) (hm : m ≤ n) : aw f N n = false := by
  cases hn : aw f N n with
  | false => rfl
  | true => rw [aw_mono hn hm] at h; cases h
theorem spw_le : spw f N n ≤ n := by
  induction n with
  | zero => simp [spw]
  | succ n ih => rw [spw]; split <;> omega
theorem spw_all (h : aw f N n = true) : spw f N n = n := by
  cases n with
  | zero => rfl
  | succ n => rw [spw, if_pos h]
theorem spw_stop (h : aw f N p = true) (h' : aw f N (p + 1) = false) (hp : p ≤ n) : spw f N n = p := by
  induction n with
  | zero => obtain rfl : p = 0 := by omega
            rfl
  | succ n ih =>
    by_cases e : p = n + 1
    · subst e; rw [spw, if_pos h]
    · rw [spw, if_neg (by rw [aw_dead h' (by omega)]; decide)]
      exact ih (by omega)
theorem aw_al (h : aw f N n = true) : al f t0 n = true := by
  cases n with
  | zero => rfl
  | succ n =>
    rw [aw, Bool.and_eq_true, Bool.and_eq_true] at h
    exact h.2.1
theorem aw_room (h : aw f N n = true) (h0 : 0 < n) : N < 0 ∨ ((tk f t0 n).c : Int) + n ≤ N := by
  obtain ⟨n, rfl⟩ : ∃ j, n = j + 1 := ⟨n - 1, by omega⟩
  rw [aw, Bool.and_eq_true, Bool.and_eq_true] at h
  have := of_decide_eq_true h.2.2
  omega
theorem aw_mk (h : aw f N n = true) (ha : al f t0 (n + 1) = true) (hr : N < 0 ∨ ((tk f t0 (n + 1)).c : Int) + (n + 1) ≤ N) : aw f N (n + 1) = true := by
  rw [aw, h, ha, Bool.true_and, Bool.true_and]
  exact decide_eq_true hr
theorem aw_congr (e : ∀ i, i < n → f i = g i) : aw f N n = aw g N n := by
  induction n with
  | zero => rfl
  | succ n ih => rw [aw, aw, ih fun i hi => e i (by omega), al_congr e, tk_congr e]
theorem spw_congr (e : ∀ i, i < n → f i = g i) : spw f N n = spw g N n := by
  induction n with
  | zero => rfl
  | succ n ih => rw [spw, spw, aw_congr e, ih fun i hi => e i (by omega)]
theorem wE_congr (e : ∀ i, i < m → f i = g i) : wE f N m = wE g N m := by unfold wE; rw [aw_congr e, tk_congr e]
theorem aw_neg (h : N < 0) : aw f N n = al f t0 n := by
  induction n with
  | zero => rfl
  | succ n ih =>
    rw [aw, ih, decide_eq_true (.inl h), Bool.and_true]
    cases e : al f t0 (n + 1) with
    | false => rw [Bool.and_false]
    | true => rw [al_mono e (Nat.le_succ n)]; rfl
theorem spw_neg (h : N < 0) : spw f N n = sp f t0 n := by
  induction n with
  | zero => rfl
  | succ n ih => rw [spw, sp, aw_neg h, ih]
theorem wE_neg (h : N < 0) : wE f N m = ckE f m := by
  unfold wE ckE
  rw [aw_neg h]
  by_cases hc : (tk f t0 m).c = 0
  · rw [if_pos hc, if_neg (show ¬ ((tk f t0 m).c ≠ 0 ∨ (m : Int) < N) by omega)]
  · rw [if_neg hc, if_pos (show ((tk f t0 m).c ≠ 0 ∨ (m : Int) < N) from .inl hc)]
/-- what is due never ends later than it did before -/
theorem due_step (h : al f t0 (i + 1) = true) (hc : (tk f t0 i).c ≠ 0) : (tk f t0 (i + 1)).c + (i + 1) = (tk f t0 i).c + i := by
  rw [al_succ, Bool.and_eq_true] at h
  rw [tk_succ h.1]
  have h2 := h.2
  unfold ok at h2
  unfold nx
  rw [if_neg hc] at h2 ⊢
  rw [if_pos (of_decide_eq_true h2)]
  show (tk f t0 i).c - 1 + (i + 1) = _
  omega

/-! one code point, byte by byte -/
/-- j of the k bytes of the code point that begins at i have come -/
def In (f : Nat → Nat) (i j k : Nat) : Prop := (tk f t0 (i + j)).c = k - j ∧ (j < k → (tk f t0 (i + j)).lo = lt_ (f i) j ∧ (tk f t0 (i + j)).hi = mt_ (f i) j)

theorem first_no (ha : al f t0 i = true) (hc : (tk f t0 i).c = 0) (h : nd (f i) = 0 ∨ 0 ≤ N ∧ N < (nd (f i) : Int) + i) : aw f N (i + 1) = false := by
  rw [aw]
  by_cases h0 : nd (f i) = 0
  · have : al f t0 (i + 1) = false := by
      rw [al_succ, ha]
      unfold ok
      rw [if_pos hc, h0]
      rfl
    rw [this]
    simp
  · have hr : ¬ (N < 0 ∨ ((tk f t0 (i + 1)).c : Int) + (i + 1) ≤ N) := by
      rw [tk_succ ha]
      unfold nx bh
      rw [if_pos hc]
      split
      · simp only [t0]; omega
      · dsimp only; omega
    rw [decide_eq_false hr]
    simp
theorem first_yes (hw : aw f N i = true) (hc : (tk f t0 i).c = 0) (h0 : nd (f i) ≠ 0) (h : N < 0 ∨ (nd (f i) : Int) + i ≤ N) : aw f N (i + 1) = true ∧ In f i 1 (nd (f i)) := by
  have ha := aw_al hw
  have ha1 : al f t0 (i + 1) = true := by
    rw [al_succ, ha]
    unfold ok
    rw [if_pos hc, decide_eq_true h0]
    rfl
  have ht : tk f t0 (i + 1) = bh (f i) := by
    rw [tk_succ ha]
    unfold nx
    rw [if_pos hc]
  have hd : (bh (f i)).c = nd (f i) - 1 ∧ (1 < nd (f i) → (bh (f i)).lo = lt_ (f i) 1 ∧ (bh (f i)).hi = mt_ (f i) 1) := by
    unfold bh
    split
    · exact ⟨by simp only [t0]; omega, fun h => by omega⟩
    · exact ⟨rfl, fun _ => ⟨rfl, rfl⟩⟩
  refine ⟨aw_mk hw ha1 ?_, ?_⟩
  · rw [ht, hd.1]; omega
  · unfold In
    rw [ht]
    exact hd
theorem next_no (ha : al f t0 (i + j) = true) (hi : In f i j k) (hj : j < k) (h : my (f i) j (f (i + j)) = false) : al f t0 (i + j + 1) = false := by
  obtain ⟨h1, h2⟩ := hi
  obtain ⟨h3, h4⟩ := h2 hj
  rw [al_succ, ha]
  unfold ok
  rw [if_neg (by omega), h3, h4]
  exact h
theorem next_yes (hw : aw f N (i + j) = true) (hi : In f i j k) (hj : j < k) (h1 : 1 ≤ j) (h : my (f i) j (f (i + j)) = true) : aw f N (i + j + 1) = true ∧ In f i (j + 1) k := by
  obtain ⟨e1, e2⟩ := hi
  obtain ⟨e3, e4⟩ := e2 hj
  have ha := aw_al hw
  have ha1 : al f t0 (i + j + 1) = true := by
    rw [al_succ, ha]
    unfold ok
    rw [if_neg (by omega), e3, e4]
    exact h
  refine ⟨aw_mk hw ha1 ?_, ?_⟩
  · have := due_step ha1 (by omega)
    have := aw_room hw (by omega)
    omega
  · unfold In
    rw [← Nat.add_assoc, tk_succ ha]
    unfold nx
    rw [if_neg (by omega), e3, e4, if_pos (of_decide_eq_true h), e1]
    refine ⟨by dsimp only; omega, fun _ => ⟨?_, ?_⟩⟩
    · unfold lt_; rw [if_neg (by omega)]
    · unfold mt_; rw [if_neg (by omega)]
theorem in_end (h : In f i k k) : (tk f t0 (i + k)).c = 0 := by rw [h.1]; omega
/-- the answers -/
theorem ans_no (hw : aw f N p = true) (h : aw f N (p + 1) = false) (hp : p < m) : spw f N m = p ∧ wE f N m = 4 :=
  ⟨spw_stop hw h (by omega), by unfold wE; rw [if_neg (by rw [aw_dead h (by omega)]; decide)]⟩
theorem ans_short (hw : aw f N m = true) (hi : (tk f t0 m).c ≠ 0) : spw f N m = m ∧ wE f N m = 3 :=
  ⟨spw_all hw, by unfold wE; rw [if_pos hw, if_pos (.inl hi)]⟩
theorem ans_less (hw : aw f N m = true) (hi : (m : Int) < N) : spw f N m = m ∧ wE f N m = 3 :=
  ⟨spw_all hw, by unfold wE; rw [if_pos hw, if_pos (.inr hi)]⟩
theorem ans_all (hw : aw f N m = true) (hi : (tk f t0 m).c = 0) (h : ¬ (m : Int) < N) : spw f N m = m ∧ wE f N m = 0 :=
  ⟨spw_all hw, by unfold wE; rw [if_pos hw, if_neg (by omega)]⟩
end
end Go.Proofs.Ytakbahhoiggmhaa.nn
