/- Joined texts, what is wanted of them: Pars, DcA, DcB. -/
import Derived.Test.YtpcladdipgchbaaGreatDoorProg
import Derived.WalkKit
import Derived.Lib.Hide
import Derived.WalkSpells
import Derived.Deep.QuietTactic
import Derived.BigQuiet
import Derived.Deep.RegionHeld3
import Derived.Laws.BitsAllLaws
import Derived.Test.YtpcladdipgchbaaGreatDoorShelf
import Derived.Deep.RegionWith
import Derived.IntWalk
import Derived.Deep.CutBlock
import Derived.StillTailTactics
import Derived.Test.YtpcladdipgchbaaGreatDoorSd
import Derived.Test.YtpcladdipgchbaaGreatDoorSa
namespace Go.Proofs.YtpcladdipgchbaaGreatDoor.nn

inductive Rs (α : Type) where
  | ok (a : α) (k : Nat)
  | no (q e : Nat)

/-- a reader: the bytes, how many there are, the place -/
def Prs (α : Type) := (Nat → Nat) → Nat → Nat → Rs α

structure Det {α : Type} (p : Prs α) : Prop where
  ok : ∀ {f n i a k}, i ≤ n → p f n i = .ok a k → i ≤ k ∧ k ≤ n ∧ ∀ g m, (∀ j, j < k → g j = f j) → k ≤ m → p g m i = .ok a k
  form : ∀ {f n i q e}, i ≤ n → p f n i = .no q e → e ≠ 3 → i ≤ q ∧ q < n ∧ ∀ g m, (∀ j, j ≤ q → g j = f j) → q < m → p g m i = .no q e
  short : ∀ {f n i q}, i ≤ n → p f n i = .no q 3 → q = n

section
variable {α β σ : Type} {p : Prs α} {f g : Nat → Nat} {n m i j k q e : Nat} {a : α}

theorem Det.congr (h : Det p) (hi : i ≤ n) (hf : ∀ j, j < n → g j = f j) : p g n i = p f n i := by
  cases e' : p f n i with
  | ok b l =>
    obtain ⟨_, e2, e3⟩ := h.ok hi e'
    exact e3 g n (fun j hj => hf j (by omega)) e2
  | no q' r =>
    by_cases hr : r = 3
    · subst hr
      have hq := h.short hi e'
      cases e2 : p g n i with
      | ok b l =>
        obtain ⟨_, g2, g3⟩ := h.ok hi e2
        have := g3 f n (fun j hj => (hf j (by omega)).symm) g2
        rw [e'] at this
        cases this
      | no q2 r2 =>
        by_cases hr2 : r2 = 3
        · subst hr2; rw [h.short hi e2, hq]
        · obtain ⟨_, g2, g3⟩ := h.form hi e2 hr2
          have := g3 f n (fun j hj => (hf j (by omega)).symm) g2
          rw [e'] at this
          injection this with t1 t2
          exact absurd t2.symm hr2
    · obtain ⟨_, e2, e3⟩ := h.form hi e' hr
      exact e3 g n (fun j hj => hf j (by omega)) e2

/-! the parts that readers are made of -/
def ret (a : α) : Prs α := fun _ _ i => .ok a i
def one (t : Nat → Option α) : Prs α := fun f n i => if n ≤ i then .no n 3 else match t (f i) with | some a => .ok a (i + 1) | none => .no i 4
def Prs.bind (p : Prs α) (q : α → Prs β) : Prs β := fun f n i => match p f n i with | .ok a k => q a f n k | .no q e => .no q e
theorem bind_ok {q : α → Prs β} (h : p f n i = .ok a k) : p.bind q f n i = q a f n k := by unfold Prs.bind; rw [h]
theorem bind_no {q : α → Prs β} {r e : Nat} (h : p f n i = .no r e) : p.bind q f n i = .no r e := by unfold Prs.bind; rw [h]
theorem bind_to {q : α → Prs β} {b : β} (h : p.bind q f n i = .ok b k) : ∃ a j, p f n i = .ok a j ∧ q a f n j = .ok b k := by
  unfold Prs.bind at h
  cases e : p f n i with
  | ok a j => rw [e] at h; exact ⟨a, j, rfl, h⟩
  | no r e' => rw [e] at h; cases h
theorem Det.bind (h : Det p) {q : α → Prs β} (hq : ∀ a, Det (q a)) : Det (p.bind q) := by
  refine ⟨fun {f n i b k} hi h1 => ?_, fun {f n i r e} hi h1 he => ?_, fun {f n i r} hi h1 => ?_⟩
  · obtain ⟨a, j, e1, e2⟩ := bind_to h1
    obtain ⟨a1, a2, a3⟩ := h.ok hi e1
    obtain ⟨b1, b2, b3⟩ := (hq a).ok a2 e2
    refine ⟨by omega, b2, fun g m hg hm => ?_⟩
    rw [bind_ok (a3 g m (fun l hl => hg l (by omega)) (by omega))]
    exact b3 g m hg hm
  · cases e1 : p f n i with
    | ok a j =>
      obtain ⟨a1, a2, a3⟩ := h.ok hi e1
      rw [bind_ok e1] at h1
      obtain ⟨b1, b2, b3⟩ := (hq a).form a2 h1 he
      refine ⟨by omega, b2, fun g m hg hm => ?_⟩
      rw [bind_ok (a3 g m (fun l hl => hg l (by omega)) (by omega))]
      exact b3 g m hg hm
    | no r' e' =>
      rw [bind_no e1] at h1
      injection h1 with h2 h3
      subst h2 h3
      obtain ⟨a1, a2, a3⟩ := h.form hi e1 he
      exact ⟨a1, a2, fun g m hg hm => bind_no (a3 g m hg hm)⟩
  · cases e1 : p f n i with
    | ok a j =>
      obtain ⟨a1, a2, a3⟩ := h.ok hi e1
      rw [bind_ok e1] at h1
      exact (hq a).short a2 h1
    | no r' e' =>
      rw [bind_no e1] at h1
      injection h1 with h2 h3
      subst h2 h3
      exact h.short hi e1
/-! a loop: its body goes on with a state, or ends -/
def its (b : σ → Prs (σ ⊕ β)) : Nat → σ → Prs β
  | 0, _ => fun _ n _ => .no n 3
  | u + 1, s => fun f n i => match b s f n i with | .ok (.inl s') k => its b u s' f n k | .ok (.inr r) k => .ok r k | .no q e => .no q e
/-- each round of it goes on -/
structure Body (b : σ → Prs (σ ⊕ β)) : Prop where
  det : ∀ s, Det (b s)
  lt : ∀ {s f n i s' k}, i ≤ n → b s f n i = .ok (.inl s') k → i < k
def lp (b : σ → Prs (σ ⊕ β)) (s : σ) : Prs β := fun f n i => its b (n - i + 1) s f n i
variable {b : σ → Prs (σ ⊕ β)}
theorem its_succ (u : Nat) (s : σ) : its b (u + 1) s f n i = match b s f n i with | .ok (.inl s') k => its b u s' f n k | .ok (.inr r) k => .ok r k | .no q e => .no q e := rfl
end
end Go.Proofs.YtpcladdipgchbaaGreatDoor.nn
namespace Go.Proofs.YtpcladdipgchbaaGreatDoor.nn

/-- bytes of which one is not malformed behind what is too short -/
def more6 : List Nat := [255, 0, 128, 144, 160, 96]
structure Dt {α : Type} (p : Prs α) : Prop where
  ok : ∀ {f n i a k}, i ≤ n → p f n i = .ok a k → i ≤ k ∧ k ≤ n ∧ ∀ g m, (∀ j, j < k → g j = f j) → k ≤ m → p g m i = .ok a k
  form : ∀ {f n i q}, i ≤ n → p f n i = .no q 4 → i ≤ q ∧ q < n ∧ ∀ g m, (∀ j, j ≤ q → g j = f j) → q < m → p g m i = .no q 4
  short : ∀ {f n i q}, i ≤ n → p f n i = .no q 3 → q = n
  lim : ∀ {f n i q}, i ≤ n → p f n i = .no q 8 → q ≤ n ∧ ∀ g m, (∀ j, j < n → g j = f j) → n ≤ m → p g m i = .no q 8
  err : ∀ {f n i q e}, i ≤ n → p f n i = .no q e → e = 3 ∨ e = 4 ∨ e = 8
/-- what is too short can be gone on with -/
structure Ex {α : Type} (p : Prs α) : Prop where
  go : ∀ {f : Nat → Nat} {n i q : Nat}, i ≤ n → p f n i = .no q 3 → ∃ c, c ∈ more6 ∧ ∀ g : Nat → Nat, (∀ j, j < n → g j = f j) → g n = c → ∀ q', p g (n + 1) i ≠ .no q' 4
/-- likewise, where there is a byte -/
structure Exl {α : Type} (p : Prs α) : Prop where
  go : ∀ {f : Nat → Nat} {n i q : Nat}, i < n → p f n i = .no q 3 → ∃ c, c ∈ more6 ∧ ∀ g : Nat → Nat, (∀ j, j < n → g j = f j) → g n = c → ∀ q', p g (n + 1) i ≠ .no q' 4
theorem Ex.low {α : Type} {p : Prs α} (h : Ex p) : Exl p := ⟨fun hi h1 => h.go (Nat.le_of_lt hi) h1⟩

section
variable {α β σ : Type} {p : Prs α} {f g : Nat → Nat} {n m i j k q e : Nat} {a : α}

/-- all that is answered hangs on the bytes alone that are there -/
theorem Dt.congr (h : Dt p) (hi : i ≤ n) (hf : ∀ j, j < n → g j = f j) : p g n i = p f n i := by
  cases e' : p f n i with
  | ok b l =>
    obtain ⟨_, e2, e3⟩ := h.ok hi e'
    exact e3 g n (fun j hj => hf j (by omega)) e2
  | no q r =>
    rcases h.err hi e' with rfl | rfl | rfl
    · have hq := h.short hi e'
      cases e2 : p g n i with
      | ok b l =>
        obtain ⟨_, g2, g3⟩ := h.ok hi e2
        have := g3 f n (fun j hj => (hf j (by omega)).symm) g2
        rw [e'] at this
        cases this
      | no q2 r2 =>
        rcases h.err hi e2 with rfl | rfl | rfl
        · rw [h.short hi e2, hq]
        · obtain ⟨_, g2, g3⟩ := h.form hi e2
          have := g3 f n (fun j hj => (hf j (by omega)).symm) g2
          rw [e'] at this
          cases this
        · have := (h.lim hi e2).2 f n (fun j hj => (hf j hj).symm) (Nat.le_refl _)
          rw [e'] at this
          cases this
    · obtain ⟨_, e2, e3⟩ := h.form hi e'
      exact e3 g n (fun j hj => hf j (by omega)) e2
    · exact (h.lim hi e').2 g n hf (Nat.le_refl _)
/-- what is malformed, cut ahead of that byte, is too short -/
theorem Dt.cut_form (h : Dt p) (hn : i ≤ n) (hp : p f n i = .no q 4) (hi : i ≤ m) (hm : m ≤ q) : p f m i = .no m 3 := by
  obtain ⟨_, h2, _⟩ := h.form hn hp
  cases e : p f m i with
  | ok b l =>
    obtain ⟨_, e2, e3⟩ := h.ok hi e
    have := e3 f n (fun _ _ => rfl) (by omega)
    rw [hp] at this
    cases this
  | no q' r =>
    rcases h.err hi e with rfl | rfl | rfl
    · rw [h.short hi e]
    · obtain ⟨_, e2, e3⟩ := h.form hi e
      have := e3 f n (fun _ _ => rfl) (by omega)
      rw [hp] at this
      injection this
      omega
    · have := (h.lim hi e).2 f n (fun _ _ => rfl) (by omega)
      rw [hp] at this
      cases this
theorem dt_ret (a : α) : Dt (ret a) := by
  refine ⟨fun {f n i b k} hi h => ?_, fun _ h => ?_, fun _ h => ?_, fun _ h => ?_, fun _ h => ?_⟩
  · unfold ret at h
    injection h with h1 h2
    subst h1 h2
    exact ⟨Nat.le_refl _, hi, fun _ _ _ _ => rfl⟩
  all_goals cases h
theorem ex_ret (a : α) : Ex (ret a) := ⟨fun _ h => by cases h⟩
/-- malformed here -/
def bad_ : Prs α := fun _ n i => if i < n then .no i 4 else .no n 3
theorem dt_bad : Dt (bad_ : Prs α) := by
  refine ⟨fun {f n i b k} hi h => ?_, fun {f n i q} hi h => ?_, fun {f n i q} hi h => ?_, fun {f n i q} hi h => ?_, fun {f n i q e} hi h => ?_⟩
  · unfold bad_ at h
    split at h <;> cases h
  · unfold bad_ at h
    split at h
    · injection h with h1 h2
      subst h1
      exact ⟨Nat.le_refl _, by omega, fun g m _ hm => by unfold bad_; rw [if_pos (by omega)]⟩
    · cases h
  · unfold bad_ at h
    split at h
    · cases h
    · injection h with h1 h2; exact h1.symm
  · unfold bad_ at h
    split at h <;> cases h
  · unfold bad_ at h
    split at h
    · injection h with h1 h2; exact .inr (.inl h2.symm)
    · injection h with h1 h2; exact .inl h2.symm
theorem exl_bad : Exl (bad_ : Prs α) := by
  constructor
  intro f n i q hi h
  unfold bad_ at h
  rw [if_pos hi] at h
  cases h
/-- a byte is taken, whatever it is -/
def adv (a : α) : Prs α := fun _ n i => if i < n then .ok a (i + 1) else .no n 3
theorem dt_adv (a : α) : Dt (adv a) := by
  refine ⟨fun {f n i b k} hi h => ?_, fun {f n i q} hi h => ?_, fun {f n i q} hi h => ?_, fun {f n i q} hi h => ?_, fun {f n i q e} hi h => ?_⟩
  · unfold adv at h
    split at h
    · injection h with h1 h2
      subst h1 h2
      exact ⟨by omega, by omega, fun g m _ hm => by unfold adv; rw [if_pos (by omega)]⟩
    · cases h
  · unfold adv at h
    split at h <;> cases h
  · unfold adv at h
    split at h
    · cases h
    · injection h with h1 h2; exact h1.symm
  · unfold adv at h
    split at h <;> cases h
  · unfold adv at h
    split at h
    · cases h
    · injection h with h1 h2; exact .inl h2.symm
theorem ex_adv (a : α) : Ex (adv a) := ⟨fun {f n i q} hi h => ⟨0, by decide, fun g _ _ q' h' => by
  unfold adv at h'
  split at h' <;> cases h'⟩⟩
/-- a limit that is passed or not, with a place -/
def gate (b : Bool) (q : Nat) : Prs Unit := fun _ _ i => if b = true then .no (min q i) 8 else .ok () i
/-- so many parts, of so many bytes each at least, end within size -/
def bnd (size q v w : Nat) : Prs Unit := fun _ _ i => if (size - i) / w < v then .no (min q i) 8 else .ok () i
def tst (b : Nat → Bool) (q : Nat) : Prs Unit := fun _ _ i => if b i = true then .no (min q i) 8 else .ok () i
theorem dt_test (b : Nat → Bool) (q : Nat) : Dt (tst b q) := by
  refine ⟨fun {f n i b k} hi h => ?_, fun {f n i q} hi h => ?_, fun {f n i q} hi h => ?_, fun {f n i q} hi h => ?_, fun {f n i q e} hi h => ?_⟩
  all_goals unfold tst at h
  · split at h
    · cases h
    · rename_i h0
      injection h with h1 h2
      subst h2
      exact ⟨Nat.le_refl _, hi, fun g m _ _ => by unfold tst; rw [if_neg h0]⟩
  · split at h <;> cases h
  · split at h <;> cases h
  · split at h
    · rename_i h0
      injection h with h1 h2
      subst h1
      exact ⟨by omega, fun g m _ _ => by unfold tst; rw [if_pos h0]⟩
    · cases h
  · split at h
    · injection h with h1 h2
      exact .inr (.inr h2.symm)
    · cases h
theorem dt_gate (b : Bool) (q : Nat) : Dt (gate b q) := dt_test (fun _ => b) q
theorem ex_gate (b : Bool) (q : Nat) : Ex (gate b q) := by
  constructor
  intro f n i r hi h
  unfold gate at h
  split at h <;> cases h
theorem bnd_test (size q v w : Nat) : bnd size q v w = tst (fun i => decide ((size - i) / w < v)) q := by
  funext f n i
  unfold bnd tst
  simp only [decide_eq_true_eq]
theorem dt_bnd (size q v w : Nat) : Dt (bnd size q v w) := by
  rw [bnd_test]
  exact dt_test (fun i => decide ((size - i) / w < v)) q
theorem ex_bnd (size q v w : Nat) : Ex (bnd size q v w) := by
  constructor
  intro f n i r hi h
  unfold bnd at h
  split at h <;> cases h
theorem Dt.bind (h : Dt p) {q : α → Prs β} (hq : ∀ a, Dt (q a)) : Dt (p.bind q) := by
  refine ⟨fun {f n i b k} hi h1 => ?_, fun {f n i r} hi h1 => ?_, fun {f n i r} hi h1 => ?_, fun {f n i r} hi h1 => ?_, fun {f n i r e} hi h1 => ?_⟩
  · obtain ⟨a, j, e1, e2⟩ := bind_to h1
    obtain ⟨a1, a2, a3⟩ := h.ok hi e1
    obtain ⟨b1, b2, b3⟩ := (hq a).ok a2 e2
    refine ⟨by omega, b2, fun g m hg hm => ?_⟩
    rw [bind_ok (a3 g m (fun l hl => hg l (by omega)) (by omega))]
    exact b3 g m hg hm
  · cases e1 : p f n i with
    | ok a j =>
      obtain ⟨a1, a2, a3⟩ := h.ok hi e1
      rw [bind_ok e1] at h1
      obtain ⟨b1, b2, b3⟩ := (hq a).form a2 h1
      refine ⟨by omega, b2, fun g m hg hm => ?_⟩
      rw [bind_ok (a3 g m (fun l hl => hg l (by omega)) (by omega))]
      exact b3 g m hg hm
    | no r' e' =>
      rw [bind_no e1] at h1
      injection h1 with h2 h3
      subst h2 h3
      obtain ⟨a1, a2, a3⟩ := h.form hi e1
      exact ⟨a1, a2, fun g m hg hm => bind_no (a3 g m hg hm)⟩
  · cases e1 : p f n i with
    | ok a j =>
      obtain ⟨a1, a2, a3⟩ := h.ok hi e1
      rw [bind_ok e1] at h1
      exact (hq a).short a2 h1
    | no r' e' =>
      rw [bind_no e1] at h1
      injection h1 with h2 h3
      subst h2 h3
      exact h.short hi e1
  · cases e1 : p f n i with
    | ok a j =>
      obtain ⟨a1, a2, a3⟩ := h.ok hi e1
      rw [bind_ok e1] at h1
      obtain ⟨b1, b2⟩ := (hq a).lim a2 h1
      refine ⟨b1, fun g m hg hm => ?_⟩
      rw [bind_ok (a3 g m (fun l hl => hg l (by omega)) (by omega))]
      exact b2 g m hg hm
    | no r' e' =>
      rw [bind_no e1] at h1
      injection h1 with h2 h3
      subst h2 h3
      obtain ⟨a1, a2⟩ := h.lim hi e1
      exact ⟨a1, fun g m hg hm => bind_no (a2 g m hg hm)⟩
  · cases e1 : p f n i with
    | ok a j =>
      rw [bind_ok e1] at h1
      exact (hq a).err (h.ok hi e1).2.1 h1
    | no r' e' =>
      rw [bind_no e1] at h1
      injection h1 with h2 h3
      subst h2 h3
      exact h.err hi e1
theorem Ex.bind (h : Dt p) (x : Ex p) {q : α → Prs β} (hq : ∀ a, Dt (q a)) (xq : ∀ a, Ex (q a)) : Ex (p.bind q) := by
  constructor
  intro f n i r hi h1
  cases e1 : p f n i with
  | ok a j =>
    obtain ⟨a1, a2, a3⟩ := h.ok hi e1
    rw [bind_ok e1] at h1
    obtain ⟨c, hc, hx⟩ := (xq a).go a2 h1
    refine ⟨c, hc, fun g hg hn q' h' => ?_⟩
    rw [bind_ok (a3 g (n + 1) (fun l hl => hg l (by omega)) (by omega))] at h'
    exact hx g hg hn q' h'
  | no r' e' =>
    rw [bind_no e1] at h1
    injection h1 with h2 h3
    subst h2 h3
    obtain ⟨c, hc, hx⟩ := x.go hi e1
    refine ⟨c, hc, fun g hg hn q' h' => ?_⟩
    cases e2 : p g (n + 1) i with
    | ok a j =>
      obtain ⟨a1, a2, a3⟩ := h.ok (by omega) e2
      rw [bind_ok e2] at h'
      by_cases hj : j ≤ n
      · have := a3 f n (fun l hl => (hg l (by omega)).symm) hj
        rw [e1] at this
        cases this
      · obtain ⟨b1, b2, _⟩ := (hq a).form a2 h'
        omega
    | no r2 e2' =>
      rw [bind_no e2] at h'
      injection h' with h3 h4
      subst h4
      exact hx g hg hn r2 e2
/-- a byte decides which reader reads from its place on -/
def pk (t : Nat → Prs α) : Prs α := fun f n i => if i < n then t (f i) f n i else .no n 3
theorem pk_lt {t : Nat → Prs α} (h : i < n) : pk t f n i = t (f i) f n i := by unfold pk; rw [if_pos h]
theorem pk_end {t : Nat → Prs α} (h : ¬ i < n) : pk t f n i = .no n 3 := by unfold pk; rw [if_neg h]
theorem dt_pk {t : Nat → Prs α} (h : ∀ c, Dt (t c)) (hl : ∀ {c f n i a k}, i < n → f i = c → t c f n i = .ok a k → i < k) : Dt (pk t) := by
  refine ⟨fun {f n i b k} hi h1 => ?_, fun {f n i r} hi h1 => ?_, fun {f n i r} hi h1 => ?_, fun {f n i r} hi h1 => ?_, fun {f n i r e} hi h1 => ?_⟩
  all_goals by_cases hlt : i < n
  all_goals first | rw [pk_lt hlt] at h1 | rw [pk_end hlt] at h1
  · have hk : i < k := hl hlt rfl h1
    obtain ⟨b1, b2, b3⟩ := (h (f i)).ok hi h1
    exact ⟨b1, b2, fun g m hg hm => by rw [pk_lt (by omega), hg i hk]; exact b3 g m hg hm⟩
  · cases h1
  · obtain ⟨b1, b2, b3⟩ := (h (f i)).form hi h1
    exact ⟨b1, b2, fun g m hg hm => by rw [pk_lt (by omega), hg i b1]; exact b3 g m hg hm⟩
  · cases h1
  · exact (h (f i)).short hi h1
  · injection h1 with h2 h3; exact h2.symm
  · obtain ⟨b1, b2⟩ := (h (f i)).lim hi h1
    exact ⟨b1, fun g m hg hm => by rw [pk_lt (by omega), hg i hlt]; exact b2 g m hg hm⟩
  · cases h1
  · exact (h (f i)).err hi h1
  · injection h1 with h2 h3; exact .inl h3.symm
theorem ex_pk {t : Nat → Prs α} (h : ∀ c, Exl (t c)) (hx : ∃ c, c ∈ more6 ∧ ∀ (g : Nat → Nat) (n q' : Nat), g n = c → t c g (n + 1) n ≠ .no q' 4) : Ex (pk t) := by
  constructor
  intro f n i r hi h1
  by_cases hlt : i < n
  · rw [pk_lt hlt] at h1
    obtain ⟨c, hc, hx⟩ := (h (f i)).go hlt h1
    refine ⟨c, hc, fun g hg hn q' h' => ?_⟩
    rw [pk_lt (by omega), hg i hlt] at h'
    exact hx g hg hn q' h'
  · obtain rfl : i = n := by omega
    obtain ⟨c, hc, hx⟩ := hx
    refine ⟨c, hc, fun g hg hn q' h' => ?_⟩
    rw [pk_lt (by omega), hn] at h'
    exact hx g i q' hn h'

/-! a loop: its body goes on with a state, or ends -/
structure Bdy (b : σ → Prs (σ ⊕ β)) : Prop where
  dt : ∀ s, Dt (b s)
  lt : ∀ {s f n i s' k}, i ≤ n → b s f n i = .ok (.inl s') k → i < k
variable {b : σ → Prs (σ ⊕ β)}
theorem its_bind (u : Nat) (s : σ) : its b (u + 1) s = (b s).bind (fun x => match x with | .inl s' => its b u s' | .inr r => ret r) := by
  funext f n i
  rw [its_succ]
  unfold Prs.bind
  cases b s f n i with
  | ok x k => cases x <;> rfl
  | no q e => rfl
theorem its_dt (h : Bdy b) (u : Nat) : ∀ s, Dt (its b u s) := by
  induction u with
  | zero =>
    intro s
    refine ⟨fun _ h => (by cases h), fun _ h => (by cases h), fun _ h => ?_, fun _ h => (by cases h), fun _ h => ?_⟩
    · injection h with h1 h2; exact h1.symm
    · injection h with h1 h2; exact .inl h2.symm
  | succ u ih =>
    intro s
    rw [its_bind]
    exact (h.dt s).bind fun x => match x with | .inl s' => ih s' | .inr r => dt_ret r
theorem its_ex (h : Bdy b) (x : ∀ s, Ex (b s)) (u : Nat) : ∀ s, Ex (its b u s) := by
  induction u with
  | zero => exact fun s => ⟨fun {f n i q} _ _ => ⟨0, by decide, fun g _ _ q' h => (by cases h)⟩⟩
  | succ u ih =>
    intro s
    rw [its_bind]
    exact Ex.bind (h.dt s) (x s) (fun x => match x with | .inl s' => its_dt h u s' | .inr r => dt_ret r) (fun x => match x with | .inl s' => ih s' | .inr r => ex_ret r)
theorem its_fuel6 (h : Bdy b) : ∀ (d : Nat) (s : σ) (i u v : Nat), i ≤ n → n - i ≤ d → n - i < u → n - i < v → its b u s f n i = its b v s f n i := by
  intro d
  induction d with
  | zero =>
    intro s i u v hi hd hu hv
    obtain ⟨u, rfl⟩ : ∃ x, u = x + 1 := ⟨u - 1, by omega⟩
    obtain ⟨v, rfl⟩ : ∃ x, v = x + 1 := ⟨v - 1, by omega⟩
    rw [its_succ, its_succ]
    cases e : b s f n i with
    | no q r => rfl
    | ok x k =>
      cases x with
      | inr r => rfl
      | inl s' =>
        have h1 := h.lt hi e
        have h2 := ((h.dt s).ok hi e).2.1
        omega
  | succ d ih =>
    intro s i u v hi hd hu hv
    obtain ⟨u, rfl⟩ : ∃ x, u = x + 1 := ⟨u - 1, by omega⟩
    obtain ⟨v, rfl⟩ : ∃ x, v = x + 1 := ⟨v - 1, by omega⟩
    rw [its_succ, its_succ]
    cases e : b s f n i with
    | no q r => rfl
    | ok x k =>
      cases x with
      | inr r => rfl
      | inl s' =>
        have h1 := h.lt hi e
        have h2 := ((h.dt s).ok hi e).2.1
        exact ih s' k u v h2 (by omega) (by omega) (by omega)
theorem lp_its6 (h : Bdy b) {s : σ} {u : Nat} (hi : i ≤ n) (hu : n - i < u) : lp b s f n i = its b u s f n i := its_fuel6 h (n - i) s i _ _ hi (Nat.le_refl _) (by omega) hu
theorem lp_step6 (h : Bdy b) (s : σ) (hi : i ≤ n) : lp b s f n i = match b s f n i with | .ok (.inl s') k => lp b s' f n k | .ok (.inr r) k => .ok r k | .no q e => .no q e := by
  show its b (n - i + 1) s f n i = _
  rw [its_succ]
  cases e : b s f n i with
  | no q r => rfl
  | ok x k =>
    cases x with
    | inr r => rfl
    | inl s' =>
      have h1 := h.lt hi e
      have h2 := ((h.dt s).ok hi e).2.1
      exact (lp_its6 h h2 (by omega)).symm
theorem lp_in (h : Bdy b) {s s' : σ} (hi : i ≤ n) (e : b s f n i = .ok (.inl s') k) : lp b s f n i = lp b s' f n k := by rw [lp_step6 h s hi, e]
theorem lp_out (h : Bdy b) {s : σ} {r : β} (hi : i ≤ n) (e : b s f n i = .ok (.inr r) k) : lp b s f n i = .ok r k := by rw [lp_step6 h s hi, e]
theorem lp_err (h : Bdy b) {s : σ} (hi : i ≤ n) (e : b s f n i = .no q m) : lp b s f n i = .no q m := by rw [lp_step6 h s hi, e]
theorem lp_dt (h : Bdy b) (s : σ) : Dt (lp b s) := by
  refine ⟨fun {f n i r k} hi h1 => ?_, fun {f n i q} hi h1 => ?_, fun {f n i q} hi h1 => (its_dt h _ s).short hi h1, fun {f n i q} hi h1 => ?_, fun {f n i q e} hi h1 => (its_dt h _ s).err hi h1⟩
  · obtain ⟨a1, a2, a3⟩ := (its_dt h _ s).ok hi h1
    refine ⟨a1, a2, fun g m hg hm => ?_⟩
    have hb : its b (max (n - i + 1) (m - i + 1)) s f n i = .ok r k := by rw [← lp_its6 h hi (by omega)]; exact h1
    obtain ⟨_, _, b3⟩ := (its_dt h _ s).ok hi hb
    rw [lp_its6 h (by omega) (show m - i < max (n - i + 1) (m - i + 1) by omega)]
    exact b3 g m hg hm
  · obtain ⟨a1, a2, a3⟩ := (its_dt h _ s).form hi h1
    refine ⟨a1, a2, fun g m hg hm => ?_⟩
    have hb : its b (max (n - i + 1) (m - i + 1)) s f n i = .no q 4 := by rw [← lp_its6 h hi (by omega)]; exact h1
    obtain ⟨_, _, b3⟩ := (its_dt h _ s).form hi hb
    rw [lp_its6 h (by omega) (show m - i < max (n - i + 1) (m - i + 1) by omega)]
    exact b3 g m hg hm
  · obtain ⟨a1, a2⟩ := (its_dt h _ s).lim hi h1
    refine ⟨a1, fun g m hg hm => ?_⟩
    have hb : its b (max (n - i + 1) (m - i + 1)) s f n i = .no q 8 := by rw [← lp_its6 h hi (by omega)]; exact h1
    obtain ⟨_, b3⟩ := (its_dt h _ s).lim hi hb
    rw [lp_its6 h (by omega) (show m - i < max (n - i + 1) (m - i + 1) by omega)]
    exact b3 g m hg hm
theorem lp_ex (h : Bdy b) (x : ∀ s, Ex (b s)) (s : σ) : Ex (lp b s) := by
  constructor
  intro f n i q hi h1
  rw [lp_its6 h hi (show n - i < n - i + 2 by omega)] at h1
  obtain ⟨c, hc, hx⟩ := (its_ex h x _ s).go hi h1
  refine ⟨c, hc, fun g hg hn q' h' => hx g hg hn q' ?_⟩
  rw [← lp_its6 h (show i ≤ n + 1 by omega) (by omega)]
  exact h'
/-- what holds ahead of each round and is kept holds at the end -/
theorem lp_inv6 (h : Bdy b) (I : σ → Nat → Prop) (J : β → Nat → Prop) (h1 : ∀ {s i s' k}, i ≤ n → I s i → b s f n i = .ok (.inl s') k → I s' k) (h2 : ∀ {s i r k}, i ≤ n → I s i → b s f n i = .ok (.inr r) k → J r k)
    {s : σ} {r : β} (hi : i ≤ n) (hI : I s i) (hr : lp b s f n i = .ok r k) : J r k := by
  have key : ∀ (u : Nat) (s : σ) (i : Nat), i ≤ n → I s i → its b u s f n i = .ok r k → J r k := by
    intro u
    induction u with
    | zero => intro s i _ _ hr; cases hr
    | succ u ih =>
      intro s i hi hI hr
      rw [its_succ] at hr
      cases e : b s f n i with
      | no q r => rw [e] at hr; cases hr
      | ok x l =>
        rw [e] at hr
        cases x with
        | inr r' => injection hr with t1 t2; subst t1 t2; exact h2 hi hI e
        | inl s' => exact ih s' l ((h.dt s).ok hi e).2.1 (h1 hi hI e) hr
  exact key _ s i hi hI hr
end
end Go.Proofs.YtpcladdipgchbaaGreatDoor.nn
namespace Go.Proofs.YtpcladdipgchbaaGreatDoor.nn

/-- the bytes from a place on -/
def sh (f : Nat → Nat) (i : Nat) : Nat → Nat := fun j => f (i + j)
theorem sh_congr {f g : Nat → Nat} {i n : Nat} (h : ∀ j, j < i + n → g j = f j) : ∀ j, j < n → sh g i j = sh f i j := fun j hj => h (i + j) (by omega)
theorem pc_congr6 {f g : Nat → Nat} {n : Nat} (h : ∀ j, j < n → g j = f j) : pc g n = pc f n := by
  unfold pc
  congr 1
  exact List.map_congr_left fun j hj => by rw [h j (List.mem_range.1 hj)]
/-- a head: its place, major, info, number -/
structure Hdr where
  p : Nat
  M : Nat
  x : Nat
  v : Nat
def hdr : Prs Hdr := fun f n i => if (gtR (sh f i) (n - i)).2.2.2.2 = 0 then .ok ⟨i, (gtR (sh f i) (n - i)).1, (gtR (sh f i) (n - i)).2.1, (gtR (sh f i) (n - i)).2.2.1⟩ (i + (gtR (sh f i) (n - i)).2.2.2.1) else .no (i + (gtR (sh f i) (n - i)).2.2.2.1) (gtR (sh f i) (n - i)).2.2.2.2
section
variable {f g : Nat → Nat} {m m' n i k q : Nat}
/-- a head that is read: its first byte's parts, and how long it is -/
theorem gt_first (h : (gtR f m).2.2.2.2 = 0) : 0 < m ∧ (gtR f m).1 = f 0 / 32 ∧ (gtR f m).2.1 = f 0 % 32 ∧ (f 0 % 32 ≤ 27 ∨ f 0 % 32 = 31) ∧ 1 ≤ (gtR f m).2.2.2.1 ∧ (gtR f m).2.2.2.1 ≤ m := by
  obtain ⟨M, x, K, hM, hx, hK, h1 | h1 | h1 | h1 | h1 | h1 | h1⟩ := gt_cases f m
  · rw [h1.2] at h; cases h
  · rw [h1.2.2] at h; cases h
  · rw [h1.2.2, hM, hx]
    refine ⟨h1.1, rfl, rfl, ?_, ?_, ?_⟩
    · omega
    · exact Nat.le_refl 1
    · exact h1.1
  · rw [h1.2.2, hM, hx]
    refine ⟨h1.1, rfl, ?_, ?_, ?_, ?_⟩
    · show 31 = x; omega
    · omega
    · exact Nat.le_refl 1
    · exact h1.1
  · rw [h1.2.2.2.2] at h; cases h
  · rw [h1.2.2.2] at h; cases h
  · rw [h1.2.2.2, hM, hx]
    refine ⟨by omega, rfl, rfl, ?_, ?_, ?_⟩
    · omega
    · show 1 ≤ K + 1; omega
    · exact h1.1
theorem gt_okk (h : (gtR f m).2.2.2.2 = 0) (hk : (gtR f m).2.2.2.1 = k) (hg : ∀ j, j < k → g j = f j) (hm : k ≤ m') : gtR g m' = gtR f m := by
  obtain ⟨M, x, K, hM, hx, hK, h1 | h1 | h1 | h1 | h1 | h1 | h1⟩ := gt_cases f m
  · rw [h1.2] at h; cases h
  · rw [h1.2.2] at h; cases h
  · rw [h1.2.2] at hk ⊢
    obtain rfl : 1 = k := hk
    unfold gtR
    rw [hg 0 (by omega), hM, hx, if_neg (by omega), if_neg (by omega), if_pos h1.2.1]
  · obtain ⟨h11, h12, h13⟩ := h1
    rw [h13] at hk h ⊢
    obtain rfl : 1 = k := hk
    subst h12
    have h9 : ¬ ((28 ≤ 31 ∧ 31 ≤ 30) ∨ (31 = 31 ∧ (M < 2 ∨ M = 6))) := fun h8 => by
      have : gtR f m = (0, 0, 0, 0, 4) := by
        unfold gtR
        rw [if_neg (by omega), if_pos (by rw [hx, hM]; exact h8)]
      rw [this] at h13
      injection h13 with _ h13
      injection h13 with h13 _
      cases h13
    unfold gtR
    rw [hg 0 (by omega), hM, hx, if_neg (by omega), if_neg h9, if_neg (by omega), if_pos rfl]
  · rw [h1.2.2.2.2] at h; cases h
  · rw [h1.2.2.2] at h; cases h
  · obtain ⟨h11, h12, h13, h14⟩ := h1
    rw [h14] at hk ⊢
    obtain rfl : K + 1 = k := hk
    have h2 := two_k h12
    rw [hK] at h2
    have e0 := hg 0 (by omega)
    have e1 : M = 7 ∧ x = 24 → g 1 = f 1 := fun _ => hg 1 (by omega)
    have hbe : ∀ j, j ≤ K → be (fun i => g (1 + i)) j = be (fun i => f (1 + i)) j := by
      intro j
      induction j with
      | zero => intro _; rfl
      | succ j ih => intro hj; rw [be, be, ih (by omega), hg (1 + j) (by omega)]
    unfold gtR
    rw [e0, hM, hx, hK, if_neg (by omega), if_neg (by omega), if_neg (by omega), if_neg (by omega), if_neg (fun h9 => h13 ⟨h9.1, h9.2.1, by rw [← e1 ⟨h9.1, h9.2.1⟩]; exact h9.2.2.2⟩), if_neg (by omega), hbe K (Nat.le_refl _)]
theorem hdr_no {e : Nat} (h : hdr f n i = .no q e) : (gtR (sh f i) (n - i)).2.2.2.2 = e ∧ e ≠ 0 ∧ q = i + (gtR (sh f i) (n - i)).2.2.2.1 := by
  unfold hdr at h
  split at h
  · cases h
  · rename_i h0
    injection h with h1 h2
    exact ⟨h2, by rw [← h2]; exact h0, h1.symm⟩
theorem hdr_ok {s : Hdr} (h : hdr f n i = .ok s k) : (gtR (sh f i) (n - i)).2.2.2.2 = 0 ∧ k = i + (gtR (sh f i) (n - i)).2.2.2.1 ∧ s.p = i ∧ s.M = f i / 32 ∧ s.x = f i % 32 ∧ s.v = (gtR (sh f i) (n - i)).2.2.1 ∧ i < n ∧ i < k ∧ k ≤ n ∧ (s.x ≤ 27 ∨ s.x = 31) := by
  unfold hdr at h
  split at h
  · rename_i h0
    injection h with h1 h2
    subst h1
    have h3 := gt_first h0
    have e0 : sh f i 0 = f i := rfl
    rw [e0] at h3
    exact ⟨h0, h2.symm, rfl, h3.2.1, h3.2.2.1, rfl, by omega, by omega, by omega, by show (gtR (sh f i) (n - i)).2.1 ≤ 27 ∨ _; rw [h3.2.2.1]; exact h3.2.2.2.1⟩
  · cases h
theorem hdr_end : hdr f n n = .no n 3 := by
  unfold hdr
  have : gtR (sh f n) (n - n) = (0, 0, 0, 0, 3) := by
    rw [Nat.sub_self]
    rfl
  rw [this]
  rfl
theorem dt_hdr : Dt hdr := by
  refine ⟨fun {f n i s k} hi h => ?_, fun {f n i q} hi h => ?_, fun {f n i q} hi h => ?_, fun {f n i q} hi h => ?_, fun {f n i q e} hi h => ?_⟩
  · obtain ⟨h0, h1, _, _, _, _, _, h2, h3, _⟩ := hdr_ok h
    refine ⟨by omega, h3, fun g m hg hm => ?_⟩
    have h4 : gtR (sh g i) (m - i) = gtR (sh f i) (n - i) := gt_okk h0 rfl (fun j hj => hg (i + j) (by omega)) (by omega)
    unfold hdr at h ⊢
    rw [h4]
    exact h
  · obtain ⟨h0, _, h1⟩ := hdr_no h
    obtain ⟨a1, a2, a3⟩ := gt_form h0 rfl
    refine ⟨by omega, by omega, fun g m hg hm => ?_⟩
    have h4 := a3 (sh g i) (m - i) (fun j hj => hg (i + j) (by omega)) (by omega)
    unfold hdr
    rw [h4, if_neg (by show ¬ (4 = 0); decide), h1]
  · obtain ⟨h0, _, h1⟩ := hdr_no h
    have := (gt_short h0).1
    omega
  · obtain ⟨h0, _, _⟩ := hdr_no h
    have := gt_errs (f := sh f i) (m := n - i)
    omega
  · obtain ⟨h0, h1, _⟩ := hdr_no h
    have := gt_errs (f := sh f i) (m := n - i)
    omega
theorem ex_hdr : Ex hdr := by
  constructor
  intro f n i q hi h
  obtain ⟨h0, _, h1⟩ := hdr_no h
  obtain ⟨M, x, K, hM, hx, hK, h2 | h2 | h2 | h2 | h2 | h2 | h2⟩ := gt_cases (sh f i) (n - i)
  · refine ⟨0, by decide, fun g hg hn q' h' => ?_⟩
    obtain rfl : i = n := by omega
    have e1 : gtR (sh g i) (i + 1 - i) = (0, 0, 0, 1, 0) := by
      rw [show i + 1 - i = 1 by omega]
      unfold gtR
      rw [show sh g i 0 = 0 from hn]
      rfl
    have := (hdr_no h').1
    rw [e1] at this
    cases this
  · rw [h2.2.2] at h0; cases h0
  · rw [h2.2.2] at h0; cases h0
  · rw [h2.2.2] at h0; cases h0
  · rw [h2.2.2.2.2] at h0; cases h0
  · refine ⟨255, by decide, fun g hg hn q' h' => ?_⟩
    obtain ⟨h21, h22, h23, _⟩ := h2
    have h3 := (hdr_no h').1
    have k2 := two_k h22
    rw [hK] at k2
    have e0 : sh g i 0 = sh f i 0 := hg i (by omega)
    obtain ⟨M', x', K', hM', hx', hK', h4 | h4 | h4 | h4 | h4 | h4 | h4⟩ := gt_cases (sh g i) (n + 1 - i)
    · rw [h4.2] at h3; cases h3
    · rw [e0] at hx' ; omega
    · rw [h4.2.2] at h3; cases h3
    · rw [h4.2.2] at h3; cases h3
    · rw [e0] at hx'
      have e1 : n - i = 1 := by omega
      have e2 : sh g i 1 = g n := by show g (i + 1) = g n; rw [show i + 1 = n by omega]
      omega
    · rw [h4.2.2.2] at h3; cases h3
    · rw [h4.2.2.2] at h3; cases h3
  · rw [h2.2.2.2] at h0; cases h0

/-! bytes or a text of a length -/
theorem spw_lt {N : Int} (h : aw f N n = false) : spw f N n < n ∧ aw f N (spw f N n) = true ∧ aw f N (spw f N n + 1) = false := by
  induction n with
  | zero => cases h
  | succ n ih =>
    rw [spw, if_neg (by rw [h]; decide)]
    by_cases e : aw f N n = true
    · rw [spw_all e]; exact ⟨by omega, e, h⟩
    · have := ih (by simpa using e)
      exact ⟨by omega, this.2⟩
/-- bytes or a text of v bytes -/
def byt (M v : Nat) : Prs ByteArray := fun f n i =>
  if M = 3 ∧ wE (sh f i) (v : Int) (min v (n - i)) ≠ 0 then .no (i + spw (sh f i) (v : Int) (min v (n - i))) (wE (sh f i) (v : Int) (min v (n - i)))
  else if n - i < v then .no n 3 else .ok (pc (sh f i) v) (i + v)
theorem wE_cases (f : Nat → Nat) (N : Int) (m : Nat) : (wE f N m = 4 ∧ aw f N m = false) ∨ (aw f N m = true ∧ (wE f N m = 0 ∨ wE f N m = 3)) := by
  unfold wE
  by_cases h : aw f N m = true
  · rw [if_pos h]
    refine .inr ⟨h, ?_⟩
    split
    · exact .inr rfl
    · exact .inl rfl
  · rw [if_neg h]
    exact .inl ⟨rfl, by simpa using h⟩
/-- a text that is whole is not too short -/
theorem wE_full {N : Nat} (h : wE f (N : Int) N = 3) : False := by
  have h1 := h
  unfold wE at h1
  split at h1
  · rename_i ha
    split at h1
    · rename_i hb
      rcases hb with hb | hb
      · by_cases h0 : 0 < N
        · have := aw_room ha h0
          omega
        · obtain rfl : N = 0 := by omega
          exact hb rfl
      · omega
    · cases h1
  · cases h1
theorem byt_ok {M v : Nat} {s : ByteArray} (_ : i ≤ n) (h : byt M v f n i = .ok s k) : v ≤ n - i ∧ s = pc (sh f i) v ∧ k = i + v ∧ (M = 3 → wE (sh f i) (v : Int) v = 0) := by
  unfold byt at h
  split at h
  · cases h
  · rename_i h0
    split at h
    · cases h
    · rename_i h1
      injection h with h2 h3
      have hm : min v (n - i) = v := by omega
      rw [hm] at h0
      exact ⟨by omega, h2.symm, h3.symm, fun hM => Classical.byContradiction fun hw => h0 ⟨hM, hw⟩⟩
theorem byt_yes {M v : Nat} (hv : v ≤ n - i) (h : M = 3 → wE (sh f i) (v : Int) v = 0) : byt M v f n i = .ok (pc (sh f i) v) (i + v) := by
  unfold byt
  have hm : min v (n - i) = v := by omega
  rw [hm, if_neg (fun h0 => h0.2 (h h0.1)), if_neg (by omega)]
theorem dt_byt (M v : Nat) : Dt (byt M v) := by
  refine ⟨fun {f n i s k} hi h => ?_, fun {f n i q} hi h => ?_, fun {f n i q} hi h => ?_, fun {f n i q} hi h => ?_, fun {f n i q e} hi h => ?_⟩
  · obtain ⟨h1, rfl, rfl, h2⟩ := byt_ok hi h
    refine ⟨by omega, by omega, fun g m hg hm => ?_⟩
    have hc : ∀ j, j < v → sh g i j = sh f i j := sh_congr hg
    rw [byt_yes (by omega) (fun hM => by rw [wE_congr hc]; exact h2 hM), pc_congr6 hc]
  · unfold byt at h
    split at h
    · rename_i h0
      injection h with h1 h2
      rcases wE_cases (sh f i) (v : Int) (min v (n - i)) with ⟨_, ha⟩ | ⟨_, ha | ha⟩
      · obtain ⟨b1, b2, b3⟩ := spw_lt ha
        refine ⟨by omega, by omega, fun g m hg hm => ?_⟩
        have hc : ∀ j, j < spw (sh f i) (v : Int) (min v (n - i)) + 1 → sh g i j = sh f i j := fun j hj => hg (i + j) (by omega)
        have c1 : aw (sh g i) (v : Int) (spw (sh f i) (v : Int) (min v (n - i))) = true := by rw [aw_congr fun j hj => hc j (by omega)]; exact b2
        have c2 : aw (sh g i) (v : Int) (spw (sh f i) (v : Int) (min v (n - i)) + 1) = false := by rw [aw_congr hc]; exact b3
        obtain ⟨d1, d2⟩ := ans_no (m := min v (m - i)) c1 c2 (by omega)
        unfold byt
        rw [d1, d2, if_pos ⟨h0.1, by decide⟩, h1]
      · omega
      · omega
    · split at h <;> cases h
  · unfold byt at h
    split at h
    · rename_i h0
      injection h with h1 h2
      rcases wE_cases (sh f i) (v : Int) (min v (n - i)) with ⟨ha, _⟩ | ⟨ha, _⟩
      · omega
      · rw [spw_all ha] at h1
        by_cases hv : v ≤ n - i
        · rw [Nat.min_eq_left hv] at h2
          exact absurd h2 fun h => wE_full h
        · omega
    · split at h
      · injection h with h1 _; exact h1.symm
      · cases h
  · unfold byt at h
    split at h
    · injection h with h1 h2
      rcases wE_cases (sh f i) (v : Int) (min v (n - i)) with ⟨ha, _⟩ | ⟨ha, h3 | h3⟩ <;> omega
    · split at h <;> cases h
  · unfold byt at h
    split at h
    · rename_i h0
      injection h with h1 h2
      rcases wE_cases (sh f i) (v : Int) (min v (n - i)) with ⟨ha, _⟩ | ⟨ha, h3 | h3⟩ <;> omega
    · split at h
      · injection h with h1 h2; exact .inl h2.symm
      · cases h
/-- a text that is right so far can be gone on with by one of three bytes -/
theorem aw_more {N : Int} (h : aw f N m = true) (hN : (m : Int) < N) : ∃ c, c ∈ more6 ∧ ∀ g : Nat → Nat, (∀ j, j < m → g j = f j) → g m = c → aw g N (m + 1) = true := by
  have hG : Gd (tk f t0 m) := gd_go gd_zero m
  have key : ∀ c, ok (tk f t0 m) c = true → (((nx (tk f t0 m) c).c : Int) + (m + 1) ≤ N) → ∀ g : Nat → Nat, (∀ j, j < m → g j = f j) → g m = c → aw g N (m + 1) = true := fun c h1 h2 g hg hc => by
    have e1 : tk g t0 m = tk f t0 m := tk_congr hg
    have e2 : al g t0 m = true := by rw [al_congr hg]; exact aw_al h
    refine aw_mk (by rw [aw_congr hg]; exact h) (by rw [al_succ, e2, e1, hc, h1]; rfl) (.inr ?_)
    rw [tk_succ e2, e1, hc]
    exact h2
  by_cases hc0 : (tk f t0 m).c = 0
  · refine ⟨0, by decide, key 0 ?_ ?_⟩
    · unfold ok
      rw [if_pos hc0]
      decide
    · unfold nx
      rw [if_pos hc0]
      show ((0 : Nat) : Int) + (m + 1) ≤ N
      omega
  · have hm0 : 0 < m := by
      rcases Nat.eq_zero_or_pos m with h0 | h0
      · subst h0; exact absurd rfl hc0
      · exact h0
    have hr := aw_room h hm0
    have go_ : ∀ c, (tk f t0 m).lo ≤ c → c ≤ (tk f t0 m).hi → ok (tk f t0 m) c = true ∧ (((nx (tk f t0 m) c).c : Int) + (m + 1) ≤ N) := fun c h1 h2 => by
      refine ⟨by unfold ok; rw [if_neg hc0]; exact decide_eq_true ⟨h1, h2⟩, ?_⟩
      unfold nx
      rw [if_neg hc0, if_pos ⟨h1, h2⟩]
      show (((tk f t0 m).c - 1 : Nat) : Int) + (m + 1) ≤ N
      omega
    have : ((tk f t0 m).lo ≤ 128 ∧ 128 ≤ (tk f t0 m).hi) ∨ ((tk f t0 m).lo ≤ 144 ∧ 144 ≤ (tk f t0 m).hi) ∨ ((tk f t0 m).lo ≤ 160 ∧ 160 ≤ (tk f t0 m).hi) := by
      unfold Gd at hG
      omega
    rcases this with h3 | h3 | h3
    · exact ⟨128, by decide, key _ (go_ _ h3.1 h3.2).1 (go_ _ h3.1 h3.2).2⟩
    · exact ⟨144, by decide, key _ (go_ _ h3.1 h3.2).1 (go_ _ h3.1 h3.2).2⟩
    · exact ⟨160, by decide, key _ (go_ _ h3.1 h3.2).1 (go_ _ h3.1 h3.2).2⟩
theorem ex_byt (M v : Nat) : Ex (byt M v) := by
  constructor
  intro f n i q hi h
  by_cases hM : M = 3
  · have h1 : n - i < v ∧ aw (sh f i) (v : Int) (n - i) = true := by
      unfold byt at h
      split at h
      · rename_i h0
        injection h with h1 h2
        rcases wE_cases (sh f i) (v : Int) (min v (n - i)) with ⟨ha, _⟩ | ⟨ha, _⟩
        · omega
        · by_cases hv : v ≤ n - i
          · rw [Nat.min_eq_left hv] at h2
            exact absurd h2 fun h => wE_full h
          · rw [Nat.min_eq_right (by omega)] at ha
            exact ⟨by omega, ha⟩
      · rename_i h0
        split at h
        · rename_i h1
          refine ⟨h1, ?_⟩
          rw [Nat.min_eq_right (by omega)] at h0
          rcases wE_cases (sh f i) (v : Int) (n - i) with ⟨ha, _⟩ | ⟨ha, _⟩
          · exact absurd ⟨hM, by omega⟩ h0
          · exact ha
        · cases h
    obtain ⟨c, hc, hx⟩ := aw_more h1.2 (by omega)
    refine ⟨c, hc, fun g hg hn q' h' => ?_⟩
    have h2 := hx (sh g i) (fun j hj => hg (i + j) (by omega)) (by show g (i + (n - i)) = c; rw [show i + (n - i) = n by omega]; exact hn)
    have hm : min v (n + 1 - i) = n - i + 1 := by omega
    unfold byt at h'
    rw [hm] at h'
    split at h'
    · injection h' with _ h3
      rcases wE_cases (sh g i) (v : Int) (n - i + 1) with ⟨_, ha⟩ | ⟨_, ha⟩
      · rw [h2] at ha; cases ha
      · omega
    · split at h' <;> cases h'
  · refine ⟨0, by decide, fun g hg hn q' h' => ?_⟩
    unfold byt at h'
    rw [if_neg (fun h0 => hM h0.1)] at h'
    split at h' <;> cases h'

/-! pieces -/
/-- a piece with its head -/
def pce (size M : Nat) : Prs ByteArray := hdr.bind fun s => (bnd size s.p s.v 1).bind fun _ => byt M s.v
theorem dt_pce (size M : Nat) : Dt (pce size M) := dt_hdr.bind fun _ => (dt_bnd _ _ _ _).bind fun _ => dt_byt _ _
theorem ex_pce (size M : Nat) : Ex (pce size M) := Ex.bind dt_hdr ex_hdr (fun _ => (dt_bnd _ _ _ _).bind fun _ => dt_byt _ _) (fun _ => Ex.bind (dt_bnd _ _ _ _) (ex_bnd _ _ _ _) (fun _ => dt_byt _ _) (fun _ => ex_byt _ _))
theorem pce_lt {size M : Nat} {s : ByteArray} (_ : i ≤ n) (h : pce size M f n i = .ok s k) : i < k := by
  obtain ⟨a, j, e1, e2⟩ := bind_to h
  have h1 := hdr_ok e1
  have := ((dt_bnd size a.p a.v 1).bind (fun _ => dt_byt M a.v)).ok h1.2.2.2.2.2.2.2.2.1 e2
  omega
theorem pce_end {size M : Nat} : pce size M f n n = .no n 3 := bind_no hdr_end
/-- a round of what is open: the end, or a piece -/
def pcb (size M : Nat) (acc : ByteArray) (c : Nat) : Prs (ByteArray ⊕ ByteArray) :=
  if c = 255 then adv (.inr acc) else if M * 32 ≤ c ∧ c < M * 32 + 31 then (pce size M).bind fun s => ret (.inl (acc ++ s)) else bad_
theorem bdy_pcs (size M : Nat) : Bdy fun acc => pk (pcb size M acc) := by
  have hl : ∀ {acc : ByteArray} {c : Nat} {f : Nat → Nat} {n i : Nat} {a : ByteArray ⊕ ByteArray} {k : Nat}, i < n → pcb size M acc c f n i = .ok a k → i < k := fun {acc c f n i a k} hi h => by
    unfold pcb at h
    split at h
    · unfold adv at h
      rw [if_pos hi] at h
      injection h with h1 h2
      omega
    · split at h
      · obtain ⟨s, j, e1, e2⟩ := bind_to h
        have := pce_lt (Nat.le_of_lt hi) e1
        injection e2 with e2 e3
        omega
      · unfold bad_ at h
        split at h <;> cases h
  refine ⟨fun acc => dt_pk (fun c => ?_) fun hi _ h => hl hi h, fun {s f n i s' k} hi h => ?_⟩
  · unfold pcb
    split
    · exact dt_adv _
    · split
      · exact (dt_pce _ _).bind fun _ => dt_ret _
      · exact dt_bad
  · by_cases hlt : i < n
    · rw [pk_lt hlt] at h; exact hl hlt h
    · rw [pk_end hlt] at h; cases h
theorem ex_pcs (size M : Nat) (acc : ByteArray) : Ex (pk (pcb size M acc)) := by
  refine ex_pk (fun c => ?_) ⟨255, by decide, fun g n q' _ h' => ?_⟩
  · unfold pcb
    split
    · exact Ex.low (ex_adv _)
    · split
      · exact Ex.low (Ex.bind (dt_pce _ _) (ex_pce _ _) (fun _ => dt_ret _) (fun _ => ex_ret _))
      · exact exl_bad
  · unfold pcb at h'
    rw [if_pos rfl] at h'
    unfold adv at h'
    split at h' <;> cases h'
/-- bytes or a text behind their head: of a length, or open -/
def str (size : Nat) (s : Hdr) : Prs ByteArray := if s.x = 31 then lp (fun acc => pk (pcb size s.M acc)) ⟨#[]⟩ else (bnd size s.p s.v 1).bind fun _ => byt s.M s.v
theorem dt_str (size : Nat) (s : Hdr) : Dt (str size s) := by
  unfold str
  split
  · exact lp_dt (bdy_pcs _ _) _
  · exact (dt_bnd _ _ _ _).bind fun _ => dt_byt _ _
theorem ex_str (size : Nat) (s : Hdr) : Ex (str size s) := by
  unfold str
  split
  · exact lp_ex (bdy_pcs _ _) (ex_pcs _ _) _
  · exact Ex.bind (dt_bnd _ _ _ _) (ex_bnd _ _ _ _) (fun _ => dt_byt _ _) (fun _ => ex_byt _ _)
end
end Go.Proofs.YtpcladdipgchbaaGreatDoor.nn
