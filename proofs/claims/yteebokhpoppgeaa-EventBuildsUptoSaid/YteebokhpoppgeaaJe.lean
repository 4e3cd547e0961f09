/- Joined texts, what is wanted of them: It, Path, GoA, GoB, Go, GoC, VaCount. -/
import Derived.Test.YteebokhpoppgeaaProg
import Derived.WalkKit
import Derived.RangeFuncNested
import Derived.RangeFuncBound
import Derived.RangeFuncCalls
import Derived.RangeFuncLeaves
import Derived.Shelf.Abstract
import Derived.Shelf.RegionOpen
import Derived.OwnWalkIn
import Derived.TacticsInMore
import Derived.Lib.Hide
import Derived.Laws.AppendOwn
import Derived.Maps.AppendAt
import Derived.Laws.OwnMore
import Derived.Deep.RegionLaw
import Derived.Deep.QuietTactic
import Derived.BigQuiet
import Derived.IntWalk
import Derived.StillTailTactics
import Derived.Deep.RegionHeld3
import Derived.Deep.DeepCutAuto
import Derived.Test.YteebokhpoppgeaaJa
namespace Go.Proofs.Yteebokhpoppgeaa.nn
open Go.RowKit

/-- blocks of one's own lie from M on, and are there -/
def Wb (M : Nat) (O : Nat → Prop) (W : World) : Prop := ∀ b, O b → M ≤ b ∧ b < W.heap.size
/-- a step that turns one's own blocks alone (O, behind it O'), and blocks of which E holds -/
structure Mv (E : Nat → Prop) (O : Nat → Prop) (W : World) (O' : Nat → Prop) (W' : World) : Prop where
  os : W'.os = W.os
  tape : W'.tape = W.tape
  output : W'.output = W.output
  size : W.heap.size ≤ W'.heap.size
  more : ∀ b, O b → O' b
  new : ∀ b, O' b → O b ∨ (W.heap.size ≤ b ∧ b < W'.heap.size)
  kept : ∀ b, b < W.heap.size → ¬ O b → ¬ E b → W'.heap[b]? = W.heap[b]?
def No : Nat → Prop := fun _ => False
/-- what a round keeps -/
structure Kr (n₀ : Nat) (O : Nat → Prop) (W W' : World) : Prop where
  b : Below n₀ W W'
  o : ∀ b, O b → W'.heap[b]? = W.heap[b]?
theorem Kr.refl (n₀ : Nat) (O : Nat → Prop) (W : World) : Kr n₀ O W W := ⟨Below.refl _ _, fun _ _ => rfl⟩
theorem Kr.trans {n₀ : Nat} {O : Nat → Prop} {A B C : World} (h : Kr n₀ O A B) (k : Kr n₀ O B C) : Kr n₀ O A C := ⟨h.b.trans k.b, fun b hb => (k.o b hb).trans (h.o b hb)⟩
theorem Mv.trans {E O1 O2 O3 : Nat → Prop} {A B C : World} (h : Mv E O1 A O2 B) (k : Mv E O2 B O3 C) : Mv E O1 A O3 C where
  os := k.os.trans h.os
  tape := k.tape.trans h.tape
  output := k.output.trans h.output
  size := Nat.le_trans h.size k.size
  more := fun b hb => k.more b (h.more b hb)
  new := fun b hb => by
    rcases k.new b hb with h1 | h1
    · rcases h.new b h1 with h2 | h2
      · exact .inl h2
      · exact .inr ⟨h2.1, Nat.lt_of_lt_of_le h2.2 k.size⟩
    · exact .inr ⟨Nat.le_trans h.size h1.1, h1.2⟩
  kept := fun b hb hO hE => by
    have h2 : ¬ O2 b := fun h3 => by
      rcases h.new b h3 with h4 | h4
      · exact hO h4
      · omega
    exact (k.kept b (Nat.lt_of_lt_of_le hb h.size) h2 hE).trans (h.kept b hb hO hE)
theorem Mv.weak {E E' O O' : Nat → Prop} {W W' : World} (h : Mv E O W O' W') (hE : ∀ b, E b → E' b) : Mv E' O W O' W' :=
  ⟨h.os, h.tape, h.output, h.size, h.more, h.new, fun b hb hO hn => h.kept b hb hO fun he => hn (hE b he)⟩
theorem Mv.refl (E O : Nat → Prop) (W : World) : Mv E O W O W := ⟨rfl, rfl, rfl, Nat.le_refl _, fun _ h => h, fun _ h => .inl h, fun _ _ _ _ => rfl⟩
theorem Mv.drew (E O : Nat → Prop) (W : World) : Mv E O W O W.drew := ⟨rfl, rfl, rfl, Nat.le_refl _, fun _ h => h, fun _ h => .inl h, fun _ _ _ _ => rfl⟩
theorem Mv.alloc (E O : Nat → Prop) (W : World) (o : Obj) : Mv E O W (fun b => O b ∨ b = W.heap.size) (W.alloc o) :=
  ⟨rfl, rfl, rfl, by simp, fun _ h => .inl h, fun b h => h.elim .inl fun h => .inr (by subst h; simp), fun b hb _ _ => Below.heap_alloc _ _ _ hb⟩
theorem Mv.put {E O : Nat → Prop} (W : World) {l : Nat} (o : Obj) (hE : E l) : Mv E O W O (W.putObj l o) :=
  ⟨rfl, rfl, rfl, by simp, fun _ h => h, fun _ h => .inl h, fun b _ _ hb => World.putObj_heap_other (fun e => hb (e ▸ hE))⟩
/-- an append (or another step that turns one row) -/
theorem Mv.grown {E O : Nat → Prop} {W W' : World} {row : Option Nat} (hg : W.grownBy W' row) (hr : ∀ k, row = some k → O k) : Mv E O W (fun b => O b ∨ (W.heap.size ≤ b ∧ b < W'.heap.size)) W' :=
  ⟨hg.os, hg.tape, hg.output, hg.size, fun _ h => .inl h, fun _ h => h, fun b hb hO _ => hg.block b hb fun e => hO (hr b e.symm)⟩
theorem Mv.base {E O O' : Nat → Prop} {W W' : World} {M : Nat} (h : Mv E O W O' W') (hb : Wb M O W) (hM : M ≤ W.heap.size) : Wb M O' W' := fun b hO => by
  rcases h.new b hO with h1 | h1
  · have := hb b h1
    exact ⟨this.1, Nat.lt_of_lt_of_le this.2 h.size⟩
  · exact ⟨Nat.le_trans hM h1.1, h1.2⟩
theorem Wb.no (M : Nat) (W : World) : Wb M No W := fun _ h => h.elim
theorem Wb.keep {M : Nat} {O : Nat → Prop} {W W' : World} (h : Wb M O W) (hs : W.heap.size ≤ W'.heap.size) : Wb M O W' := fun b hb => ⟨(h b hb).1, Nat.lt_of_lt_of_le (h b hb).2 hs⟩

theorem RoundIn.any {m m' : Nat} {P : Program} {l : Nat} {f : FuncId} {tmps : Array Value} {assign body : Code} {w : World} {R : Ending → World → Prop}
    (h : RoundIn Fence.wide m P l f tmps assign body w R) : RoundIn Fence.wide m' P l f tmps assign body w R := ⟨h.1, fun c cs _ => h.2 c cs (room_wide _)⟩

/-- an iterator that tells xs, and writes blocks of its own alone -/
def Gives (P : Program) (g : Nat) (lb : Array Value) {α : Type} (Arg : α → (Nat → Prop) → World → Array Value → Prop) (xs : List α) (n₀ : Nat) (w : World) : Prop :=
  ∀ (l M : Nat) (J : List α → (Nat → Prop) → World → Prop) (Jx : List α → World → Prop) (W : World), Below w.heap.size w W → M = W.heap.size →
    (∀ pre O W1 O' W2, J pre O W1 → Wb M O W1 → Mv No O W1 O' W2 → J pre O' W2) →
    (∀ pre W1 O' W2, Jx pre W1 → Mv No No W1 O' W2 → Jx pre W2) →
    (∀ m pre x O W1 args, J pre O W1 → Wb M O W1 → Arg x O W1 args → (∃ q, xs = pre ++ x :: q) → YieldAt Fence.wide m P l args W1 fun e W2 =>
      (e = .returned (.bool true) ∧ J (pre ++ [x]) O W2 ∧ Kr n₀ O W1 W2) ∨ (e = .returned (.bool false) ∧ Jx (pre ++ [x]) W2)) →
    J [] No W →
    Calls P g (#[.func (.yield l) #[] #[]] ++ lb) W fun e W' => (∃ v, e = .returned v) ∧ ((∃ O', J xs O' W' ∧ Wb M O' W') ∨ (∃ pre, (∃ q, xs = pre ++ q) ∧ Jx pre W'))

/-- how a round's body may be left -/
def rfPost {α : Type} (n₀ D : Nat) (O : Nat → Prop) (I : List α → (Nat → Prop) → World → Prop) (Ix : Code → List α → World → Prop) (xs : List α) (W : World) : Exit → Act → World → Prop
  | .normal, _, W' => (Kr n₀ O W W' ∧ W'.heap[D]? = W.heap[D]? ∧ W'.heap[D + 1]? = W.heap[D + 1]?) ∧ I xs O W'
  | .ret, _, W' => (W'.heap[D]? = W.heap[D]? ∧ W'.heap[D + 1]? = W.heap[D + 1]?) ∧ Ix .ret xs W'
  | .exit id, _, W' => (W'.heap[D]? = W.heap[D]? ∧ W'.heap[D + 1]? = W.heap[D + 1]?) ∧ Ix (.exit id) xs W'
  | .goto _, _, _ => False
  | .panic _, _, _ => False
  | .outgrown, _, _ => False

def EE (D : Nat) : Nat → Prop := fun b => b = D ∨ b = D + 1

set_option maxHeartbeats 1000000 in
theorem rf_law {P : Program} {n : Nat} {g : Operand} {ps : Array Tmp} {assign body : Code} {Q : Exit → Act → World → Prop} {a : Act} {w : World} {gf : Nat} {lb : Array Value}
    (hg : a.eval g = .func (.func gf) #[] lb) (eg : ∀ args w, (callFunc gf args).run P w = .ok (.enter gf args) w)
    {α : Type} {Arg : α → (Nat → Prop) → World → Array Value → Prop} {xs : List α} {n₀ : Nat} (hseq : Gives P gf lb Arg xs n₀ w) (hn₀ : n₀ ≤ w.heap.size)
    (hps : ∀ x O W args, Arg x O W args → args.size = ps.size)
    (I : List α → (Nat → Prop) → World → Prop) (Ix : Code → List α → World → Prop)
    (hI : ∀ pre O W O' W', I pre O W → Wb (w.heap.size + 2) O W → Mv (EE w.heap.size) O W O' W' → I pre O' W')
    (hIx : ∀ c pre W O' W', Ix c pre W → Mv (EE w.heap.size) No W O' W' → Ix c pre W')
    (h0 : I [] No w) (Ax : α → (Nat → Prop) → Act → World → Prop)
    (hAx : ∀ x O a' W o, Ax x O a' W → Wb (w.heap.size + 2) O W → Ax x O a' (W.putObj (w.heap.size + 1) o))
    (hassign : ∀ l pre x O W args (K : Act → World → Prop), I pre O W → Wb (w.heap.size + 2) O W → w.heap.size + 2 ≤ W.heap.size → Arg x O W args →
      (∀ a' W', Kr n₀ O W W' → W'.heap[w.heap.size]? = W.heap[w.heap.size]? → W'.heap[w.heap.size + 1]? = W.heap[w.heap.size + 1]? → I pre O W' → Ax x O a' W' → K a' W') →
      assign.wpIn (Fence.wide.inRound l) 3 P (Exit.then K (fun _ _ _ => False)) { tmps := (ps.zip args).foldl (fun t (p, v) => t.setIfInBounds p v) a.tmps, defers := [] } W)
    (hbody : ∀ l pre x O a' W, I pre O W → Wb (w.heap.size + 2) O W → w.heap.size + 2 ≤ W.heap.size → Ax x O a' W → (∃ q, xs = pre ++ x :: q) → body.wpIn (Fence.wide.inRound l) 3 P (rfPost n₀ w.heap.size O I Ix (pre ++ [x]) W) a' W)
    (hdone : ∀ O W, I xs O W → W.heap[w.heap.size]? = some (.deferred (some [])) → Q .normal { a with defers := { target := .collected w.heap.size, args := #[] } :: a.defers } W)
    (hstop : ∀ c pre W, (∃ q, xs = pre ++ q) → Ix c pre W → W.heap[w.heap.size]? = some (.deferred (some [])) → c.wpIn Fence.wide n P Q { a with defers := { target := .collected w.heap.size, args := #[] } :: a.defers } W) :
    (Code.rangeFunc g ps assign body).wpIn Fence.wide n P Q a w := by
  refine wpIn_rangeFunc fun fn _ => ?_
  obtain ⟨D, hD⟩ : ∃ D, w.heap.size = D := ⟨_, rfl⟩
  obtain ⟨rec, hrec⟩ : ∃ rec : LoopState → Option Code → Loop, rec = fun st pe => { state := st, pending := pe, fn := fn, tmps := a.tmps, params := ps, assign := assign, body := body, defers := D } := ⟨_, rfl⟩
  have hrp : ∀ st pe, (rec st pe).params = ps := fun _ _ => by rw [hrec]
  have hrs : ∀ st pe, (rec st pe).state = st := fun _ _ => by rw [hrec]
  have hrr : ∀ st pe st' pe', ({ rec st pe with state := st', pending := pe' } : Loop) = rec st' pe' := fun _ _ _ _ => by rw [hrec]
  have hrb : ∀ st pe st', ({ rec st pe with state := st' } : Loop) = rec st' pe := fun _ _ _ => by rw [hrec]
  obtain ⟨W1, hW1⟩ : ∃ W1, (w.alloc (.deferred (some []))).alloc (.loop (rec .ready none)) = W1 := ⟨_, rfl⟩
  have hb1 : Below w.heap.size w W1 := by rw [← hW1]; exact ((Below.refl _ w).alloc (Nat.le_refl _) _).alloc (by simp) _
  have hz1 : W1.heap.size = D + 2 := by rw [← hW1, ← hD]; simp
  have hL1 : W1.heap[D + 1]? = some (.loop (rec .ready none)) := by
    have := World.alloc_heap_new (w.alloc (.deferred (some []))) (.loop (rec .ready none))
    rwa [World.size_alloc, hD, hW1] at this
  have hK1 : W1.heap[D]? = some (.deferred (some [])) := by
    rw [← hW1, ← hD]
    exact (Below.heap_alloc _ _ _ (by simp)).trans (World.alloc_heap_new w _)
  have hent : (Instr.enterLoop fn a.tmps ps assign body Fence.wide.round).run P w = .ok (D + 1, [{ target := .collected D, args := #[] }]) W1 := by
    rw [← hW1, hrec, ← hD]
    exact run_enterLoop_outer fn a.tmps ps assign body
  rw [hD] at hI hIx hAx hassign hbody hdone hstop
  refine ⟨D + 1, _, W1, { target := .fn (.func gf) lb, args := #[.func (.yield (D + 1)) #[] #[]] }, W1, gf, #[.func (.yield (D + 1)) #[] #[]] ++ lb, W1, hent, ?_, fun _ _ => trivial, ?_, (fun h => by cases h), callsIn_wide.2 ?_⟩
  · simp only [resolve, hg]
    simp [go_sem]
  · simp [invoke, go_sem, eg]
  -- the iterator, at the caller's word and the two blocks of the loop
  refine (hseq (D + 1) (D + 2) (fun pre O W => I pre O W ∧ W.heap[D + 1]? = some (.loop (rec .ready none)) ∧ W.heap[D]? = some (.deferred (some [])))
    (fun pre W => ∃ c, Ix c pre W ∧ W.heap[D + 1]? = some (.loop (rec .done (some c))) ∧ W.heap[D]? = some (.deferred (some []))) W1 hb1 hz1.symm ?_ ?_ ?_ ?_).mono ?_
  · rintro pre O A O' B ⟨hi, hl, hk⟩ hbs hm
    have e1 := hm.kept (D + 1) (Array.getElem?_eq_some_iff.1 hl).1 (fun h => by have := (hbs _ h).1; omega) (fun h => h)
    have e2 := hm.kept D (Array.getElem?_eq_some_iff.1 hk).1 (fun h => by have := (hbs _ h).1; omega) (fun h => h)
    exact ⟨hI _ _ _ _ _ hi hbs (hm.weak fun _ h => h.elim), e1.trans hl, e2.trans hk⟩
  · rintro pre A O' B ⟨c, hc, hl, hk⟩ hm
    have e1 := hm.kept (D + 1) (Array.getElem?_eq_some_iff.1 hl).1 (fun h => h) (fun h => h)
    have e2 := hm.kept D (Array.getElem?_eq_some_iff.1 hk).1 (fun h => h) (fun h => h)
    exact ⟨c, hIx _ _ _ _ _ hc (hm.weak fun _ h => h.elim), e1.trans hl, e2.trans hk⟩
  · rintro m pre x O W args ⟨hi, hl, hk⟩ hbs harg hx
    have hlt := (Array.getElem?_eq_some_iff.1 hl).1
    have hy := run_yield (P := P) (args := args) hl (by rw [hrp]; exact hps _ _ _ _ harg)
    refine ⟨_, _, _, _, hy, RoundIn.any (m := 3) (roundIn_of_wpIn trivial ?_)⟩
    rw [show (rec .ready none).tmps = a.tmps by rw [hrec], show (rec .ready none).params = ps by rw [hrec], show (rec .ready none).assign = assign by rw [hrec], show (rec .ready none).body = body by rw [hrec]]
    refine hassign (D + 1) pre x O W args _ hi hbs (by omega) harg fun a' W' hk' hd' hl' hi' hax => ?_
    rw [hl] at hl'
    rw [hk] at hd'
    refine ⟨_, run_beginRound hl' (hrs _ _), ?_⟩
    rw [hrb]
    obtain ⟨V, hV⟩ : ∃ V, W'.putObj (D + 1) (.loop (rec .busy none)) = V := ⟨_, rfl⟩
    have hlt' := (Array.getElem?_eq_some_iff.1 hl').1
    have hVl : V.heap[D + 1]? = some (.loop (rec .busy none)) := by rw [← hV]; exact World.putObj_heap_same hlt'
    have hVk : V.heap[D]? = some (.deferred (some [])) := by rw [← hV]; exact (World.putObj_heap_other (by omega)).trans hd'
    have hbs' : Wb (D + 2) O W' := hbs.keep hk'.b.size
    have hmv : ∀ (X : World) (o : Obj), Mv (EE D) O X O (X.putObj (D + 1) o) := fun X o => Mv.put X o (.inr rfl)
    have hkr : ∀ (X : World) (o : Obj), Wb (D + 2) O X → n₀ ≤ X.heap.size → Kr n₀ O X (X.putObj (D + 1) o) := fun X o hX hn =>
      ⟨(Below.refl n₀ X).grown (grownBy_putObj' X (D + 1) o) hn (fun k e => by cases e; omega), fun b hb => World.putObj_heap_other (by have := (hX b hb).1; omega)⟩
    have hVi : I pre O V := by rw [← hV]; exact hI _ _ _ _ _ hi' hbs' (hmv _ _)
    have hVa : Ax x O a' V := by rw [← hV]; exact hAx _ _ _ _ _ hax hbs'
    have hVb : Wb (D + 2) O V := by rw [← hV]; exact hbs'.keep (by simp)
    have hWV : Kr n₀ O W V := by rw [← hV]; exact hk'.trans (hkr _ _ hbs' (by omega))
    rw [hV]
    refine wpIn_mono (hbody (D + 1) pre x O a' V hVi hVb (by rw [← hV]; simp; omega) hVa hx) ?_
    have fin : ∀ (jump : Option Code) (X : World), X.heap[D]? = V.heap[D]? → X.heap[D + 1]? = V.heap[D + 1]? →
        (Instr.endRound (D + 1) jump).run P X = .ok (.bool jump.isNone) (X.putObj (D + 1) (.loop (rec (if jump.isNone then .ready else .done) jump))) ∧
        (X.putObj (D + 1) (.loop (rec (if jump.isNone then .ready else .done) jump))).heap[D + 1]? = some (.loop (rec (if jump.isNone then .ready else .done) jump)) ∧
        (X.putObj (D + 1) (.loop (rec (if jump.isNone then .ready else .done) jump))).heap[D]? = some (.deferred (some [])) := fun jump X e1 e2 => by
      have hl3 := e2.trans hVl
      have h := run_endRound (P := P) jump hl3
      rw [hrr] at h
      exact ⟨h, World.putObj_heap_same (Array.getElem?_eq_some_iff.1 hl3).1, (World.putObj_heap_other (by omega)).trans (e1.trans hVk)⟩
    rintro e a3 X hp
    cases e with
    | normal =>
      obtain ⟨⟨k3, d3, l3⟩, i3⟩ := hp
      obtain ⟨r, hl4, hk4⟩ := fin none X d3 l3
      have hXb : Wb (D + 2) O X := hVb.keep k3.b.size
      exact ⟨_, _, r, .inl ⟨rfl, ⟨hI _ _ _ _ _ i3 hXb (hmv _ _), hl4, hk4⟩, (hWV.trans k3).trans (hkr _ _ hXb (by have := (Array.getElem?_eq_some_iff.1 (l3.trans hVl)).1; omega))⟩⟩
    | ret =>
      obtain ⟨⟨d3, l3⟩, i3⟩ := hp
      obtain ⟨r, hl4, hk4⟩ := fin (some .ret) X d3 l3
      exact ⟨_, _, r, .inr ⟨rfl, .ret, hIx _ _ _ _ _ i3 (Mv.put _ _ (.inr rfl)), hl4, hk4⟩⟩
    | exit id =>
      obtain ⟨⟨d3, l3⟩, i3⟩ := hp
      obtain ⟨r, hl4, hk4⟩ := fin (some (.exit id)) X d3 l3
      exact ⟨_, _, r, .inr ⟨rfl, .exit id, hIx _ _ _ _ _ i3 (Mv.put _ _ (.inr rfl)), hl4, hk4⟩⟩
    | goto t => exact hp.elim
    | panic ch => exact hp.elim
    | outgrown => exact hp.elim
  · exact ⟨hI _ _ _ _ _ h0 (Wb.no _ _) ⟨hb1.os, hb1.tape, hb1.output, hb1.size, fun _ h => h, fun _ h => .inl h, fun b hb _ _ => hb1.block b hb⟩, hL1, hK1⟩
  · rintro e W2 ⟨⟨v, rfl⟩, (⟨O, ⟨hi, hl, hk⟩, hbO⟩ | ⟨pre, hq, c, hi, hl, hk⟩)⟩
    · have h := run_endLoop (P := P) hl (by rw [hrs]; simp)
      rw [show (rec .ready none).pending = none by rw [hrec]] at h
      refine ⟨none, _, h, hdone O _ (hI _ _ _ _ _ hi hbO (Mv.put _ _ (.inr rfl))) ((World.putObj_heap_other (by omega)).trans hk)⟩
    · have h := run_endLoop (P := P) hl (by rw [hrs]; simp)
      rw [show (rec .done (some c)).pending = some c by rw [hrec]] at h
      exact ⟨some c, _, h, hstop c pre _ hq (hIx _ _ _ _ _ hi (Mv.put _ _ (.inr rfl))) ((World.putObj_heap_other (by omega)).trans hk)⟩
end Go.Proofs.Yteebokhpoppgeaa.nn
namespace Go.Proofs.Yteebokhpoppgeaa.nn
open Go.RowKit

/-- a path lies in a new block (from base on) that is not own -/
def RowAt (base : Nat) (w : World) (u : Value) (own : Option Nat) (p : List Nat) : Prop := ∃ B O c : Nat, u = .slice (some ⟨B, O, none⟩) p.length c ∧ p.length ≤ c ∧ B < w.heap.size ∧ base ≤ B ∧ some B ≠ own ∧ ∀ j (h : j < p.length), w.cell? ⟨B, O + j, none⟩ = some (.int .i64 (p[j] : Int))
/-- paths that are gathered in a slice -/
def Coll (base : Nat) (w : World) (v : Value) (P : List (List Nat)) : Prop := ∃ xs : List Value, w.ownsRow base 63 1 v P.length xs ∧ v ≠ .slice none 0 0 ∧ xs.length = P.length ∧ ∀ k (h : k < P.length), ∃ u, xs[k]? = some u ∧ RowAt base w u v.ownBlock P[k]
/-- paths that are read -/
def PR (base : Nat) (w : World) (own : Option Nat) (v : Value) (P : List (List Nat)) : Prop := ∃ b off c : Nat, v = .slice (some ⟨b, off, none⟩) P.length c ∧ P.length ≤ c ∧ b < w.heap.size ∧ base ≤ b ∧ some b ≠ own ∧ ∀ k (h : k < P.length), ∃ u, w.cell? ⟨b, off + k, none⟩ = some u ∧ RowAt base w u own P[k]
section
variable {w w' : World} {u v v' : Value} {own own' : Option Nat} {p : List Nat} {P : List (List Nat)} {base base' B : Nat}
theorem RowAt.keep (h : RowAt base w u own p) (hB : Below w.heap.size w w') : RowAt base w' u own p := by
  obtain ⟨b, o, c, h1, h2, h3, h0, h4, h5⟩ := h
  exact ⟨b, o, c, h1, h2, Nat.lt_of_lt_of_le h3 hB.size, h0, h4, fun j hj => (hB.cell (p := ⟨b, o + j, none⟩) h3).trans (h5 j hj)⟩
/-- block own was written, or a new one was made in its place -/
theorem RowAt.grown (h : RowAt base w u own p) (hg : w.grownBy w' own) (ho : own' = own ∨ own' = some w.heap.size) : RowAt base w' u own' p := by
  obtain ⟨b, o, c, h1, h2, h3, h0, h4, h5⟩ := h
  refine ⟨b, o, c, h1, h2, Nat.lt_of_lt_of_le h3 hg.size, h0, ?_, fun j hj => ?_⟩
  · rcases ho with rfl | rfl
    · exact h4
    · intro h; injection h with h; omega
  · have hb := hg.block b h3 h4
    rw [← h5 j hj]
    simp only [World.cell?, hb]
/-- new blocks aren't an elder one -/
theorem RowAt.other (h : RowAt base w u own p) {g : Nat} (hg : g < base) : RowAt base w u (some g) p := by
  obtain ⟨b, o, c, h1, h2, h3, h0, _, h5⟩ := h
  exact ⟨b, o, c, h1, h2, h3, h0, by intro h; injection h with h; omega, h5⟩
theorem PR.keep (h : PR base w own v P) (hB : Below w.heap.size w w') : PR base w' own v P := by
  obtain ⟨b, o, c, h1, h2, h3, h0, hn, h4⟩ := h
  refine ⟨b, o, c, h1, h2, Nat.lt_of_lt_of_le h3 hB.size, h0, hn, fun k hk => ?_⟩
  obtain ⟨u, hu, hr⟩ := h4 k hk
  exact ⟨u, (hB.cell (p := ⟨b, o + k, none⟩) h3).trans hu, hr.keep hB⟩
theorem PR.grown (h : PR base w own v P) (hg : w.grownBy w' own) (ho : own' = own ∨ own' = some w.heap.size) : PR base w' own' v P := by
  obtain ⟨b, o, c, h1, h2, h3, h0, hn, h4⟩ := h
  refine ⟨b, o, c, h1, h2, Nat.lt_of_lt_of_le h3 hg.size, h0, ?_, fun k hk => ?_⟩
  · rcases ho with rfl | rfl
    · exact hn
    · intro h; injection h with h; omega
  · obtain ⟨u, hu, hr⟩ := h4 k hk
    refine ⟨u, ?_, hr.grown hg ho⟩
    have hb := hg.block b h3 hn
    rw [← hu]
    simp only [World.cell?, hb]
theorem PR.other (h : PR base w own v P) {g : Nat} (hg : g < base) : PR base w (some g) v P := by
  obtain ⟨b, o, c, h1, h2, h3, h0, _, h4⟩ := h
  refine ⟨b, o, c, h1, h2, h3, h0, by intro h; injection h with h; omega, fun k hk => ?_⟩
  obtain ⟨u, hu, hr⟩ := h4 k hk
  exact ⟨u, hu, hr.other hg⟩
theorem Coll.keep (h : Coll base w v P) (hB : Below w.heap.size w w') : Coll base w' v P := by
  obtain ⟨xs, h1, h2, h3, h4⟩ := h
  refine ⟨xs, ⟨h1.1, ?_⟩, h2, h3, fun k hk => ?_⟩
  · rcases h1.2 with h5 | ⟨g, cap, cur, hv, hb, hg, h6⟩
    · exact .inl h5
    · exact .inr ⟨g, cap, cur, hv, hb, (hB.block g (Array.getElem?_eq_some_iff.1 hg).1).trans hg, h6⟩
  · obtain ⟨u, hu, hr⟩ := h4 k hk
    exact ⟨u, hu, hr.keep hB⟩
/-- one path more -/
theorem Coll.snoc {xs : List Value} (h3 : xs.length = P.length) (h4 : ∀ k (h : k < P.length), ∃ u, xs[k]? = some u ∧ RowAt base w u v.ownBlock P[k]) (hr : RowAt base w u v.ownBlock p)
    (ho : w'.ownsRow base 63 1 v' (P.length + 1) (xs ++ [u])) (hg : w.grownBy w' v.ownBlock) (hn : v' ≠ .slice none 0 0) (hb : v'.ownBlock = v.ownBlock ∨ v'.ownBlock = some w.heap.size) : Coll base w' v' (P ++ [p]) := by
  refine ⟨xs ++ [u], by rw [List.length_append]; exact ho, hn, by simp [h3], fun k hk => ?_⟩
  rw [List.length_append, List.length_singleton] at hk
  rcases Nat.lt_or_ge k P.length with hk' | hk'
  · obtain ⟨x, hx, hxr⟩ := h4 k hk'
    refine ⟨x, ?_, ?_⟩
    · rw [List.getElem?_append_left (by omega)]; exact hx
    · rw [List.getElem_append_left hk']; exact hxr.grown hg hb
  · obtain rfl : k = P.length := by omega
    refine ⟨u, ?_, ?_⟩
    · rw [List.getElem?_append_right (by omega), h3]; simp
    · rw [List.getElem_append_right (Nat.le_refl _)]
      simp only [Nat.sub_self, List.getElem_singleton]
      exact hr.grown hg hb
/-- the first ones alone -/
theorem PR.take {b off c m k : Nat} (h : PR base w own (.slice (some ⟨b, off, none⟩) m c) P) (hk : k = min P.length k) : PR base w own (.slice (some ⟨b, off, none⟩) k c) (P.take k) := by
  obtain ⟨b', o', c', e1, h2, h3, h0, hn, h4⟩ := h
  injection e1 with e1 e2 e3
  injection e1 with e1
  injection e1 with e1 e4 e5
  subst e1 e4 e3
  refine ⟨b, off, c, by rw [List.length_take]; congr 1; omega, by rw [List.length_take]; omega, h3, h0, hn, fun j hj => ?_⟩
  rw [List.length_take] at hj
  obtain ⟨u, hu, hr⟩ := h4 j (by omega)
  exact ⟨u, hu, by rw [List.getElem_take]; exact hr⟩
theorem PR.form (h : PR base w own v P) : ∃ b off c : Nat, v = .slice (some ⟨b, off, none⟩) P.length c ∧ P.length ≤ c := by
  obtain ⟨b, o, c, e1, e2, _⟩ := h
  exact ⟨b, o, c, e1, e2⟩
end
end Go.Proofs.Yteebokhpoppgeaa.nn
namespace Go.Proofs.Yteebokhpoppgeaa.nn
open Go.RowKit

mutual
/-- all values and their paths, each ahead of those within it -/
def rws : List Nat → VT → List (List Nat × VT) | zs, .mk k g n s l => (zs, .mk k g n s l) :: rwsL zs 0 l
def rwsL : List Nat → Nat → List VT → List (List Nat × VT) | _, _, [] => [] | zs, i, t :: r => rws (zs ++ [i]) t ++ rwsL zs (i + 1) r
end
theorem rws_mk (zs : List Nat) (t : VT) : rws zs t = (zs, t) :: rwsL zs 0 t.l := by cases t; rfl
theorem rwsL_app (zs : List Nat) (a b : List VT) (i : Nat) : rwsL zs i (a ++ b) = rwsL zs i a ++ rwsL zs (i + a.length) b := by
  induction a generalizing i with
  | nil => simp [rwsL]
  | cons t r ih => simp only [List.cons_append, rwsL, ih, List.length_cons, List.append_assoc, Nat.add_assoc, Nat.add_comm 1]
theorem rwsL_take (zs : List Nat) {l : List VT} {i : Nat} (h : i < l.length) : rwsL zs 0 (l.take (i + 1)) = rwsL zs 0 (l.take i) ++ rws (zs ++ [i]) l[i] := by
  rw [List.take_succ_eq_append_getElem h, rwsL_app]
  simp [rwsL, Nat.min_eq_left (Nat.le_of_lt h)]
theorem rwsL_cut (zs : List Nat) {l : List VT} {i : Nat} (h : i < l.length) : rwsL zs 0 l = rwsL zs 0 (l.take i) ++ rws (zs ++ [i]) l[i] ++ rwsL zs (i + 1) (l.drop (i + 1)) := by
  rw [← rwsL_take zs h]
  conv => lhs; rw [← List.take_append_drop (i + 1) l]
  rw [rwsL_app, List.length_take, Nat.zero_add, Nat.min_eq_left (by omega)]
mutual
theorem rws_len : ∀ (zs : List Nat) (t : VT), (rws zs t).length = cnt t
  | zs, .mk _ _ _ _ l => by have := rwsL_len zs 0 l; simp only [rws, cnt, List.length_cons]; omega
theorem rwsL_len : ∀ (zs : List Nat) (i : Nat) (l : List VT), (rwsL zs i l).length = cntL l
  | _, _, [] => rfl
  | zs, i, t :: r => by have h1 := rws_len (zs ++ [i]) t; have h2 := rwsL_len zs (i + 1) r; simp only [rwsL, cntL, List.length_append]; omega
end
/-- places as values -/
def ivs (zs : List Nat) : List Value := zs.map fun (j : Nat) => Value.int .i64 (j : Int)
theorem ivs_snoc (zs : List Nat) (i : Nat) : ivs (zs ++ [i]) = ivs zs ++ [.int .i64 (i : Int)] := by simp [ivs]
theorem ivs_len (zs : List Nat) : (ivs zs).length = zs.length := by simp [ivs]
/-- a path lies in memory, and may be appended to -/
def Pa (w : World) (v : Value) (zs : List Nat) : Prop := w.ownsRow 0 3 1 v zs.length (ivs zs)
theorem Pa.nil_ (w : World) : Pa w (.slice none 0 0) [] := World.ownsRow_nil _ _ _ _
theorem Pa.low {w : World} {g n m c : Nat} {xs ys : List Value} (h : w.ownsRow 0 3 1 (.slice (some ⟨g, 0, none⟩) m c) m ys) (hn : n ≤ m) (hx : xs = ys.take n) : w.ownsRow 0 3 1 (.slice (some ⟨g, 0, none⟩) n c) n xs := by
  have hl := h.1
  refine ⟨by rw [hx, List.length_take]; omega, ?_⟩
  rcases h.2 with ⟨h5, _⟩ | ⟨g', cap, cur, e, hb, hg, hc, hm, hs, ht⟩
  · cases h5
  · injection e with e1 e2 e3
    injection e1 with e1
    injection e1 with e1
    subst e1 e3
    refine .inr ⟨g, c, cur, rfl, hb, hg, by omega, hm, hs, ?_⟩
    rw [hx, ← ht, List.take_take, Nat.mul_one, Nat.mul_one, Nat.min_eq_left hn]
theorem Pa.same {w w' : World} {v : Value} {zs : List Nat} (h : Pa w v zs) (hb : ∀ b, v.ownBlock = some b → w'.heap[b]? = w.heap[b]?) : Pa w' v zs := by
  refine ⟨h.1, ?_⟩
  rcases h.2 with h5 | ⟨g, cap, cur, rfl, hb', hg, h6⟩
  · exact .inl h5
  · exact .inr ⟨g, cap, cur, rfl, hb', (hb g rfl).trans hg, h6⟩
/-- one place more: in its block, or in a new one -/
structure Pu (w : World) (v : Value) (zs : List Nat) (i g cap : Nat) (w' : World) : Prop where
  own : Pa w' (.slice (some ⟨g, 0, none⟩) (zs.length + 1) cap) (zs ++ [i])
  grow : w.grownBy w' v.ownBlock
  back : v = .slice (some ⟨g, 0, none⟩) zs.length cap ∨ (g = w.heap.size ∧ w.grownBy w' none)
theorem info_int3 : (Try.prog.info? 3).map (fun i => (i.zero, i.size, i.bytes)) = some (some (.int .i64 0), 1, 8) := by kernel_rfl
theorem run_path (w : World) (ty : TypeId) (v : Value) (zs : List Nat) (hown : Pa w v zs) (b c i : Nat) (hc : w.cell? ⟨b, 0, none⟩ = some (.int .i64 (i : Int))) (hz : zs.length + 1 ≤ 1099511627776) :
    ∃ g cap w', (Builtin.append_ #[63, 63] ty #[v, .slice (some ⟨b, 0, none⟩) 1 c]).run Try.prog w = .ok (.slice (some ⟨g, 0, none⟩) (zs.length + 1) cap) w' ∧ Pu w v zs i g cap w' := by
  obtain ⟨i0, hi, hz0, hz1, hz2⟩ : ∃ i0, Try.prog.info? 3 = some i0 ∧ i0.zero = some (.int .i64 0) ∧ i0.size = 1 ∧ i0.bytes = 8 := info_parts info_int3
  have hnews : ∀ j u, [Value.int .i64 (i : Int)][j]? = some u → w.cell? ((⟨b, 0, none⟩ : Addr).add j) = some u := by
    intro j u hu
    cases j with
    | zero =>
      have : u = .int .i64 (i : Int) := by simpa using hu.symm
      subst this
      simpa [Addr.add] using hc
    | succ j => simp at hu
  obtain ⟨v', w', hr, ho, hg, _⟩ := run_append_own (P := Try.prog) w 0 63 ty 3 i0 (.int .i64 0) 1 8 Try.underlying63 hi hz0 hz1 hz2 rfl (by decide) v zs.length (ivs zs) hown ⟨b, 0, none⟩ 1 c [.int .i64 (i : Int)] rfl hnews
    (fun u hu => by simp at hu; subst hu; rfl) (by unfold maxLen; omega) (by omega) (Nat.zero_le _)
  have hsn : ivs (zs ++ [i]) = ivs zs ++ [.int .i64 (i : Int)] := ivs_snoc zs i
  have hln : (zs ++ [i]).length = zs.length + 1 := by simp
  rcases hown.2 with ⟨rfl, h0⟩ | ⟨g, cap, cur, rfl, _, hgg, hcc, _, hcs, htk⟩
  · have h2 := run_append_nil (P := Try.prog) w 63 ty 3 i0 (.int .i64 0) Try.underlying63 hi hz0 ⟨b, 0, none⟩ 1 c [.int .i64 (i : Int)] (by rw [hz1]; rfl) hnews (by omega) (by omega) (by rw [hz2]; omega)
    rw [hr] at h2
    injection h2 with h2 h3
    subst h2 h3
    rw [h0] at ho ⊢
    refine ⟨_, _, _, hr, by unfold Pa; rw [hln, h0, hsn]; exact ho, hg, .inr ⟨rfl, hg⟩⟩
  · by_cases hroom : zs.length + 1 ≤ cap
    · have h2 := run_append_room (P := Try.prog) w 63 ty 3 i0 Try.underlying63 hi g zs.length cap cur hgg ⟨b, 0, none⟩ 1 c [.int .i64 (i : Int)] (by rw [hz1]; rfl) hnews (fun u hu => by simp at hu; subst hu; rfl) hroom (by rw [hz1]; simp; omega)
      rw [hr] at h2
      injection h2 with h2 h3
      subst h2
      refine ⟨_, _, _, hr, by unfold Pa; rw [hln, hsn]; exact ho, hg, .inl rfl⟩
    · have holds := hown.cells (g := g) rfl
      have h2 := run_append_grow (P := Try.prog) w 63 ty 3 i0 (.int .i64 0) Try.underlying63 hi hz0 ⟨g, 0, none⟩ zs.length cap (ivs zs) (by rw [hz1, ivs_len]; omega) holds ⟨b, 0, none⟩ 1 c [.int .i64 (i : Int)] (by rw [hz1]; rfl) hnews (by omega) (by omega) (growslice_fits (by omega) (by rw [hz2]; omega))
      rw [hr] at h2
      injection h2 with h2 h3
      subst h2 h3
      exact ⟨_, _, _, hr, by unfold Pa; rw [hln, hsn]; exact ho, hg, .inr ⟨rfl, ⟨rfl, rfl, rfl, by simp, fun k hk _ => Below.heap_alloc w.drew _ k hk⟩⟩⟩
theorem step_path {ops : Array Oper} {o : Oper} {a : Act} {w : World} {K : Act → World → Prop} {Q : Exit → Act → World → Prop} {E : Prop} (hgd : o.guard = none) (s x : Operand)
    (ho : o.op = .call { callee := .builtin .append, args := #[s, x], argTypes := #[63, 63] })
    (v : Value) (zs : List Nat) (hs : a.eval s = v) (hown : Pa w v zs) (b c i : Nat) (hx : a.eval x = .slice (some ⟨b, 0, none⟩) 1 c) (hc : w.cell? ⟨b, 0, none⟩ = some (.int .i64 (i : Int))) (hz : zs.length + 1 ≤ 1099511627776)
    (h : ∀ g cap w', Pu w v zs i g cap w' → K (a.put o.dst (.slice (some ⟨g, 0, none⟩) (zs.length + 1) cap)) w') :
    if Region.wanted o (yielded ops a.tmps) = true then Oper.wp Try.prog o a w K Q else E := by
  have hw : Region.wanted o (yielded ops a.tmps) = true := by simp [Region.wanted, hgd]
  rw [if_pos hw]
  obtain ⟨g, cap, w', hr, hp⟩ := run_path w o.type v zs hown b c i hc hz
  unfold Oper.wp execOp
  simp only [ho, resolve, invoke, builtin, Sem.run_bind, Sem.run_pure, Result.andThen_ok, List.map_toArray, List.map_cons, List.map_nil, hs, hx, hr]
  exact h _ _ _ hp
end Go.Proofs.Yteebokhpoppgeaa.nn
namespace Go.Proofs.Yteebokhpoppgeaa.nn
open Go.RowKit

/-- what a round is told -/
def PArg (w0 : World) (x : List Nat × VT) (O : Nat → Prop) (W : World) (args : Array Value) : Prop := ∃ v C, args = #[v, vv x.2 C] ∧ Pa W v x.1 ∧ (∀ b, v.ownBlock = some b → O b) ∧ Lst w0 C x.2.l
/-- what a call keeps: one's own blocks, but for the path's -/
structure Gk (n₀ : Nat) (own : Option Nat) (O : Nat → Prop) (W : World) (O' : Nat → Prop) (W' : World) : Prop where
  more : ∀ b, O b → O' b
  new : ∀ b, O' b → O b ∨ (W.heap.size ≤ b ∧ b < W'.heap.size)
  b : Below n₀ W W'
  same : ∀ b, O b → some b ≠ own → W'.heap[b]? = W.heap[b]?
/-- what is so between two children -/
structure Li (w0 : World) (M : Nat) (J : List (List Nat × VT) → (Nat → Prop) → World → Prop) (own : Option Nat) (O1 : Nat → Prop) (W1 : World) (v : Value) (zs : List Nat) (pre : List (List Nat × VT)) (W : World) : Prop where
  e : ∃ O, J pre O W ∧ Wb M O W ∧ Gk w0.heap.size own O1 W1 O W ∧ Pa W v zs
section
variable {w0 : World} {l M : Nat} {J : List (List Nat × VT) → (Nat → Prop) → World → Prop} {Jx : List (List Nat × VT) → World → Prop} {xs : List (List Nat × VT)}
/-- what goOver answers -/
def GoAns (w0 : World) (M : Nat) (J : List (List Nat × VT) → (Nat → Prop) → World → Prop) (Jx : List (List Nat × VT) → World → Prop) (t : VT) (zs : List Nat) (v : Value) (pre : List (List Nat × VT)) (O : Nat → Prop) (W : World) (e : Ending) (W' : World) : Prop :=
  ∃ r : Bool, e = .returned (.bool r) ∧ (r = true → Li w0 M J v.ownBlock O W v zs (pre ++ rws zs t) W') ∧ (r = false → ∃ p, (∃ q, rws zs t = p ++ q) ∧ Jx (pre ++ p) W')
theorem mv_below {O : Nat → Prop} {W W' : World} (h : Below W.heap.size W W') : Mv No O W (fun b => O b ∨ (W.heap.size ≤ b ∧ b < W'.heap.size)) W' :=
  ⟨h.os, h.tape, h.output, h.size, fun _ h => .inl h, fun _ h => h, fun b hb _ _ => h.block b hb⟩
/-- the child, entered -/
theorem child_in (hM : w0.heap.size ≤ M)
    (hJ : ∀ pre O W1 O' W2, J pre O W1 → Wb M O W1 → Mv No O W1 O' W2 → J pre O' W2)
    {t : VT} {zs : List Nat} {v : Value} {i g cap : Nat} {pre pre' : List (List Nat × VT)} {O1 : Nat → Prop} {W1 wr W5 w6 : World}
    (hLi : Li w0 M J v.ownBlock O1 W1 v zs pre' wr) (_ : Wb M O1 W1) (hM1 : M ≤ W1.heap.size) (hv : ∀ b, v.ownBlock = some b → O1 b) (h5 : Below wr.heap.size wr W5) (hp : Pu W5 v zs i g cap w6)
    (hi : t.l.length > i) (hpre : pre' = pre ++ (zs, t) :: rwsL zs 0 (t.l.take i)) :
    ∃ O6, J pre' O6 w6 ∧ Wb M O6 w6 ∧ M ≤ w6.heap.size ∧ Below w0.heap.size W1 w6 ∧ (∀ b, (Value.slice (some ⟨g, 0, none⟩) (zs.length + 1) cap).ownBlock = some b → O6 b) ∧
      (∀ e W7, GoAns w0 M J Jx t.l[i] (zs ++ [i]) (.slice (some ⟨g, 0, none⟩) (zs.length + 1) cap) pre' O6 w6 e W7 →
        ∃ r : Bool, e = .returned (.bool r) ∧ (r = true → Li w0 M J v.ownBlock O1 W1 v zs (pre ++ (zs, t) :: rwsL zs 0 (t.l.take (i + 1))) W7) ∧ (r = false → ∃ p, (∃ q, rws zs t = p ++ q) ∧ Jx (pre ++ p) W7)) := by
  obtain ⟨Or, hj, hbr, hgk, hpa⟩ := hLi.e
  have hMr : M ≤ wr.heap.size := Nat.le_trans hM1 hgk.b.size
  have hor : ∀ b, v.ownBlock = some b → b < wr.heap.size ∧ M ≤ b ∧ Or b := fun b hb => by
    have := hgk.more b (hv b hb)
    exact ⟨(hbr b this).2, (hbr b this).1, this⟩
  have m5 := mv_below (O := Or) h5
  have m6 : Mv No (fun b => Or b ∨ (wr.heap.size ≤ b ∧ b < W5.heap.size)) W5 (fun b => (Or b ∨ (wr.heap.size ≤ b ∧ b < W5.heap.size)) ∨ (W5.heap.size ≤ b ∧ b < w6.heap.size)) w6 :=
    Mv.grown hp.grow fun k hk => .inl (hor k hk).2.2
  have m := m5.trans m6
  have hz6 : W5.heap.size ≤ w6.heap.size := hp.grow.size
  have hbel : Below w0.heap.size wr w6 := (h5.mono (by omega)).grown hp.grow (by have := h5.size; omega) fun k hk => by have := hor k hk; omega
  have hown := hp.own.lt (w := w6)
  have hgl : g < w6.heap.size := (hp.own.lt g rfl).2
  have hgO : (Or g ∨ (wr.heap.size ≤ g ∧ g < W5.heap.size)) ∨ (W5.heap.size ≤ g ∧ g < w6.heap.size) := by
    rcases hp.back with h | ⟨h, _⟩
    · exact .inl (.inl (hor g (by rw [h]; rfl)).2.2)
    · exact .inr ⟨by omega, hgl⟩
  refine ⟨_, hJ _ _ _ _ _ hj hbr m, m.base hbr hMr, by have := h5.size; omega, hgk.b.trans hbel, fun b hb => ?_, ?_⟩
  · obtain rfl : g = b := by simpa [Value.ownBlock] using hb
    exact hgO
  rintro e W7 ⟨r, rfl, hT, hF⟩
  refine ⟨r, rfl, fun hr => ?_, fun hr => ?_⟩
  · obtain ⟨O7, hj7, hb7, hg7, hp7⟩ := (hT hr).e
    have hsame6 : ∀ b, O1 b → some b ≠ v.ownBlock → w6.heap[b]? = W1.heap[b]? := fun b hb hne => by
      have h1 := (hbr b (hgk.more b hb)).2
      rw [hp.grow.block b (by have := h5.size; omega) hne, h5.block b h1]
      exact hgk.same b hb hne
    have hg1 : ∀ b, O1 b → some b ≠ v.ownBlock → some b ≠ (Value.slice (some ⟨g, 0, none⟩) (zs.length + 1) cap).ownBlock := fun b hb hne => by
      intro h
      obtain rfl : b = g := by simpa [Value.ownBlock] using h
      rcases hp.back with h | ⟨h, _⟩
      · rw [h] at hne; exact hne rfl
      · have h1 := (hbr b (hgk.more b hb)).2
        have := h5.size
        omega
    refine ⟨O7, ?_, hb7, ⟨fun b hb => hg7.more b (m.more b (hgk.more b hb)), fun b hb => ?_, (hgk.b.trans hbel).trans hg7.b, fun b hb hne => ?_⟩, ?_⟩
    · rw [rwsL_take zs hi, ← List.cons_append, ← List.append_assoc, ← hpre]
      exact hj7
    · rcases hg7.new b hb with h | h
      · rcases m.new b h with h | h
        · rcases hgk.new b h with h | h
          · exact .inl h
          · exact .inr ⟨h.1, by have := hbel.size; have := hg7.b.size; omega⟩
        · exact .inr ⟨by have := hgk.b.size; omega, by have := hg7.b.size; omega⟩
      · exact .inr ⟨by have := hgk.b.size; have := hbel.size; omega, h.2⟩
    · rw [hg7.same b (m.more b (hgk.more b hb)) (hg1 b hb hne)]
      exact hsame6 b hb hne
    · rcases hp.back with h | ⟨h, hgr⟩
      · rw [h]
        refine Pa.low (m := (zs ++ [i]).length) (c := cap) (g := g) (ys := ivs (zs ++ [i])) ?_ (by simp) (by rw [ivs_snoc, List.take_append_of_le_length (by rw [ivs_len]; exact Nat.le_refl _), List.take_of_length_le (by rw [ivs_len]; exact Nat.le_refl _)])
        have : (zs ++ [i]).length = zs.length + 1 := by simp
        rw [this]
        have h2 := hp7
        unfold Pa at h2
        rw [this] at h2
        exact h2
      · refine hpa.same fun b hb => ?_
        obtain ⟨h1, _, h3⟩ := hor b hb
        have hne : some b ≠ (Value.slice (some ⟨g, 0, none⟩) (zs.length + 1) cap).ownBlock := by
          intro h9
          obtain rfl : b = g := by simpa [Value.ownBlock] using h9
          have := h5.size
          omega
        rw [hg7.same b (m.more b h3) hne, hgr.block b (by have := h5.size; omega) (by simp), h5.block b h1]
  · obtain ⟨p, ⟨q, hq⟩, hx⟩ := hF hr
    refine ⟨(zs, t) :: rwsL zs 0 (t.l.take i) ++ p, ⟨q ++ rwsL zs (i + 1) (t.l.drop (i + 1)), ?_⟩, ?_⟩
    · rw [rws_mk, rwsL_cut zs hi, hq]
      simp
    · rw [← List.append_assoc, ← hpre]
      exact hx
end
end Go.Proofs.Yteebokhpoppgeaa.nn
namespace Go.Proofs.Yteebokhpoppgeaa.nn
open Go.RowKit

attribute [local go_sem] Oper.semAt_some
set_option maxRecDepth 100000 in
set_option maxHeartbeats 2000000 in
theorem go_any (w0 : World) (l M : Nat) (J : List (List Nat × VT) → (Nat → Prop) → World → Prop) (Jx : List (List Nat × VT) → World → Prop) (xs : List (List Nat × VT)) (hM : w0.heap.size ≤ M)
    (hJ : ∀ pre O W1 O' W2, J pre O W1 → Wb M O W1 → Mv No O W1 O' W2 → J pre O' W2)
    (_hJx : ∀ pre W1 O' W2, Jx pre W1 → Mv No No W1 O' W2 → Jx pre W2)
    (hY : ∀ m pre x O W1 args, J pre O W1 → Wb M O W1 → PArg w0 x O W1 args → (∃ q, xs = pre ++ x :: q) → YieldAt Fence.wide m Try.prog l args W1 fun e W2 =>
      (e = .returned (.bool true) ∧ J (pre ++ [x]) O W2 ∧ Kr w0.heap.size O W1 W2) ∨ (e = .returned (.bool false) ∧ Jx (pre ++ [x]) W2)) (N : Nat) :
    ∀ (t : VT) (zs : List Nat) (v C : Value) (pre : List (List Nat × VT)) (O : Nat → Prop) (W : World), cnt t ≤ N → zs.length + cnt t ≤ 1099511627776 → J pre O W → Wb M O W → M ≤ W.heap.size → Below w0.heap.size w0 W → Lst w0 C t.l → Pa W v zs →
      (∀ b, v.ownBlock = some b → O b) → (∃ q, xs = pre ++ (rws zs t ++ q)) →
      Calls Try.prog 46 #[v, vv t C, .func (.yield l) #[] #[]] W (GoAns w0 M J Jx t zs v pre O W) := by
  induction N with
  | zero => intro t zs v C pre O W h; have := cnt_mk t; omega
  | succ N ih =>
    intro t zs v C pre O W hN hZ hj hbs hMW hbw hC hpa hvO hxs
    have HC := Lib.hid hC
    obtain ⟨A, c, rfl, hlc, hA⟩ := hC.out
    have hcm := cnt_mk t
    have hll := len_cntL t.l
    obtain ⟨W1, hW1⟩ : ∃ W1, W.alloc (.cells #[.int .i64 t.k, .bool t.g, .int .u64 (t.n : Int), .string t.s, .slice A t.l.length c] 36) = W1 := ⟨_, rfl⟩
    obtain ⟨O1, hO1⟩ : ∃ O1 : Nat → Prop, O1 = fun b => O b ∨ b = W.heap.size := ⟨_, rfl⟩
    have hm1 : Mv No O W O1 W1 := by rw [← hW1, hO1]; exact Mv.alloc _ _ _ _
    have hj1 : J pre O1 W1 := hJ _ _ _ _ _ hj hbs hm1
    have hbs1 : Wb M O1 W1 := hm1.base hbs hMW
    have hMW1 : M ≤ W1.heap.size := Nat.le_trans hMW hm1.size
    have hB1 : Below W.heap.size W W1 := by rw [← hW1]; exact (Below.refl _ _).alloc (Nat.le_refl _) _
    have hbw1 : Below w0.heap.size w0 W1 := hbw.trans (hB1.mono (by omega))
    have hpa1 : Pa W1 v zs := hpa.same fun b hb => hB1.block b (hbs b (hvO b hb)).2
    have hvO1 : ∀ b, v.ownBlock = some b → O1 b := fun b hb => hm1.more b (hvO b hb)
    have hOb : O1 W.heap.size := by rw [hO1]; exact .inr rfl
    have hbv : some W.heap.size ≠ v.ownBlock := fun h => by have := (hbs _ (hvO _ h.symm)).2; omega
    have hcb1 : ∀ W' : World, W'.heap[W.heap.size]? = W1.heap[W.heap.size]? → W'.cell? ⟨W.heap.size, 4, none⟩ = some (.slice A t.l.length c) := fun W' h => by
      have h2 : W1.cell? ⟨W.heap.size, 4, none⟩ = some (.slice A t.l.length c) := by rw [← hW1]; simp
      rw [← h2]
      exact World.cell?_of_block h
    have hy0 := hY 2 pre (zs, t) O1 W1 #[v, vv t (.slice A t.l.length c)] hj1 hbs1 ⟨v, _, rfl, hpa1, hvO1, HC.out⟩ (by obtain ⟨q, hq⟩ := hxs; exact ⟨rwsL zs 0 t.l ++ q, by rw [hq, rws_mk]; simp⟩)
    obtain ⟨fn, tmps, assign, body, hy, hR⟩ := hy0
    have HR := Lib.hid hR
    have HK := Lib.hid (And.intro hcb1 (And.intro hbv (And.intro hOb (And.intro hbs1 (And.intro hMW1 (And.intro hvO1 (And.intro hB1 hbw1)))))))
    have HIN : Hid (∀ i, (h : i < t.l.length) → ∀ wr W5 g cap w6, Li w0 M J v.ownBlock O1 W1 v zs (pre ++ (zs, t) :: rwsL zs 0 (t.l.take i)) wr → Below wr.heap.size wr W5 → Pu W5 v zs i g cap w6 → ∀ C', Lst w0 C' t.l[i].l →
        Calls Try.prog 46 #[.slice (some ⟨g, 0, none⟩) (zs.length + 1) cap, vv t.l[i] C', .func (.yield l) #[] #[]] w6 fun e W7 => ∃ r : Bool, e = .returned (.bool r) ∧ (r = true → Li w0 M J v.ownBlock O1 W1 v zs (pre ++ (zs, t) :: rwsL zs 0 (t.l.take (i + 1))) W7) ∧ (r = false → ∃ p, (∃ q, rws zs t = p ++ q) ∧ Jx (pre ++ p) W7)) := Lib.hid fun i h wr W5 g cap w6 hLi h5 hp C' hl' => by
      obtain ⟨O6, hj6, hb6, hM6, hw6, ho6, hout⟩ := child_in (Jx := Jx) hM hJ hLi hbs1 hMW1 hvO1 h5 hp h rfl
      have hc := cnt_at h
      have hlen : (zs ++ [i]).length = zs.length + 1 := by simp
      refine (ih t.l[i] (zs ++ [i]) (.slice (some ⟨g, 0, none⟩) (zs.length + 1) cap) C' _ O6 w6 (by omega) (by rw [hlen]; omega) hj6 hb6 hM6 (hbw1.trans hw6) hl' hp.own ho6 ?_).mono hout
      obtain ⟨q, hq⟩ := hxs
      exact ⟨rwsL zs (i + 1) (t.l.drop (i + 1)) ++ q, by rw [hq, rws_mk, rwsL_cut zs h]; simp⟩
    have HLI0 : Hid (∀ W2, J (pre ++ [(zs, t)]) O1 W2 → Kr w0.heap.size O1 W1 W2 → Li w0 M J v.ownBlock O1 W1 v zs (pre ++ (zs, t) :: rwsL zs 0 (t.l.take 0)) W2) := Lib.hid fun W2 h2 k2 =>
      ⟨⟨O1, by simpa [rwsL] using h2, hbs1.keep k2.b.size, ⟨fun _ h => h, fun _ h => .inl h, k2.b, fun b hb _ => k2.o b hb⟩, hpa1.same fun b hb => k2.o b (hvO1 b hb)⟩⟩
    have HEND : Hid (∀ W', Li w0 M J v.ownBlock O1 W1 v zs (pre ++ (zs, t) :: rwsL zs 0 (t.l.take t.l.length)) W' → Li w0 M J v.ownBlock O W v zs (pre ++ rws zs t) W') := Lib.hid fun W' h => by
      obtain ⟨O', h1, h2, h3, h4⟩ := h.e
      rw [List.take_length] at h1
      refine ⟨⟨O', by rw [rws_mk]; exact h1, h2, ⟨fun b hb => h3.more b (hm1.more b hb), fun b hb => ?_, (hB1.mono (by omega)).trans h3.b, fun b hb hne => ?_⟩, h4⟩⟩
      · rcases h3.new b hb with h | h
        · rw [hO1] at h
          rcases h with h | h
          · exact .inl h
          · exact .inr ⟨by omega, by have := h3.b.size; have := hm1.size; rw [h]; have h5 : W.heap.size < W1.heap.size := by rw [← hW1]; simp
                                     omega⟩
        · exact .inr ⟨by have := hm1.size; omega, h.2⟩
      · rw [h3.same b (hm1.more b hb) hne]
        exact hB1.block b (hbs b hb).2
    have HRW : Hid (rws zs t = [(zs, t)] ++ rwsL zs 0 t.l) := Lib.hid (by rw [rws_mk]; rfl)
    have hzl : zs.length + 1 ≤ 1099511627776 := by omega
    obtain ⟨m, hm⟩ : ∃ m, t.l.length = m := ⟨_, rfl⟩
    have HM := Lib.hid hm
    have hmb : m ≤ 1099511627776 := by omega
    have hAh := Lib.hid hA
    have HPA := Lib.hid hpa1
    clear hxs hj hbs hbs1 hm1 hj1 hpa hpa1 hvO hvO1 hcb1 hbv hOb hB1 hbw1 hC ih hJ _hJx hY hA hR hMW hMW1 hbw hcm hll hN hO1 hlc
    unfold vv at hy ⊢
    rw [hm] at hW1 hy ⊢
    go_enter Try.func46, Try.ntmps46
    go_upto_region 1 with fail
    refine (wpIn_wide (n := 3)).1 ?_
    have c0 : W1.cell? ⟨W.heap.size, 0, none⟩ = some (.int .i64 t.k) := by rw [← hW1]; simp
    have c1 : W1.cell? ⟨W.heap.size, 1, none⟩ = some (.bool t.g) := by rw [← hW1]; simp
    have c2 : W1.cell? ⟨W.heap.size, 2, none⟩ = some (.int .u64 (t.n : Int)) := by rw [← hW1]; simp
    have c3 : W1.cell? ⟨W.heap.size, 3, none⟩ = some (.string t.s) := by rw [← hW1]; simp
    have c4 : W1.cell? ⟨W.heap.size, 4, none⟩ = some (.slice A m c) := by rw [← hW1]; simp
    clear hW1
    gi_wp2
    refine HR.out.mono ?_
    rintro e W2 (⟨rfl, hJ2, hk2⟩ | ⟨rfl, hx2⟩)
    · have HL0 := Lib.hid (HLI0.out W2 hJ2 hk2)
      have h4 := HK.out.1 W2 (hk2.o _ HK.out.2.2.1)
      rw [hm] at h4
      clear hJ2 hk2 c0 c1 c2 c3 c4 HR HLI0 hy
      gi_wp2
      go_wp2_with fail
      go_loopw [17] (fun s17 wr => ∃ i : Nat, i ≤ m ∧ s17 = .int .i64 (i : Int) ∧ Hid (Li w0 M J v.ownBlock O1 W1 v zs (pre ++ (zs, t) :: rwsL zs 0 (t.l.take i)) wr)) (fun s17 _ => m - (intOf s17).toNat)
      case atStart => exact ⟨0, Nat.zero_le _, rfl, HL0⟩
      case round =>
        obtain ⟨i, hi, rfl, hL⟩ := hrel
        by_cases hlt : i < m
        · have hlt2 : i < t.l.length := by rw [hm]; exact hlt
          rcases hAh.out with ⟨_, h0, _⟩ | ⟨b, off, D, rfl, hb, hrow, hkid⟩
          · rw [h0] at hm; exact absurd hm (by simp; omega)
          · have hrw := hrow i hlt2
            have hkl := hkid i hlt2
            have hIN := fun W5 g cap w6 h5 hp => HIN.out i hlt2 wr W5 g cap w6 hL.out h5 hp (D i) hkl
            obtain ⟨t', ht'⟩ : ∃ t', t.l[i] = t' := ⟨_, rfl⟩
            obtain ⟨A', c', hC', _⟩ := hkl.out
            obtain ⟨n', hn'⟩ : ∃ n', t.l[i].l.length = n' := ⟨_, rfl⟩
            rw [hn'] at hC'
            rw [ht', hC'] at hrw
            simp only [ht', hC'] at hIN
            obtain ⟨O2, _, _, hgk, hpw⟩ := hL.out.e
            have hbw := HK.out.2.2.2.2.2.2.2.trans hgk.b
            have hr2 := hrw.below hbw hb
            have r0 := hr2.k
            have r1 := hr2.g
            have r2 := hr2.n
            have r3 := hr2.s
            have r4 := hr2.l
            have HI := Lib.hid hIN
            have hpb : ∀ b, v.ownBlock = some b → b < wr.heap.size := fun b h => (hpw.lt b h).2
            have HPB := Lib.hid hpb
            have HPW : Hid (∀ W5, Below wr.heap.size wr W5 → Pa W5 v zs) := Lib.hid fun W5 h5 => hpw.same fun b h => h5.block b (hpb b h)
            unfold vv at HI
            clear hrow hkid hIN hrw hkl hgk hpw hbw hr2 hpb ht' hC' hn'
            go_wp2_with fail
            go_upto_region 6 with fail
            obtain ⟨W4, hW4⟩ : ∃ W4, wr.alloc (.cells #[.int .i64 t'.k, .bool t'.g, .int .u64 (t'.n : Int), .string t'.s, .slice A' n' c'] 36) = W4 := ⟨_, rfl⟩
            rw [hW4]
            have B4 : Hid (Below wr.heap.size wr W4) := Lib.hid (by rw [← hW4]; exact (Below.refl _ _).alloc (Nat.le_refl _) _)
            have hz4 : wr.heap.size < W4.heap.size := by rw [← hW4]; simp
            have HC4 : Hid (∀ W : World, W.heap[wr.heap.size]? = W4.heap[wr.heap.size]? → W.cell? ⟨wr.heap.size, 0, none⟩ = some (.int .i64 t'.k) ∧ W.cell? ⟨wr.heap.size, 1, none⟩ = some (.bool t'.g) ∧ W.cell? ⟨wr.heap.size, 2, none⟩ = some (.int .u64 (t'.n : Int)) ∧ W.cell? ⟨wr.heap.size, 3, none⟩ = some (.string t'.s) ∧ W.cell? ⟨wr.heap.size, 4, none⟩ = some (.slice A' n' c')) := Lib.hid fun W h => by
              refine ⟨?_, ?_, ?_, ?_, ?_⟩
              all_goals
                rw [World.cell?_of_block (w := W4) (a := ⟨wr.heap.size, _, none⟩) h, ← hW4]
                simp
            have HC5 : Hid (∀ Y, (W4.alloc Y).drew.heap[wr.heap.size]? = W4.heap[wr.heap.size]?) := Lib.hid fun Y => Below.heap_alloc W4 Y _ hz4
            have HB5 : Hid (∀ Y, Below wr.heap.size wr (W4.alloc Y).drew) := Lib.hid fun Y => (B4.out.alloc (Nat.le_of_lt hz4) Y).drew
            have HC6 : Hid (∀ Y g cap w6, Pu (W4.alloc Y).drew v zs i g cap w6 → w6.heap[wr.heap.size]? = W4.heap[wr.heap.size]?) := Lib.hid fun Y g cap w6 hp => by
              rw [hp.grow.block _ (by show wr.heap.size < (W4.alloc Y).heap.size; simp; exact Nat.lt_succ_of_lt hz4) (fun h => by have := HPB.out _ h.symm; omega)]
              exact HC5.out Y
            obtain ⟨d0, d1, d2, d3, d4⟩ := HC4.out W4 rfl
            obtain ⟨e0, e1, e2, e3, e4⟩ := HC4.out _ (HC5.out (.cells #[.int .i64 (i : Int)] 3))
            clear r0 r1 r2 r3 r4 hW4 h4
            go_region_law (first
              | (refine step_path rfl (.tmp 22) (.tmp 24) rfl v zs rfl (HPW.out _ (HB5.out _)) _ _ i rfl ?_ hzl ?_; (first | simp | skip); intro g cap w6 hp6; obtain ⟨f0, f1, f2, f3, f4⟩ := HC4.out _ (HC6.out _ _ _ _ hp6))
              | (go_simp; go_at_call 46; refine (HI.out _ g cap _ (HB5.out _) hp6).mono ?_; rintro e W7 ⟨r, rfl, hT, hF⟩; have HT := Lib.hid hT; have HF := Lib.hid hF; clear hT hF; go_simp))
            all_goals
              clear d0 d1 d2 d3 d4 e0 e1 e2 e3 e4 f0 f1 f2 f3 f4 HC4 HC5 HB5 HC6 hp6 HI
              cases r
              · have hx := HF.out rfl
                go_wp2_with fail
                go_ret
                exact ⟨false, rfl, (fun h => by cases h), fun _ => hx⟩
              · have hl := Lib.hid (HT.out rfl)
                go_wp2_with fail
                go_roundw
                case rel => exact ⟨i + 1, hlt, by go_num, hl⟩
                case measure => simp [intOf]; omega
        · obtain rfl : i = m := by omega
          have HE := Lib.hid (HEND.out wr (by rw [HM.out]; exact hL.out))
          clear hL h4
          go_wp2_with fail
          go_ret
          exact ⟨true, rfl, fun _ => HE.out, fun h => by cases h⟩
    · clear HIN HEND HLI0 HK c0 c1 c2 c3 c4 HR hy
      gi_wp2
      go_wp2_with fail
      go_ret
      exact ⟨false, rfl, (fun h => by cases h), fun _ => ⟨[(zs, t)], ⟨_, HRW.out⟩, hx2⟩⟩
end Go.Proofs.Yteebokhpoppgeaa.nn
namespace Go.Proofs.Yteebokhpoppgeaa.nn
open Go.RowKit

attribute [local go_sem] Oper.semAt_some
/-- a value's five cells -/
theorem Row.cs5 {W : World} {g : Nat} {t : VT} {C : Value} (h : Row W g 0 t C) : W.cell? ⟨g, 0, none⟩ = some (.int .i64 t.k) ∧ W.cell? ⟨g, 1, none⟩ = some (.bool t.g) ∧ W.cell? ⟨g, 2, none⟩ = some (.int .u64 (t.n : Int)) ∧ W.cell? ⟨g, 3, none⟩ = some (.string t.s) ∧ W.cell? ⟨g, 4, none⟩ = some C := ⟨h.k, h.g, h.n, h.s, h.l⟩
set_option maxRecDepth 100000 in
theorem all_any (t : VT) (C : Value) (w : World) : Calls Try.prog 41 #[vv t C] w fun e w' => e = .returned (.func (.func 45) #[] #[.pointer (some ⟨w.heap.size, 0, none⟩)]) ∧ w' = w.alloc (.cells #[.int .i64 t.k, .bool t.g, .int .u64 (t.n : Int), .string t.s, C] 36) := by
  unfold vv
  go_enter Try.func41, Try.ntmps41
  go_wp2_with fail
  go_ret
  exact ⟨rfl, rfl⟩
set_option maxRecDepth 100000 in
set_option maxHeartbeats 1000000 in
theorem gives_all (w0 : World) (t : VT) (C : Value) (w : World) (Bv : Nat) (hB : Bv < w.heap.size) (hr : Row w Bv 0 t C) (hb : Below w0.heap.size w0 w) (hC : Lst w0 C t.l) (hN : cnt t ≤ 1099511627776) :
    Gives Try.prog 45 #[.pointer (some ⟨Bv, 0, none⟩)] (PArg w0) (rws [] t) w0.heap.size w := by
  intro l M J Jx W hW hM hJ hJx hY h0
  have hM0 : w0.heap.size ≤ M := by rw [hM]; exact Nat.le_trans hb.size hW.size
  have HX := Lib.hid (go_any w0 l M J Jx (rws [] t) hM0 hJ hJx hY (cnt t) t [] (.slice none 0 0) C [] No W (Nat.le_refl _) (by simpa using hN) h0 (Wb.no _ _) (Nat.le_of_eq hM) (hb.trans (hW.mono hb.size)) hC (Pa.nil_ _) (fun b h => by simp [Value.ownBlock] at h) ⟨[], by simp⟩)
  obtain ⟨r0, r1, r2, r3, r4⟩ := (hr.below hW hB).cs5
  clear hJ hJx hY h0 hW hM hM0 hr hb hC
  unfold vv at HX
  show Calls Try.prog 45 #[.func (.yield l) #[] #[], .pointer (some ⟨Bv, 0, none⟩)] W _
  go_enter Try.func45, Try.ntmps45
  go_wp2_with fail
  refine HX.out.mono ?_
  rintro e W2 ⟨r, rfl, hT, hF⟩
  have HT := Lib.hid hT
  have HF := Lib.hid hF
  clear hT hF r0 r1 r2 r3 r4 HX
  go_wp2_with fail
  go_end0
  refine ⟨⟨_, rfl⟩, ?_⟩
  cases r
  · obtain ⟨p, ⟨q, hq⟩, hx⟩ := HF.out rfl
    exact .inr ⟨p, ⟨q, hq⟩, hx⟩
  · obtain ⟨O, hj, hbs, _⟩ := (HT.out rfl).e
    exact .inl ⟨O, hj, hbs⟩
end Go.Proofs.Yteebokhpoppgeaa.nn
namespace Go.Proofs.Yteebokhpoppgeaa.nn
open Go.RowKit

attribute [local go_sem] Oper.semAt_some
/-- a variable's box holds a number -/
def Nb (W : World) (B : Nat) (m : Nat) : Prop := W.heap[B]? = some (.cells #[.int .i64 (m : Int)] 3 (0, 0))
theorem Nb.cell {W : World} {B m : Nat} (h : Nb W B m) : W.cell? ⟨B, 0, none⟩ = some (.int .i64 (m : Int)) ∧ W.frozen? ⟨B, 0, none⟩ = false := ⟨Boxed.cell h, Boxed.frozen h⟩
theorem args2 {w0 : World} {x : List Nat × VT} {O : Nat → Prop} {W : World} {args : Array Value} (h : PArg w0 x O W args) : args.size = 2 := by obtain ⟨v, C, rfl, _⟩ := h; rfl
theorem mv_box {D B : Nat} {O O' : Nat → Prop} {W W' : World} {o : Obj} (h : W.heap[B]? = some o) (hm : Mv (EE D) O W O' W') (hb : Wb (D + 2) O W) (hB : B < D) : W'.heap[B]? = some o := by
  rw [hm.kept B (Array.getElem?_eq_some_iff.1 h).1 (fun h => by have := (hb _ h).1; omega) (fun h => by rcases h with h | h <;> omega)]
  exact h
theorem mv_below2 {n₀ D : Nat} {O O' : Nat → Prop} {W W' w0 : World} (h : Below n₀ w0 W) (hm : Mv (EE D) O W O' W') (hb : Wb (D + 2) O W) (hn : n₀ ≤ D) (hs : n₀ ≤ w0.heap.size) : Below n₀ w0 W' :=
  h.trans ⟨hm.os, hm.tape, hm.output, hm.size, fun k hk => hm.kept k (Nat.lt_of_lt_of_le hk (Nat.le_trans hs h.size)) (fun h => by have := (hb _ h).1; omega) (fun h => by rcases h with h | h <;> omega)⟩
/-- a store into a box that was made ahead of the loop -/
theorem kr_set {n₀ D B : Nat} {O : Nat → Prop} {W : World} (v : Value) (hb : Wb (D + 2) O W) (hB : B < D) (hn : n₀ ≤ B) : (Kr n₀ O W (W.setCell ⟨B, 0, none⟩ v)) ∧ (W.setCell ⟨B, 0, none⟩ v).heap[D]? = W.heap[D]? ∧ (W.setCell ⟨B, 0, none⟩ v).heap[D + 1]? = W.heap[D + 1]? :=
  ⟨⟨(Below.refl _ _).setCell (p := ⟨B, 0, none⟩) hn _, fun b h => Below.heap_setCell _ _ _ _ (by have := (hb _ h).1; show b ≠ B; omega)⟩, Below.heap_setCell _ _ _ _ (by show D ≠ B; omega), Below.heap_setCell _ _ _ _ (by show D + 1 ≠ B; omega)⟩
end Go.Proofs.Yteebokhpoppgeaa.nn
