/- Joined texts, what is wanted of them: Ev, RefEvs, RefEvents, EvCount, EvApp, EvReal, EvLaws. -/
import Derived.Laws.AppendOwn
import Derived.Maps.AppendAt
import Derived.Laws.OwnMore
import Derived.Lib.Hide
import Derived.Deep.QuietTactic
import Derived.BigQuiet
import Derived.IntWalk
import Derived.StillTailTactics
import Derived.Deep.RegionHeld3
import Derived.Test.YteebokhpoppgeaaProg
import Derived.WalkKit
import Derived.Test.YteebokhpoppgeaaJa
import Derived.Test.YteebokhpoppgeaaJc
import Derived.Test.YteebokhpoppgeaaJg
import Derived.Test.YteebokhpoppgeaaJh
import Derived.Test.YteebokhpoppgeaaJb
import Derived.Test.YteebokhpoppgeaaJe
namespace Go.Proofs.Yteebokhpoppgeaa.nn
open Go.RowKit

/-- an event -/
structure Ev where
  k : Int
  g : Bool
  n : Nat
  s : ByteArray
/-- the end of a list, of a map -/
def evEnd : Ev := ⟨15, false, 0, ⟨#[]⟩⟩
/-- the event that a value begins with -/
def evOf (t : VT) : Ev := ⟨t.k, t.g, t.n, t.s⟩
mutual
/-- the events of a tree -/
def evs : VT → List Ev | .mk k g n s l => ⟨k, g, n, s⟩ :: (evsL l ++ (if k = 11 ∨ k = 12 then [evEnd] else []))
def evsL : List VT → List Ev | [] => [] | t :: r => evs t ++ evsL r
end
theorem evs_mk (t : VT) : evs t = evOf t :: (evsL t.l ++ (if t.k = 11 ∨ t.k = 12 then [evEnd] else [])) := by cases t; rfl
theorem evsL_app (a b : List VT) : evsL (a ++ b) = evsL a ++ evsL b := by
  induction a with
  | nil => rfl
  | cons t r ih => simp only [List.cons_append, evsL, ih, List.append_assoc]
theorem evsL_take {l : List VT} {i : Nat} (h : i < l.length) : evsL (l.take (i + 1)) = evsL (l.take i) ++ evs l[i] := by
  rw [List.take_succ_eq_append_getElem h, evsL_app]
  simp [evsL]
mutual
theorem evs_len : ∀ t : VT, (evs t).length ≤ 2 * cnt t
  | .mk k _ _ _ l => by
    have := evsL_len l
    simp only [evs, cnt, List.length_cons, List.length_append]
    split <;> simp <;> omega
theorem evsL_len : ∀ l : List VT, (evsL l).length ≤ 2 * cntL l
  | [] => by simp [evsL]
  | t :: r => by have h1 := evs_len t; have h2 := evsL_len r; simp only [evsL, cntL, List.length_append]; omega
end
/-- an event's four cells -/
def evC (e : Ev) : List Value := [.int .i64 e.k, .bool e.g, .int .u64 (e.n : Int), .string e.s]
/-- an event that is handed over -/
def evv (e : Ev) : Value := .agg #[.int .i64 e.k, .bool e.g, .int .u64 (e.n : Int), .string e.s]
/-- the cells of events -/
def evL : List Ev → List Value | [] => [] | e :: r => evC e ++ evL r
theorem evL_len (L : List Ev) : (evL L).length = L.length * 4 := by
  induction L with
  | nil => rfl
  | cons e r ih => simp only [evL, evC, List.length_append, List.length_cons, List.length_nil, ih]; omega
theorem evL_app (L M : List Ev) : evL (L ++ M) = evL L ++ evL M := by
  induction L with
  | nil => rfl
  | cons e r ih => simp only [List.cons_append, evL, ih, List.append_assoc]
theorem evL_one (L : List Ev) : ∀ u ∈ evL L, u.oneCell' = true := by
  induction L with
  | nil => intro u h; cases h
  | cons e r ih =>
    intro u h
    simp only [evL, evC, List.mem_append, List.mem_cons, List.not_mem_nil, or_false] at h
    rcases h with (rfl | rfl | rfl | rfl) | h
    · rfl
    · rfl
    · rfl
    · rfl
    · exact ih u h
theorem evL_at {L : List Ev} {i : Nat} (h : i < L.length) : (evL L)[i * 4]? = some (.int .i64 L[i].k) ∧ (evL L)[i * 4 + 1]? = some (.bool L[i].g) ∧ (evL L)[i * 4 + 2]? = some (.int .u64 (L[i].n : Int)) ∧ (evL L)[i * 4 + 3]? = some (.string L[i].s) := by
  induction L generalizing i with
  | nil => exact absurd h (by simp)
  | cons e r ih =>
    have e4 : (evC e).length = 4 := rfl
    cases i with
    | zero => exact ⟨rfl, rfl, rfl, rfl⟩
    | succ i =>
      have h1 := ih (i := i) (by simpa using h)
      have go : ∀ j, (evL (e :: r))[(i + 1) * 4 + j]? = (evL r)[i * 4 + j]? := fun j => by
        rw [evL, List.getElem?_append_right (by omega), e4, show (i + 1) * 4 + j - 4 = i * 4 + j by omega]
      have g0 := go 0
      rw [Nat.add_zero, Nat.add_zero] at g0
      rw [g0, go 1, go 2, go 3]
      exact h1
/-- a slice's place reads as events -/
def RdE (w : World) (A : Option Addr) (L : List Ev) : Prop := L ≠ [] → ∃ b off : Nat, A = some ⟨b, off, none⟩ ∧ b < w.heap.size ∧ ∀ j u, (evL L)[j]? = some u → w.cell? ⟨b, off + j, none⟩ = some u
theorem RdE.below {w w' : World} {A : Option Addr} {L : List Ev} (h : RdE w A L) (hB : Below w.heap.size w w') : RdE w' A L := fun h0 => by
  obtain ⟨b, off, rfl, hb, hc⟩ := h h0
  exact ⟨b, off, rfl, Nat.lt_of_lt_of_le hb hB.size, fun j u hu => (hB.cell (p := ⟨b, off + j, none⟩) hb).trans (hc j u hu)⟩
theorem RdE.at {w : World} {b off : Nat} {L : List Ev} (h : RdE w (some ⟨b, off, none⟩) L) {i : Nat} (hi : i < L.length) : w.cell? ⟨b, off + i * 4, none⟩ = some (.int .i64 L[i].k) ∧ w.cell? ⟨b, off + i * 4 + 1, none⟩ = some (.bool L[i].g) ∧ w.cell? ⟨b, off + i * 4 + 2, none⟩ = some (.int .u64 (L[i].n : Int)) ∧ w.cell? ⟨b, off + i * 4 + 3, none⟩ = some (.string L[i].s) := by
  obtain ⟨b', off', e, _, hc⟩ := h (by intro h0; subst h0; simp at hi)
  injection e with e
  injection e with e1 e2 e3
  subst e1 e2
  obtain ⟨h0, h1, h2, h3⟩ := evL_at hi
  exact ⟨hc _ _ h0, hc _ _ h1, hc _ _ h2, hc _ _ h3⟩
/-- a slice of one's own reads as its events -/
theorem RdE.of_own {w : World} {base n : Nat} {e : TypeId} {v : Value} {L : List Ev} (hn : n = L.length) (h : w.ownsRow base e 4 v n (evL L)) : ∃ A c, v = .slice A n c ∧ n ≤ c ∧ c ≤ maxLen ∧ RdE w A L := by
  subst hn
  rcases h.2 with ⟨rfl, h0⟩ | ⟨g, cap, cur, rfl, hb, hg, hc, hm, hs, ht⟩
  · exact ⟨none, 0, by rw [h0], by omega, by unfold maxLen; omega, fun h => absurd (List.eq_nil_of_length_eq_zero h0) h⟩
  · refine ⟨_, cap, rfl, hc, hm, fun _ => ⟨g, 0, rfl, (Array.getElem?_eq_some_iff.1 hg).1, fun j u hu => ?_⟩⟩
    have hl := evL_len L
    have hj := (List.getElem?_eq_some_iff.1 hu).1
    rw [cell_of_row w g (0 + j) cur _ (0, 0) hg, Nat.zero_add]
    rw [← ht, List.getElem?_take_of_lt (by omega)] at hu
    rw [← hu]
    simp
theorem add_cell (b off j : Nat) : (⟨b, off, none⟩ : Addr).add j = ⟨b, off + j, none⟩ := by unfold Addr.add; split <;> simp_all
/-- the cells that lie at a place, for the laws on append -/
theorem RdE.news {w : World} {b off : Nat} {L : List Ev} (h : RdE w (some ⟨b, off, none⟩) L) : ∀ j u, (evL L)[j]? = some u → w.cell? ((⟨b, off, none⟩ : Addr).add j) = some u := fun j u hu => by
  rw [add_cell]
  obtain ⟨b', off', e, _, hc⟩ := h (by intro h0; subst h0; simp [evL] at hu)
  injection e with e
  injection e with e1 e2 e3
  subst e1 e2
  exact hc j u hu
theorem info_event : (Try.prog.info? 31).map (fun i => (i.zero, i.size, i.bytes)) = some (some (.agg #[.int .i64 0, .bool false, .int .u64 0, .string ⟨#[]⟩]), 4, 40) := by kernel_rfl
theorem info_ev4 : ∃ i, Try.prog.info? 31 = some i ∧ i.zero = some (.agg #[.int .i64 0, .bool false, .int .u64 0, .string ⟨#[]⟩]) ∧ i.size = 4 ∧ i.bytes = 40 := by
  cases hi : Try.prog.info? 31 with
  | none => have h := info_event; rw [hi] at h; cases h
  | some i =>
    have h := info_event
    rw [hi] at h
    injection h with h
    exact ⟨i, rfl, (Prod.mk.inj h).1, (Prod.mk.inj (Prod.mk.inj h).2).1, (Prod.mk.inj (Prod.mk.inj h).2).2⟩
/-- a block of one event -/
theorem ev_lit (w : World) (base : Nat) (e : Ev) (hb : base ≤ w.heap.size) : (w.alloc (.cells #[.int .i64 e.k, .bool e.g, .int .u64 (e.n : Int), .string e.s] 31)).ownsRow base 31 4 (.slice (some ⟨w.heap.size, 0, none⟩) 1 1) 1 (evL [e]) :=
  World.ownsRow_lit w #[.int .i64 e.k, .bool e.g, .int .u64 (e.n : Int), .string e.s] 1 hb (by simp [maxLen]) rfl
end Go.Proofs.Yteebokhpoppgeaa.nn
namespace Go.Proofs.Yteebokhpoppgeaa.nn
open Go.RowKit

theorem own_blk {w : World} {base n size : Nat} {e : TypeId} {v : Value} {xs : List Value} (h : w.ownsRow base e size v n xs) (h0 : 0 < n) : ∃ g cap, v = .slice (some ⟨g, 0, none⟩) n cap ∧ base ≤ g ∧ g < w.heap.size := by
  rcases h.2 with ⟨_, h3⟩ | ⟨g, cap, cur, rfl, hb, hg, _⟩
  · omega
  · exact ⟨g, cap, rfl, hb, (Array.getElem?_eq_some_iff.1 hg).1⟩
/-- what events answers -/
def EvAns (t : VT) (w : World) (e : Ending) (w' : World) : Prop := ∃ (A : Option Addr) (c : Nat), e = .returned (.slice A (evs t).length c) ∧ (evs t).length ≤ c ∧ c ≤ maxLen ∧ RdE w' A (evs t) ∧ Below w.heap.size w w'
theorem evEnd_news (w : World) : ∀ j u, (evL [evEnd])[j]? = some u → (w.alloc (.cells #[.int .i64 15, .bool false, .int .u64 0, .string ⟨#[]⟩] 31)).cell? ((⟨w.heap.size, 0, none⟩ : Addr).add j) = some u := fun j u hu => by
  obtain ⟨A, c, e, _, _, h⟩ := RdE.of_own (n := 1) rfl (ev_lit w 0 evEnd (Nat.zero_le _))
  injection e with e1
  subst e1
  exact h.news j u hu
theorem kIs {k c : Int} : (k == c) = decide (k = c) := by by_cases h : k = c <;> simp [h]
end Go.Proofs.Yteebokhpoppgeaa.nn
namespace Go.Proofs.Yteebokhpoppgeaa.nn
open Go.RowKit

/-- the events that Events answers -/
def evA (t : VT) : List Ev := if chk t = 0 then evs t else []
theorem chk_cnt {t : VT} (h : chk t = 0) : cnt t ≤ 65536 ∧ dep t ≤ 64 ∧ rgt t = true := by
  unfold chk at h
  split at h
  · cases h
  · split at h
    · exact ⟨by omega, by omega, ‹_›⟩
    · cases h
/-- what Events answers -/
def EEAns (t : VT) (w : World) (e : Ending) (w' : World) : Prop := ∃ (A : Option Addr) (c : Nat), e = .returned (.tuple #[.slice A (evA t).length c, .int .i64 (chk t : Int)]) ∧ (evA t).length ≤ c ∧ c ≤ maxLen ∧ RdE w' A (evA t) ∧ Below w.heap.size w w'
end Go.Proofs.Yteebokhpoppgeaa.nn
namespace Go.Proofs.Yteebokhpoppgeaa.nn

theorem lf_iff (k : Int) : lf k = true ↔ k ≠ 11 ∧ k ≠ 12 ∧ k ≠ 13 := by unfold lf; simp
end Go.Proofs.Yteebokhpoppgeaa.nn
namespace Go.Proofs.Yteebokhpoppgeaa.nn
open Go.RowKit

/-- what has become of a row of one's own since a world w, and of the box that was made there -/
structure Ap (w : World) (v : Value) (bx : Array Value) (W : World) (v' : Value) : Prop where
  g : w.grownBy W v.ownBlock
  o : v'.ownBlock = v.ownBlock ∨ ∃ k, v'.ownBlock = some k ∧ w.heap.size < k
  b : Bk W w.heap.size 36 bx
  l : ∀ k, v.ownBlock = some k → k < w.heap.size
theorem Ap.new {w : World} {base n : Nat} {e : TypeId} {size : Nat} {v : Value} {xs : List Value} (h : w.ownsRow base e size v n xs) (bx : Array Value) : Ap w v bx (w.alloc (.cells bx 36)) v :=
  ⟨World.grownBy_alloc _ _ _, .inl rfl, heap_alloc_last _ _, fun k hk => (h.lt k hk).2⟩
theorem Ap.step {w W W2 : World} {v v' v2 : Value} {bx : Array Value} (h : Ap w v bx W v') (hg : W.grownBy W2 v'.ownBlock) (ho : v2.ownBlock = v'.ownBlock ∨ ∃ k, v2.ownBlock = some k ∧ W.heap.size ≤ k) : Ap w v bx W2 v2 where
  g := by
    refine ⟨hg.os.trans h.g.os, hg.tape.trans h.g.tape, hg.output.trans h.g.output, Nat.le_trans h.g.size hg.size, fun b hb hne => ?_⟩
    rw [hg.block b (Nat.lt_of_lt_of_le hb h.g.size) fun e => ?_]
    · exact h.g.block b hb hne
    · rcases h.o with o | ⟨k, o, hk⟩
      · rw [o] at e; exact hne e
      · rw [o] at e; injection e with e; omega
  o := by
    have hz := h.b.lt
    rcases ho with ho | ⟨k, ho, hk⟩
    · rw [ho]; exact h.o
    · exact .inr ⟨k, ho, by omega⟩
  b := h.b.grown hg fun e => by
    rcases h.o with o | ⟨k, o, hk⟩
    · rw [o] at e
      have := h.l _ e.symm
      omega
    · rw [o] at e; injection e with e; omega
  l := h.l
theorem Ap.alloc {w W : World} {v v' : Value} {bx : Array Value} (h : Ap w v bx W v') (o : Obj) : Ap w v bx (W.alloc o) v' := h.step (World.grownBy_alloc _ _ _) (.inl rfl)
/-- what appendEvents answers -/
def ApAns (B : Nat) (t : VT) (L : List Ev) (v : Value) (w : World) (e : Ending) (w' : World) : Prop :=
  ∃ v', e = .returned v' ∧ w'.ownsRow B 31 4 v' (L ++ evs t).length (evL (L ++ evs t)) ∧ w.grownBy w' v.ownBlock ∧ (v'.ownBlock = v.ownBlock ∨ ∃ k, v'.ownBlock = some k ∧ w.heap.size ≤ k)
theorem ev_news (w : World) (e : Ev) : ∀ j u, (evL [e])[j]? = some u → (w.alloc (.cells #[.int .i64 e.k, .bool e.g, .int .u64 (e.n : Int), .string e.s] 31)).cell? ((⟨w.heap.size, 0, none⟩ : Addr).add j) = some u := fun j u hu => by
  obtain ⟨A, c, h0, _, _, h⟩ := RdE.of_own (n := 1) rfl (ev_lit w 0 e (Nat.zero_le _))
  injection h0 with e1
  subst e1
  exact h.news j u hu
set_option maxRecDepth 100000 in
set_option maxHeartbeats 2000000 in
theorem app_any (w0 : World) (N : Nat) : ∀ (t : VT) (C : Value) (L : List Ev) (n : Nat) (v : Value) (w : World), cnt t ≤ N → n = L.length → n + 2 * cnt t ≤ 1099511627776 → Below w0.heap.size w0 w → Lst w0 C t.l → w.ownsRow w0.heap.size 31 4 v n (evL L) →
    Calls Try.prog 38 #[v, vv t C] w (ApAns w0.heap.size t L v w) := by
  obtain ⟨i0, hi0, hz0, hz1, hz2⟩ := info_ev4
  induction N with
  | zero => intro t C L n v w h; have := cnt_mk t; omega
  | succ N ih =>
    intro t C L n v w hN hn hbd h0 hC hv
    obtain ⟨A, c, rfl, hlc, hA⟩ := hC.out
    have hcm := cnt_mk t
    have HP := Lib.hid (evs_mk t)
    obtain ⟨l, hl⟩ : ∃ l, t.l = l := ⟨_, rfl⟩
    rw [hl] at hlc hA hcm HP ⊢
    have hll := len_cntL l
    have hel := evsL_len l
    obtain ⟨W1, hW1⟩ : ∃ W1, w.alloc (.cells #[.int .i64 t.k, .bool t.g, .int .u64 (t.n : Int), .string t.s, .slice A l.length c] 36) = W1 := ⟨_, rfl⟩
    have hp0 : Ap w v #[.int .i64 t.k, .bool t.g, .int .u64 (t.n : Int), .string t.s, .slice A l.length c] W1 v := by rw [← hW1]; exact Ap.new hv _
    have hv1 : W1.ownsRow w0.heap.size 31 4 v n (evL L) := by rw [← hW1]; exact hv.alloc _
    have HP0 := Lib.hid hp0
    have HV1 := Lib.hid hv1
    have HBW : Hid (∀ W v', Ap w v #[.int .i64 t.k, .bool t.g, .int .u64 (t.n : Int), .string t.s, .slice A l.length c] W v' → Below w0.heap.size w0 W) := Lib.hid fun W v' h => h0.grown h.g h0.size fun k hk => (hv.lt k hk).1
    have hsz1 : w0.heap.size ≤ W1.heap.size := (HBW.out W1 v hp0).size
    have c0 : W1.cell? ⟨w.heap.size, 0, none⟩ = some (.int .i64 t.k) := hp0.b.cell 0
    have c1 : W1.cell? ⟨w.heap.size, 1, none⟩ = some (.bool t.g) := hp0.b.cell 1
    have c2 : W1.cell? ⟨w.heap.size, 2, none⟩ = some (.int .u64 (t.n : Int)) := hp0.b.cell 2
    have c3 : W1.cell? ⟨w.heap.size, 3, none⟩ = some (.string t.s) := hp0.b.cell 3
    have HN := Lib.hid hn
    have hnm : (n + 1) * 40 ≤ 140737488355328 := by omega
    have hnm2 : n + 1 ≤ maxLen := by unfold maxLen; omega
    have hnews : ∀ j u, (evL [evOf t])[j]? = some u → (W1.alloc (.cells #[.int .i64 t.k, .bool t.g, .int .u64 (t.n : Int), .string t.s] 31)).cell? ((⟨W1.heap.size, 0, none⟩ : Addr).add j) = some u := ev_news W1 (evOf t)
    have HNEWS := Lib.hid hnews
    have HH0 := Lib.hid h0
    clear hC hl hp0 hv1 hv hn hnews h0
    unfold vv
    go_enter Try.func38, Try.ntmps38
    go_upto_region 1 with fail
    clear hW1
    go_wp2_with (at_builtin; refine wpList_append_own_at _ rfl (.tmp 7) (.tmp 17) 22 rfl w0.heap.size 31 i0 _ 4 40 Try.underlying22 hi0 hz0 hz1 hz2 rfl (by decide) v n _ rfl (HV1.out.alloc _) ⟨W1.heap.size, 0, none⟩ 1 1 (evL [evOf t]) rfl rfl HNEWS.out (evL_one _) hnm2 hnm (by simp; omega) ?_; intro v1 W2 hown1 hg1 _ hat1; have HP1 := Lib.hid ((HP0.out.alloc _).step hg1 (hat1.imp id fun h => ⟨_, h, Nat.le_refl _⟩)); have d4 : W2.cell? ⟨w.heap.size, 4, none⟩ = some (.slice A l.length c) := HP1.out.b.cell 4)
    have HO1 : Hid (W2.ownsRow w0.heap.size 31 4 v1 (n + 1) (evL (L ++ evOf t :: evsL (l.take 0)))) := Lib.hid (by rw [List.take_zero]; show W2.ownsRow _ _ _ _ _ (evL (L ++ [evOf t])); rw [evL_app]; exact hown1)
    have HN1 : Hid (n + 1 = (L ++ evOf t :: evsL (l.take 0)).length) := Lib.hid (by rw [HN.out, List.take_zero]; simp [evsL])
    clear hown1 hg1 hat1 c0 c1 c2 c3 HV1 HNEWS HP0
    go_wp2_with fail
    go_loopw [0, 22] (fun s0 s22 wr => ∃ (i m : Nat) (v' : Value), i ≤ l.length ∧ v' = s0 ∧ s22 = .int .i64 (i : Int) ∧ Hid (m = (L ++ evOf t :: evsL (l.take i)).length) ∧ Hid (wr.ownsRow w0.heap.size 31 4 v' m (evL (L ++ evOf t :: evsL (l.take i)))) ∧ Hid (Ap w v #[.int .i64 t.k, .bool t.g, .int .u64 (t.n : Int), .string t.s, .slice A l.length c] wr v')) (fun _ s22 _ => l.length - (intOf s22).toNat)
    case atStart => exact ⟨0, n + 1, v1, Nat.zero_le _, rfl, rfl, HN1, HO1, HP1⟩
    case round =>
      obtain ⟨i, m, v', hi, rfl, rfl, hm, hO, hp⟩ := hrel
      clear d4 HO1 HN1 HP1
      have hmb : m ≤ n + 1 + 2 * cntL (l.take i) := by rw [hm.out, HN.out]; have := evsL_len (l.take i); simp only [List.length_append, List.length_cons]; omega
      have htk := cntL_take_le l i
      by_cases hlt : i < l.length
      · rcases hA with ⟨_, h0, _⟩ | ⟨b, off, D, rfl, hb, hrow, hkid⟩
        · rw [h0] at hlt; exact absurd hlt (by simp)
        obtain ⟨t', ht'⟩ : ∃ t', l[i] = t' := ⟨_, rfl⟩
        obtain ⟨C', hC'⟩ : ∃ C', D i = C' := ⟨_, rfl⟩
        have hr := hrow i hlt
        have hkl := hkid i hlt
        have hcn := cnt_at hlt
        have hpt := evsL_take hlt
        have hct := cntL_take_succ hlt
        rw [ht', hC'] at hr hkl
        rw [ht'] at hcn hpt hct
        have htk1 := cntL_take_le l (i + 1)
        obtain ⟨A', c', hC2, _⟩ := hkl.out
        obtain ⟨n', hn'⟩ : ∃ n', t'.l.length = n' := ⟨_, rfl⟩
        rw [hn'] at hC2
        subst hC2
        have hbw := HBW.out wr v' hp.out
        have hr2 := hr.below hbw hb
        have r0 := hr2.k
        have r1 := hr2.g
        have r2 := hr2.n
        have r3 := hr2.s
        have r4 := hr2.l
        have HI := Lib.hid (fun o : Obj => ih t' (.slice A' n' c') (L ++ evOf t :: evsL (l.take i)) m v' (wr.alloc o) (by omega) hm.out (by omega) (hbw.alloc hbw.size o) hkl (hO.out.alloc o))
        have HPT : Hid (L ++ evOf t :: evsL (l.take i) ++ evs t' = L ++ evOf t :: evsL (l.take (i + 1))) := Lib.hid (by rw [hpt]; simp)
        unfold ApAns vv at HI
        rw [HPT.out] at HI
        clear hr hr2 hkl hrow hkid ht' hC' hn' hcn hpt hct ih hmb htk htk1 hbw
        go_wp2_with fail
        refine (HI.out _).mono ?_
        rintro e w2 ⟨v2, rfl, hown2, hg2, hat2⟩
        have hp2 := Lib.hid ((hp.out.alloc _).step hg2 hat2)
        have hO2 := Lib.hid hown2
        clear hown2 hg2 hat2 r0 r1 r2 r3 r4 HI
        go_wp2_with fail
        go_roundw
        case rel => exact ⟨i + 1, _, v2, hlt, rfl, by go_num, Lib.hid rfl, hO2, hp2⟩
        case measure => simp [intOf]; omega
      · obtain rfl : i = l.length := by omega
        have hO4 := hO
        have hm4 := hm
        rw [List.take_length] at hO4 hm4
        have h0 : wr.cell? ⟨w.heap.size, 0, none⟩ = some (.int .i64 t.k) := hp.out.b.cell 0
        obtain ⟨k, hkk⟩ : ∃ k, t.k = k := ⟨_, rfl⟩
        rw [hkk] at h0 HP
        have hnm : (m + 1) * 40 ≤ 140737488355328 := by omega
        have hnm2 : m + 1 ≤ maxLen := by unfold maxLen; omega
        have hsz : w0.heap.size ≤ wr.heap.size := (HBW.out wr v' hp.out).size
        have HPA := Lib.hid hp.out.g
        have HPO : Hid (v'.ownBlock = v.ownBlock ∨ ∃ k, v'.ownBlock = some k ∧ w.heap.size ≤ k) := Lib.hid (hp.out.o.imp id fun ⟨k, h1, h2⟩ => ⟨k, h1, Nat.le_of_lt h2⟩)
        by_cases k11 : k = 11 ∨ k = 12
        · have HQ : Hid (L ++ evs t = L ++ evOf t :: evsL l ++ [evEnd]) := Lib.hid (by rw [HP.out, if_pos k11]; simp)
          have FIN : Hid (∀ (W : World) (v3 : Value), W.ownsRow w0.heap.size 31 4 v3 (m + 1) (evL (L ++ evOf t :: evsL l) ++ evL [evEnd]) → W.ownsRow w0.heap.size 31 4 v3 (L ++ evs t).length (evL (L ++ evs t))) := Lib.hid fun W v3 ho => by
            rw [← evL_app, ← HQ.out] at ho
            have e : m + 1 = (L ++ evs t).length := by rw [HQ.out, hm4.out]; simp; omega
            rw [e] at ho
            exact ho
          clear hkk HP HQ hm4 hm hmb htk hA hlc ih hN hcm hll hel
          rcases k11 with rfl | rfl
          all_goals
            go_wp2_with (at_builtin; refine wpList_append_own_at _ rfl (.tmp 35) (.tmp 37) 22 rfl w0.heap.size 31 i0 _ 4 40 Try.underlying22 hi0 hz0 hz1 hz2 rfl (by decide) v' m _ rfl (hO4.out.alloc _) ⟨wr.heap.size, 0, none⟩ 1 1 (evL [evEnd]) rfl rfl (evEnd_news _) (evL_one _) hnm2 hnm (by simp; omega) ?_; intro v3 w3 hown3 hg3 _ hat3)
            have HF := Lib.hid (FIN.out _ _ hown3)
            have HA3 := Lib.hid ((hp.out.alloc _).step hg3 (hat3.imp id fun h => ⟨_, h, Nat.le_refl _⟩))
            clear hown3 hg3 hat3
            go_wp2_with fail
            go_ret
            exact ⟨v3, rfl, HF.out, HA3.out.g, HA3.out.o.imp id fun ⟨k, h1, h2⟩ => ⟨k, h1, Nat.le_of_lt h2⟩⟩
        · have HF : Hid (wr.ownsRow w0.heap.size 31 4 v' (L ++ evs t).length (evL (L ++ evs t))) := Lib.hid (by
            have e : L ++ evs t = L ++ evOf t :: evsL l := by rw [HP.out, if_neg k11, List.append_nil]
            rw [e, ← hm4.out]
            exact hO4.out)
          have a1 : (k == 11) = false := by simp; omega
          have a2 : (k == 12) = false := by simp; omega
          clear hkk HP hm4 hm hmb htk hA hlc ih hN hcm hll hel k11
          go_wp2_with fail
          go_ret
          exact ⟨v', rfl, HF.out, HPA.out, HPO.out⟩
end Go.Proofs.Yteebokhpoppgeaa.nn
namespace Go.Proofs.Yteebokhpoppgeaa.nn
open Go.RowKit

set_option maxRecDepth 100000 in
set_option maxHeartbeats 1000000 in
theorem vevents_any (t : VT) (C : Value) (w : World) (hN : cnt t ≤ 1099511627776) (hS : smx t ≤ maxLen) (hC : Lst w C t.l) (hwf : wfT t) :
    Calls Try.prog 26 #[vv t C] w (EEAns t w) := by
  have HB0 := Lib.hid (Box.new w t C 36)
  have HC : Hid (∀ W, Box w t C W → Calls Try.prog 37 #[vv t C] W fun e w' => e = .returned (.int .i64 (chk t : Int)) ∧ Box w t C w') := Lib.hid fun W hW =>
    (vcheck_any t C W hN hS (hC.keep hW.b (Nat.le_refl _)) hwf).mono fun e w' ⟨he, hb⟩ => ⟨he, hW.on hb⟩
  have HE : Hid (∀ W, chk t = 0 → Box w t C W → Calls Try.prog 38 #[.slice none 0 0, vv t C] W (EvAns t W)) := Lib.hid fun W h0 hW =>
    (app_any W 65536 t C [] 0 (.slice none 0 0) W (chk_cnt h0).1 rfl (by have := (chk_cnt h0).1; omega) (Below.refl _ _) (hC.keep hW.b (Nat.le_refl _)) (World.ownsRow_nil _ _ _ _)).mono fun e w' ⟨v', he, h1, h2, _⟩ => by
      rw [List.nil_append] at h1
      obtain ⟨A, c, rfl, q1, q2, q3⟩ := RdE.of_own rfl h1
      exact ⟨A, c, he, q1, q2, q3, (Below.refl _ _).grown h2 (Nat.le_refl _) fun k hk => by simp [Value.ownBlock] at hk⟩
  have HL : Hid (chk t = 0 → evA t = evs t) := Lib.hid fun h => by unfold evA; rw [if_pos h]
  have HL2 : Hid (chk t ≠ 0 → evA t = []) := Lib.hid fun h => by unfold evA; rw [if_neg h]
  unfold EEAns
  obtain ⟨L, hL⟩ : ∃ L, evA t = L := ⟨_, rfl⟩
  obtain ⟨c, hc⟩ : ∃ c, chk t = c := ⟨_, rfl⟩
  rw [hL] at HL HL2 ⊢
  rw [hc] at HC HE HL HL2 ⊢
  unfold EvAns at HE
  unfold vv at HC HE ⊢
  clear hL hc hN hS hC hwf
  go_enter Try.func26, Try.ntmps26
  go_wp2_with fail
  refine (HC.out _ HB0.out).mono ?_
  rintro e w2 ⟨rfl, hk⟩
  have h0 := hk.r.k
  have h1 := hk.r.g
  have h2 := hk.r.n
  have h3 := hk.r.s
  have h4 := hk.r.l
  have HK := Lib.hid hk
  clear hk
  by_cases hc0 : c = 0
  · subst hc0
    have HL3 := Lib.hid (HL.out rfl)
    clear HL HL2
    go_wp2_with fail
    refine (HE.out _ (by trivial) HK.out).mono ?_
    rintro e w3 ⟨A, c, rfl, q1, q2, q3, hb⟩
    have HB3 := Lib.hid (HK.out.on hb).b
    have HQ := Lib.hid (And.intro q1 (And.intro q2 q3))
    rw [← HL3.out] at HQ ⊢
    clear q1 q2 q3 hb h0 h1 h2 h3 h4
    go_wp2_with fail
    exact bodyPost_ret (by simp [results, Try.results26, go_sem]) rfl ⟨A, c, rfl, HQ.out.1, HQ.out.2.1, HQ.out.2.2, HB3.out⟩
  · obtain rfl := HL2.out hc0
    have hcn : ((c : Int) == 0) = false := by simp [hc0]
    have HB3 := Lib.hid HK.out.b
    clear HL HL2
    go_wp2_with fail
    exact bodyPost_ret (by simp [results, Try.results26, go_sem]) rfl ⟨none, 0, rfl, Nat.le_refl _, by unfold maxLen; omega, fun h => absurd rfl h, HB3.out⟩
end Go.Proofs.Yteebokhpoppgeaa.nn
namespace Go.Proofs.Yteebokhpoppgeaa.nn
open Go.RowKit

theorem list_k : chk (.mk 11 false 0 ⟨#[]⟩ []) = 0 ∧ (evs (.mk 11 false 0 ⟨#[]⟩ [])).length = 2 := ⟨by decide +kernel, rfl⟩
set_option maxRecDepth 100000 in
theorem awake9 (w : World) : Calls Try.prog 13 #[] w fun e w' => e = .returned (.bool true) ∧ Below w.heap.size w w' := by
  have hC := vevents_any (.mk 11 false 0 ⟨#[]⟩ []) (.slice none 0 0) w (by decide) (by decide) .nil_ ⟨by decide, by decide, by decide, trivial⟩
  unfold EEAns at hC
  obtain ⟨h1, h2⟩ := list_k
  unfold evA at hC
  rw [if_pos h1, h1, h2] at hC
  have HC : Hid (Calls Try.prog 26 #[.agg #[.int .i64 11, .bool false, .int .u64 0, .string ⟨#[]⟩, .slice none 0 0]] w fun e w' => ∃ (A : Option Addr) (c : Nat), e = .returned (.tuple #[.slice A 2 c, .int .i64 0]) ∧ Below w.heap.size w w') := Lib.hid (hC.mono fun e w' ⟨A, c, he, _, _, _, hb⟩ => ⟨A, c, he, hb⟩)
  clear hC h1 h2
  go_enter Try.func13, Try.ntmps13
  go_wp2_with fail
  refine HC.out.mono ?_
  rintro e w' ⟨A, c, rfl, hb⟩
  have HB := Lib.hid hb
  clear hb
  go_wp2_with fail
  go_ret
  exact ⟨rfl, HB.out⟩
end Go.Proofs.Yteebokhpoppgeaa.nn
