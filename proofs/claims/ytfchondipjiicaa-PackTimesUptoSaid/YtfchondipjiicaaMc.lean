/- Joined texts, what is wanted of them: GoA, GoB, Go, GoC, VaCount, VaFields, Fb, RefClass, RefJoin, RefWiden, Shape, RefNarrow, RefInt, FbNum, Shape2, Shape4, Shape5, Shape6, VaRight, VaWithin, VaIs, VaDepth. -/
import Derived.Below
import Derived.Laws.OwnMore
import Derived.Deep.AppendLies
import Derived.Deep.Draws
import Derived.Maps.AppendAt
import Derived.RegionTactic
import Derived.OwnWalk
import Derived.Deep.RegionLaw
import Derived.WalkKit
import Derived.Test.YtfchondipjiicaaProg
import Derived.Laws.BytesArg
import Derived.Lib.UnsafeStr
import Derived.Lib.AppendStr
import Derived.Lib.Hide
import Derived.Lib.MinMax
import Derived.Deep.QuietTactic
import Derived.BigQuiet
import Derived.IntWalk
import Derived.Laws.Rows
import Derived.WalkSpells
import Derived.Deep.RegionHeld3
import Derived.Laws.BitsAllLaws
import Derived.Test.YtfchondipjiicaaShelf
import Derived.Deep.RegionWith
import Derived.Lib.BitFns
import Derived.Deep.CutBlock
import Derived.Deep.DeepCutAuto
import Derived.KernelRfl
import Derived.Deep.WholeRow
import Derived.Great.Walk
import Derived.StillTailTactics
import Derived.Lib.Builder
import Derived.Shelf.RegionOpen
import Derived.RowKit
import Derived.Laws.AppendOwn
import Derived.RangeFuncNested
import Derived.RangeFuncBound
import Derived.RangeFuncCalls
import Derived.RangeFuncLeaves
import Derived.Shelf.Abstract
import Derived.OwnWalkIn
import Derived.TacticsInMore
import Derived.Test.YtfchondipjiicaaRows
import Derived.ProofKit
import Derived.SizedLaws
import Derived.ChangeMaps5
import Derived.Deep.Slices
import Derived.Deep.Fields
import Derived.Test.YtfchondipjiicaaMb
namespace Go.Proofs.Ytfchondipjiicaa.nn
open Go.RowKit

mutual
/-- all values and their paths, each ahead of those within it -/
def rws : List Nat → VT → List (List Nat × VT) | zs, .mk k g n s l => (zs, .mk k g n s l) :: rwsL zs 0 l
def rwsL : List Nat → Nat → List VT → List (List Nat × VT) | _, _, [] => [] | zs, i, t :: r => rws (zs ++ [i]) t ++ rwsL zs (i + 1) r
end
theorem rws_mk (zs : List Nat) (t : VT) : rws zs t = (zs, t) :: rwsL zs 0 t.l := by cases t; rfl
theorem rwsL_app (zs : List Nat) (a b : List VT) (i : Nat) : rwsL zs i (a ++ b) = rwsL zs i a ++ rwsL zs (i + a.length) b := by
  induction a generalizing i with
  | nil => simp [rwsL]
  | cons t r ih => simp only [List.cons_append, rwsL, ih, List.length_cons, List.append_assoc, Nat.add_assoc, Nat.add_comm 1]
theorem rwsL_take (zs : List Nat) {l : List VT} {i : Nat} (h : i < l.length) : rwsL zs 0 (l.take (i + 1)) = rwsL zs 0 (l.take i) ++ rws (zs ++ [i]) l[i] := by
  rw [List.take_succ_eq_append_getElem h, rwsL_app]
  simp [rwsL, Nat.min_eq_left (Nat.le_of_lt h)]
theorem rwsL_cut (zs : List Nat) {l : List VT} {i : Nat} (h : i < l.length) : rwsL zs 0 l = rwsL zs 0 (l.take i) ++ rws (zs ++ [i]) l[i] ++ rwsL zs (i + 1) (l.drop (i + 1)) := by
  rw [← rwsL_take zs h]
  conv => lhs; rw [← List.take_append_drop (i + 1) l]
  rw [rwsL_app, List.length_take, Nat.zero_add, Nat.min_eq_left (by omega)]
mutual
theorem rws_len : ∀ (zs : List Nat) (t : VT), (rws zs t).length = cnt t
  | zs, .mk _ _ _ _ l => by have := rwsL_len zs 0 l; simp only [rws, cnt, List.length_cons]; omega
theorem rwsL_len : ∀ (zs : List Nat) (i : Nat) (l : List VT), (rwsL zs i l).length = cntL l
  | _, _, [] => rfl
  | zs, i, t :: r => by have h1 := rws_len (zs ++ [i]) t; have h2 := rwsL_len zs (i + 1) r; simp only [rwsL, cntL, List.length_append]; omega
end
/-- places as values -/
def ivs (zs : List Nat) : List Value := zs.map fun (j : Nat) => Value.int .i64 (j : Int)
theorem ivs_snoc (zs : List Nat) (i : Nat) : ivs (zs ++ [i]) = ivs zs ++ [.int .i64 (i : Int)] := by simp [ivs]
theorem ivs_len (zs : List Nat) : (ivs zs).length = zs.length := by simp [ivs]
/-- a path lies in memory, and may be appended to -/
def Pa (w : World) (v : Value) (zs : List Nat) : Prop := w.ownsRow 0 3 1 v zs.length (ivs zs)
theorem Pa.nil_ (w : World) : Pa w (.slice none 0 0) [] := World.ownsRow_nil _ _ _ _
theorem Pa.low {w : World} {g n m c : Nat} {xs ys : List Value} (h : w.ownsRow 0 3 1 (.slice (some ⟨g, 0, none⟩) m c) m ys) (hn : n ≤ m) (hx : xs = ys.take n) : w.ownsRow 0 3 1 (.slice (some ⟨g, 0, none⟩) n c) n xs := by
  have hl := h.1
  refine ⟨by rw [hx, List.length_take]; omega, ?_⟩
  rcases h.2 with ⟨h5, _⟩ | ⟨g', cap, cur, e, hb, hg, hc, hm, hs, ht⟩
  · cases h5
  · injection e with e1 e2 e3
    injection e1 with e1
    injection e1 with e1
    subst e1 e3
    refine .inr ⟨g, c, cur, rfl, hb, hg, by omega, hm, hs, ?_⟩
    rw [hx, ← ht, List.take_take, Nat.mul_one, Nat.mul_one, Nat.min_eq_left hn]
theorem Pa.same {w w' : World} {v : Value} {zs : List Nat} (h : Pa w v zs) (hb : ∀ b, v.ownBlock = some b → w'.heap[b]? = w.heap[b]?) : Pa w' v zs := by
  refine ⟨h.1, ?_⟩
  rcases h.2 with h5 | ⟨g, cap, cur, rfl, hb', hg, h6⟩
  · exact .inl h5
  · exact .inr ⟨g, cap, cur, rfl, hb', (hb g rfl).trans hg, h6⟩
/-- one place more: in its block, or in a new one -/
structure Pu (w : World) (v : Value) (zs : List Nat) (i g cap : Nat) (w' : World) : Prop where
  own : Pa w' (.slice (some ⟨g, 0, none⟩) (zs.length + 1) cap) (zs ++ [i])
  grow : w.grownBy w' v.ownBlock
  back : v = .slice (some ⟨g, 0, none⟩) zs.length cap ∨ (g = w.heap.size ∧ w.grownBy w' none)
theorem info_int3 : (Try.prog.info? 3).map (fun i => (i.zero, i.size, i.bytes)) = some (some (.int .i64 0), 1, 8) := by kernel_rfl
theorem run_path (w : World) (ty : TypeId) (v : Value) (zs : List Nat) (hown : Pa w v zs) (b c i : Nat) (hc : w.cell? ⟨b, 0, none⟩ = some (.int .i64 (i : Int))) (hz : zs.length + 1 ≤ 1099511627776) :
    ∃ g cap w', (Builtin.append_ #[55, 55] ty #[v, .slice (some ⟨b, 0, none⟩) 1 c]).run Try.prog w = .ok (.slice (some ⟨g, 0, none⟩) (zs.length + 1) cap) w' ∧ Pu w v zs i g cap w' := by
  obtain ⟨i0, hi, hz0, hz1, hz2⟩ : ∃ i0, Try.prog.info? 3 = some i0 ∧ i0.zero = some (.int .i64 0) ∧ i0.size = 1 ∧ i0.bytes = 8 := info_parts info_int3
  have hnews : ∀ j u, [Value.int .i64 (i : Int)][j]? = some u → w.cell? ((⟨b, 0, none⟩ : Addr).add j) = some u := by
    intro j u hu
    cases j with
    | zero =>
      have : u = .int .i64 (i : Int) := by simpa using hu.symm
      subst this
      simpa [Addr.add] using hc
    | succ j => simp at hu
  obtain ⟨v', w', hr, ho, hg, _⟩ := run_append_own (P := Try.prog) w 0 55 ty 3 i0 (.int .i64 0) 1 8 Try.underlying55 hi hz0 hz1 hz2 rfl (by decide) v zs.length (ivs zs) hown ⟨b, 0, none⟩ 1 c [.int .i64 (i : Int)] rfl hnews
    (fun u hu => by simp at hu; subst hu; rfl) (by unfold maxLen; omega) (by omega) (Nat.zero_le _)
  have hsn : ivs (zs ++ [i]) = ivs zs ++ [.int .i64 (i : Int)] := ivs_snoc zs i
  have hln : (zs ++ [i]).length = zs.length + 1 := by simp
  rcases hown.2 with ⟨rfl, h0⟩ | ⟨g, cap, cur, rfl, _, hgg, hcc, _, hcs, htk⟩
  · have h2 := run_append_nil (P := Try.prog) w 55 ty 3 i0 (.int .i64 0) Try.underlying55 hi hz0 ⟨b, 0, none⟩ 1 c [.int .i64 (i : Int)] (by rw [hz1]; rfl) hnews (by omega) (by omega) (by rw [hz2]; omega)
    rw [hr] at h2
    injection h2 with h2 h3
    subst h2 h3
    rw [h0] at ho ⊢
    refine ⟨_, _, _, hr, by unfold Pa; rw [hln, h0, hsn]; exact ho, hg, .inr ⟨rfl, hg⟩⟩
  · by_cases hroom : zs.length + 1 ≤ cap
    · have h2 := run_append_room (P := Try.prog) w 55 ty 3 i0 Try.underlying55 hi g zs.length cap cur hgg ⟨b, 0, none⟩ 1 c [.int .i64 (i : Int)] (by rw [hz1]; rfl) hnews (fun u hu => by simp at hu; subst hu; rfl) hroom (by rw [hz1]; simp; omega)
      rw [hr] at h2
      injection h2 with h2 h3
      subst h2
      refine ⟨_, _, _, hr, by unfold Pa; rw [hln, hsn]; exact ho, hg, .inl rfl⟩
    · have holds := hown.cells (g := g) rfl
      have h2 := run_append_grow (P := Try.prog) w 55 ty 3 i0 (.int .i64 0) Try.underlying55 hi hz0 ⟨g, 0, none⟩ zs.length cap (ivs zs) (by rw [hz1, ivs_len]; omega) holds ⟨b, 0, none⟩ 1 c [.int .i64 (i : Int)] (by rw [hz1]; rfl) hnews (by omega) (by omega) (growslice_fits (by omega) (by rw [hz2]; omega))
      rw [hr] at h2
      injection h2 with h2 h3
      subst h2 h3
      exact ⟨_, _, _, hr, by unfold Pa; rw [hln, hsn]; exact ho, hg, .inr ⟨rfl, ⟨rfl, rfl, rfl, by simp, fun k hk _ => Below.heap_alloc w.drew _ k hk⟩⟩⟩
theorem step_path {ops : Array Oper} {o : Oper} {a : Act} {w : World} {K : Act → World → Prop} {Q : Exit → Act → World → Prop} {E : Prop} (hgd : o.guard = none) (s x : Operand)
    (ho : o.op = .call { callee := .builtin .append, args := #[s, x], argTypes := #[55, 55] })
    (v : Value) (zs : List Nat) (hs : a.eval s = v) (hown : Pa w v zs) (b c i : Nat) (hx : a.eval x = .slice (some ⟨b, 0, none⟩) 1 c) (hc : w.cell? ⟨b, 0, none⟩ = some (.int .i64 (i : Int))) (hz : zs.length + 1 ≤ 1099511627776)
    (h : ∀ g cap w', Pu w v zs i g cap w' → K (a.put o.dst (.slice (some ⟨g, 0, none⟩) (zs.length + 1) cap)) w') :
    if Region.wanted o (yielded ops a.tmps) = true then Oper.wp Try.prog o a w K Q else E := by
  have hw : Region.wanted o (yielded ops a.tmps) = true := by simp [Region.wanted, hgd]
  rw [if_pos hw]
  obtain ⟨g, cap, w', hr, hp⟩ := run_path w o.type v zs hown b c i hc hz
  unfold Oper.wp execOp
  simp only [ho, resolve, invoke, builtin, Sem.run_bind, Sem.run_pure, Result.andThen_ok, List.map_toArray, List.map_cons, List.map_nil, hs, hx, hr]
  exact h _ _ _ hp
end Go.Proofs.Ytfchondipjiicaa.nn
namespace Go.Proofs.Ytfchondipjiicaa.nn
open Go.RowKit

/-- what a round is told -/
def PArg (w0 : World) (x : List Nat × VT) (O : Nat → Prop) (W : World) (args : Array Value) : Prop := ∃ v C, args = #[v, vv x.2 C] ∧ Pa W v x.1 ∧ (∀ b, v.ownBlock = some b → O b) ∧ Lst w0 C x.2.l
/-- what a call keeps: one's own blocks, but for the path's -/
structure Gk (n₀ : Nat) (own : Option Nat) (O : Nat → Prop) (W : World) (O' : Nat → Prop) (W' : World) : Prop where
  more : ∀ b, O b → O' b
  new : ∀ b, O' b → O b ∨ (W.heap.size ≤ b ∧ b < W'.heap.size)
  b : Below n₀ W W'
  same : ∀ b, O b → some b ≠ own → W'.heap[b]? = W.heap[b]?
/-- what is so between two children -/
structure Li (w0 : World) (M : Nat) (J : List (List Nat × VT) → (Nat → Prop) → World → Prop) (own : Option Nat) (O1 : Nat → Prop) (W1 : World) (v : Value) (zs : List Nat) (pre : List (List Nat × VT)) (W : World) : Prop where
  e : ∃ O, J pre O W ∧ Wb M O W ∧ Gk w0.heap.size own O1 W1 O W ∧ Pa W v zs
section
variable {w0 : World} {l M : Nat} {J : List (List Nat × VT) → (Nat → Prop) → World → Prop} {Jx : List (List Nat × VT) → World → Prop} {xs : List (List Nat × VT)}
/-- what goOver answers -/
def GoAns (w0 : World) (M : Nat) (J : List (List Nat × VT) → (Nat → Prop) → World → Prop) (Jx : List (List Nat × VT) → World → Prop) (t : VT) (zs : List Nat) (v : Value) (pre : List (List Nat × VT)) (O : Nat → Prop) (W : World) (e : Ending) (W' : World) : Prop :=
  ∃ r : Bool, e = .returned (.bool r) ∧ (r = true → Li w0 M J v.ownBlock O W v zs (pre ++ rws zs t) W') ∧ (r = false → ∃ p, (∃ q, rws zs t = p ++ q) ∧ Jx (pre ++ p) W')
theorem mv_below {O : Nat → Prop} {W W' : World} (h : Below W.heap.size W W') : Mv No O W (fun b => O b ∨ (W.heap.size ≤ b ∧ b < W'.heap.size)) W' :=
  ⟨h.os, h.tape, h.output, h.size, fun _ h => .inl h, fun _ h => h, fun b hb _ _ => h.block b hb⟩
/-- the child, entered -/
theorem child_in (hM : w0.heap.size ≤ M)
    (hJ : ∀ pre O W1 O' W2, J pre O W1 → Wb M O W1 → Mv No O W1 O' W2 → J pre O' W2)
    {t : VT} {zs : List Nat} {v : Value} {i g cap : Nat} {pre pre' : List (List Nat × VT)} {O1 : Nat → Prop} {W1 wr W5 w6 : World}
    (hLi : Li w0 M J v.ownBlock O1 W1 v zs pre' wr) (_ : Wb M O1 W1) (hM1 : M ≤ W1.heap.size) (hv : ∀ b, v.ownBlock = some b → O1 b) (h5 : Below wr.heap.size wr W5) (hp : Pu W5 v zs i g cap w6)
    (hi : t.l.length > i) (hpre : pre' = pre ++ (zs, t) :: rwsL zs 0 (t.l.take i)) :
    ∃ O6, J pre' O6 w6 ∧ Wb M O6 w6 ∧ M ≤ w6.heap.size ∧ Below w0.heap.size W1 w6 ∧ (∀ b, (Value.slice (some ⟨g, 0, none⟩) (zs.length + 1) cap).ownBlock = some b → O6 b) ∧
      (∀ e W7, GoAns w0 M J Jx t.l[i] (zs ++ [i]) (.slice (some ⟨g, 0, none⟩) (zs.length + 1) cap) pre' O6 w6 e W7 →
        ∃ r : Bool, e = .returned (.bool r) ∧ (r = true → Li w0 M J v.ownBlock O1 W1 v zs (pre ++ (zs, t) :: rwsL zs 0 (t.l.take (i + 1))) W7) ∧ (r = false → ∃ p, (∃ q, rws zs t = p ++ q) ∧ Jx (pre ++ p) W7)) := by
  obtain ⟨Or, hj, hbr, hgk, hpa⟩ := hLi.e
  have hMr : M ≤ wr.heap.size := Nat.le_trans hM1 hgk.b.size
  have hor : ∀ b, v.ownBlock = some b → b < wr.heap.size ∧ M ≤ b ∧ Or b := fun b hb => by
    have := hgk.more b (hv b hb)
    exact ⟨(hbr b this).2, (hbr b this).1, this⟩
  have m5 := mv_below (O := Or) h5
  have m6 : Mv No (fun b => Or b ∨ (wr.heap.size ≤ b ∧ b < W5.heap.size)) W5 (fun b => (Or b ∨ (wr.heap.size ≤ b ∧ b < W5.heap.size)) ∨ (W5.heap.size ≤ b ∧ b < w6.heap.size)) w6 :=
    Mv.grown hp.grow fun k hk => .inl (hor k hk).2.2
  have m := m5.trans m6
  have hz6 : W5.heap.size ≤ w6.heap.size := hp.grow.size
  have hbel : Below w0.heap.size wr w6 := (h5.mono (by omega)).grown hp.grow (by have := h5.size; omega) fun k hk => by have := hor k hk; omega
  have hown := hp.own.lt (w := w6)
  have hgl : g < w6.heap.size := (hp.own.lt g rfl).2
  have hgO : (Or g ∨ (wr.heap.size ≤ g ∧ g < W5.heap.size)) ∨ (W5.heap.size ≤ g ∧ g < w6.heap.size) := by
    rcases hp.back with h | ⟨h, _⟩
    · exact .inl (.inl (hor g (by rw [h]; rfl)).2.2)
    · exact .inr ⟨by omega, hgl⟩
  refine ⟨_, hJ _ _ _ _ _ hj hbr m, m.base hbr hMr, by have := h5.size; omega, hgk.b.trans hbel, fun b hb => ?_, ?_⟩
  · obtain rfl : g = b := by simpa [Value.ownBlock] using hb
    exact hgO
  rintro e W7 ⟨r, rfl, hT, hF⟩
  refine ⟨r, rfl, fun hr => ?_, fun hr => ?_⟩
  · obtain ⟨O7, hj7, hb7, hg7, hp7⟩ := (hT hr).e
    have hsame6 : ∀ b, O1 b → some b ≠ v.ownBlock → w6.heap[b]? = W1.heap[b]? := fun b hb hne => by
      have h1 := (hbr b (hgk.more b hb)).2
      rw [hp.grow.block b (by have := h5.size; omega) hne, h5.block b h1]
      exact hgk.same b hb hne
    have hg1 : ∀ b, O1 b → some b ≠ v.ownBlock → some b ≠ (Value.slice (some ⟨g, 0, none⟩) (zs.length + 1) cap).ownBlock := fun b hb hne => by
      intro h
      obtain rfl : b = g := by simpa [Value.ownBlock] using h
      rcases hp.back with h | ⟨h, _⟩
      · rw [h] at hne; exact hne rfl
      · have h1 := (hbr b (hgk.more b hb)).2
        have := h5.size
        omega
    refine ⟨O7, ?_, hb7, ⟨fun b hb => hg7.more b (m.more b (hgk.more b hb)), fun b hb => ?_, (hgk.b.trans hbel).trans hg7.b, fun b hb hne => ?_⟩, ?_⟩
    · rw [rwsL_take zs hi, ← List.cons_append, ← List.append_assoc, ← hpre]
      exact hj7
    · rcases hg7.new b hb with h | h
      · rcases m.new b h with h | h
        · rcases hgk.new b h with h | h
          · exact .inl h
          · exact .inr ⟨h.1, by have := hbel.size; have := hg7.b.size; omega⟩
        · exact .inr ⟨by have := hgk.b.size; omega, by have := hg7.b.size; omega⟩
      · exact .inr ⟨by have := hgk.b.size; have := hbel.size; omega, h.2⟩
    · rw [hg7.same b (m.more b (hgk.more b hb)) (hg1 b hb hne)]
      exact hsame6 b hb hne
    · rcases hp.back with h | ⟨h, hgr⟩
      · rw [h]
        refine Pa.low (m := (zs ++ [i]).length) (c := cap) (g := g) (ys := ivs (zs ++ [i])) ?_ (by simp) (by rw [ivs_snoc, List.take_append_of_le_length (by rw [ivs_len]; exact Nat.le_refl _), List.take_of_length_le (by rw [ivs_len]; exact Nat.le_refl _)])
        have : (zs ++ [i]).length = zs.length + 1 := by simp
        rw [this]
        have h2 := hp7
        unfold Pa at h2
        rw [this] at h2
        exact h2
      · refine hpa.same fun b hb => ?_
        obtain ⟨h1, _, h3⟩ := hor b hb
        have hne : some b ≠ (Value.slice (some ⟨g, 0, none⟩) (zs.length + 1) cap).ownBlock := by
          intro h9
          obtain rfl : b = g := by simpa [Value.ownBlock] using h9
          have := h5.size
          omega
        rw [hg7.same b (m.more b h3) hne, hgr.block b (by have := h5.size; omega) (by simp), h5.block b h1]
  · obtain ⟨p, ⟨q, hq⟩, hx⟩ := hF hr
    refine ⟨(zs, t) :: rwsL zs 0 (t.l.take i) ++ p, ⟨q ++ rwsL zs (i + 1) (t.l.drop (i + 1)), ?_⟩, ?_⟩
    · rw [rws_mk, rwsL_cut zs hi, hq]
      simp
    · rw [← List.append_assoc, ← hpre]
      exact hx
end
end Go.Proofs.Ytfchondipjiicaa.nn
namespace Go.Proofs.Ytfchondipjiicaa.nn
open Go.RowKit

attribute [local go_sem] Oper.semAt_some
set_option maxRecDepth 100000 in
set_option maxHeartbeats 2000000 in
theorem go_any (w0 : World) (l M : Nat) (J : List (List Nat × VT) → (Nat → Prop) → World → Prop) (Jx : List (List Nat × VT) → World → Prop) (xs : List (List Nat × VT)) (hM : w0.heap.size ≤ M)
    (hJ : ∀ pre O W1 O' W2, J pre O W1 → Wb M O W1 → Mv No O W1 O' W2 → J pre O' W2)
    (_hJx : ∀ pre W1 O' W2, Jx pre W1 → Mv No No W1 O' W2 → Jx pre W2)
    (hY : ∀ m pre x O W1 args, J pre O W1 → Wb M O W1 → PArg w0 x O W1 args → (∃ q, xs = pre ++ x :: q) → YieldAt Fence.wide m Try.prog l args W1 fun e W2 =>
      (e = .returned (.bool true) ∧ J (pre ++ [x]) O W2 ∧ Kr w0.heap.size O W1 W2) ∨ (e = .returned (.bool false) ∧ Jx (pre ++ [x]) W2)) (N : Nat) :
    ∀ (t : VT) (zs : List Nat) (v C : Value) (pre : List (List Nat × VT)) (O : Nat → Prop) (W : World), cnt t ≤ N → zs.length + cnt t ≤ 1099511627776 → J pre O W → Wb M O W → M ≤ W.heap.size → Below w0.heap.size w0 W → Lst w0 C t.l → Pa W v zs →
      (∀ b, v.ownBlock = some b → O b) → (∃ q, xs = pre ++ (rws zs t ++ q)) →
      Calls Try.prog 39 #[v, vv t C, .func (.yield l) #[] #[]] W (GoAns w0 M J Jx t zs v pre O W) := by
  induction N with
  | zero => intro t zs v C pre O W h; have := cnt_mk t; omega
  | succ N ih =>
    intro t zs v C pre O W hN hZ hj hbs hMW hbw hC hpa hvO hxs
    have HC := Lib.hid hC
    obtain ⟨A, c, rfl, hlc, hA⟩ := hC.out
    have hcm := cnt_mk t
    have hll := len_cntL t.l
    obtain ⟨W1, hW1⟩ : ∃ W1, W.alloc (.cells #[.int .i64 t.k, .bool t.g, .int .u64 (t.n : Int), .string t.s, .slice A t.l.length c] 25) = W1 := ⟨_, rfl⟩
    obtain ⟨O1, hO1⟩ : ∃ O1 : Nat → Prop, O1 = fun b => O b ∨ b = W.heap.size := ⟨_, rfl⟩
    have hm1 : Mv No O W O1 W1 := by rw [← hW1, hO1]; exact Mv.alloc _ _ _ _
    have hj1 : J pre O1 W1 := hJ _ _ _ _ _ hj hbs hm1
    have hbs1 : Wb M O1 W1 := hm1.base hbs hMW
    have hMW1 : M ≤ W1.heap.size := Nat.le_trans hMW hm1.size
    have hB1 : Below W.heap.size W W1 := by rw [← hW1]; exact (Below.refl _ _).alloc (Nat.le_refl _) _
    have hbw1 : Below w0.heap.size w0 W1 := hbw.trans (hB1.mono (by omega))
    have hpa1 : Pa W1 v zs := hpa.same fun b hb => hB1.block b (hbs b (hvO b hb)).2
    have hvO1 : ∀ b, v.ownBlock = some b → O1 b := fun b hb => hm1.more b (hvO b hb)
    have hOb : O1 W.heap.size := by rw [hO1]; exact .inr rfl
    have hbv : some W.heap.size ≠ v.ownBlock := fun h => by have := (hbs _ (hvO _ h.symm)).2; omega
    have hcb1 : ∀ W' : World, W'.heap[W.heap.size]? = W1.heap[W.heap.size]? → W'.cell? ⟨W.heap.size, 4, none⟩ = some (.slice A t.l.length c) := fun W' h => by
      have h2 : W1.cell? ⟨W.heap.size, 4, none⟩ = some (.slice A t.l.length c) := by rw [← hW1]; simp
      rw [← h2]
      exact World.cell?_of_block h
    have hy0 := hY 2 pre (zs, t) O1 W1 #[v, vv t (.slice A t.l.length c)] hj1 hbs1 ⟨v, _, rfl, hpa1, hvO1, HC.out⟩ (by obtain ⟨q, hq⟩ := hxs; exact ⟨rwsL zs 0 t.l ++ q, by rw [hq, rws_mk]; simp⟩)
    obtain ⟨fn, tmps, assign, body, hy, hR⟩ := hy0
    have HR := Lib.hid hR
    have HK := Lib.hid (And.intro hcb1 (And.intro hbv (And.intro hOb (And.intro hbs1 (And.intro hMW1 (And.intro hvO1 (And.intro hB1 hbw1)))))))
    have HIN : Hid (∀ i, (h : i < t.l.length) → ∀ wr W5 g cap w6, Li w0 M J v.ownBlock O1 W1 v zs (pre ++ (zs, t) :: rwsL zs 0 (t.l.take i)) wr → Below wr.heap.size wr W5 → Pu W5 v zs i g cap w6 → ∀ C', Lst w0 C' t.l[i].l →
        Calls Try.prog 39 #[.slice (some ⟨g, 0, none⟩) (zs.length + 1) cap, vv t.l[i] C', .func (.yield l) #[] #[]] w6 fun e W7 => ∃ r : Bool, e = .returned (.bool r) ∧ (r = true → Li w0 M J v.ownBlock O1 W1 v zs (pre ++ (zs, t) :: rwsL zs 0 (t.l.take (i + 1))) W7) ∧ (r = false → ∃ p, (∃ q, rws zs t = p ++ q) ∧ Jx (pre ++ p) W7)) := Lib.hid fun i h wr W5 g cap w6 hLi h5 hp C' hl' => by
      obtain ⟨O6, hj6, hb6, hM6, hw6, ho6, hout⟩ := child_in (Jx := Jx) hM hJ hLi hbs1 hMW1 hvO1 h5 hp h rfl
      have hc := cnt_at h
      have hlen : (zs ++ [i]).length = zs.length + 1 := by simp
      refine (ih t.l[i] (zs ++ [i]) (.slice (some ⟨g, 0, none⟩) (zs.length + 1) cap) C' _ O6 w6 (by omega) (by rw [hlen]; omega) hj6 hb6 hM6 (hbw1.trans hw6) hl' hp.own ho6 ?_).mono hout
      obtain ⟨q, hq⟩ := hxs
      exact ⟨rwsL zs (i + 1) (t.l.drop (i + 1)) ++ q, by rw [hq, rws_mk, rwsL_cut zs h]; simp⟩
    have HLI0 : Hid (∀ W2, J (pre ++ [(zs, t)]) O1 W2 → Kr w0.heap.size O1 W1 W2 → Li w0 M J v.ownBlock O1 W1 v zs (pre ++ (zs, t) :: rwsL zs 0 (t.l.take 0)) W2) := Lib.hid fun W2 h2 k2 =>
      ⟨⟨O1, by simpa [rwsL] using h2, hbs1.keep k2.b.size, ⟨fun _ h => h, fun _ h => .inl h, k2.b, fun b hb _ => k2.o b hb⟩, hpa1.same fun b hb => k2.o b (hvO1 b hb)⟩⟩
    have HEND : Hid (∀ W', Li w0 M J v.ownBlock O1 W1 v zs (pre ++ (zs, t) :: rwsL zs 0 (t.l.take t.l.length)) W' → Li w0 M J v.ownBlock O W v zs (pre ++ rws zs t) W') := Lib.hid fun W' h => by
      obtain ⟨O', h1, h2, h3, h4⟩ := h.e
      rw [List.take_length] at h1
      refine ⟨⟨O', by rw [rws_mk]; exact h1, h2, ⟨fun b hb => h3.more b (hm1.more b hb), fun b hb => ?_, (hB1.mono (by omega)).trans h3.b, fun b hb hne => ?_⟩, h4⟩⟩
      · rcases h3.new b hb with h | h
        · rw [hO1] at h
          rcases h with h | h
          · exact .inl h
          · exact .inr ⟨by omega, by have := h3.b.size; have := hm1.size; rw [h]; have h5 : W.heap.size < W1.heap.size := by rw [← hW1]; simp
                                     omega⟩
        · exact .inr ⟨by have := hm1.size; omega, h.2⟩
      · rw [h3.same b (hm1.more b hb) hne]
        exact hB1.block b (hbs b hb).2
    have HRW : Hid (rws zs t = [(zs, t)] ++ rwsL zs 0 t.l) := Lib.hid (by rw [rws_mk]; rfl)
    have hzl : zs.length + 1 ≤ 1099511627776 := by omega
    obtain ⟨m, hm⟩ : ∃ m, t.l.length = m := ⟨_, rfl⟩
    have HM := Lib.hid hm
    have hmb : m ≤ 1099511627776 := by omega
    have hAh := Lib.hid hA
    have HPA := Lib.hid hpa1
    clear hxs hj hbs hbs1 hm1 hj1 hpa hpa1 hvO hvO1 hcb1 hbv hOb hB1 hbw1 hC ih hJ _hJx hY hA hR hMW hMW1 hbw hcm hll hN hO1 hlc
    unfold vv at hy ⊢
    rw [hm] at hW1 hy ⊢
    go_enter Try.func39, Try.ntmps39
    go_upto_region 1 with fail
    refine (wpIn_wide (n := 3)).1 ?_
    have c0 : W1.cell? ⟨W.heap.size, 0, none⟩ = some (.int .i64 t.k) := by rw [← hW1]; simp
    have c1 : W1.cell? ⟨W.heap.size, 1, none⟩ = some (.bool t.g) := by rw [← hW1]; simp
    have c2 : W1.cell? ⟨W.heap.size, 2, none⟩ = some (.int .u64 (t.n : Int)) := by rw [← hW1]; simp
    have c3 : W1.cell? ⟨W.heap.size, 3, none⟩ = some (.string t.s) := by rw [← hW1]; simp
    have c4 : W1.cell? ⟨W.heap.size, 4, none⟩ = some (.slice A m c) := by rw [← hW1]; simp
    clear hW1
    gi_wp2
    refine HR.out.mono ?_
    rintro e W2 (⟨rfl, hJ2, hk2⟩ | ⟨rfl, hx2⟩)
    · have HL0 := Lib.hid (HLI0.out W2 hJ2 hk2)
      have h4 := HK.out.1 W2 (hk2.o _ HK.out.2.2.1)
      rw [hm] at h4
      clear hJ2 hk2 c0 c1 c2 c3 c4 HR HLI0 hy
      gi_wp2
      go_wp2_with fail
      go_loopw [17] (fun s17 wr => ∃ i : Nat, i ≤ m ∧ s17 = .int .i64 (i : Int) ∧ Hid (Li w0 M J v.ownBlock O1 W1 v zs (pre ++ (zs, t) :: rwsL zs 0 (t.l.take i)) wr)) (fun s17 _ => m - (intOf s17).toNat)
      case atStart => exact ⟨0, Nat.zero_le _, rfl, HL0⟩
      case round =>
        obtain ⟨i, hi, rfl, hL⟩ := hrel
        by_cases hlt : i < m
        · have hlt2 : i < t.l.length := by rw [hm]; exact hlt
          rcases hAh.out with ⟨_, h0, _⟩ | ⟨b, off, D, rfl, hb, hrow, hkid⟩
          · rw [h0] at hm; exact absurd hm (by simp; omega)
          · have hrw := hrow i hlt2
            have hkl := hkid i hlt2
            have hIN := fun W5 g cap w6 h5 hp => HIN.out i hlt2 wr W5 g cap w6 hL.out h5 hp (D i) hkl
            obtain ⟨t', ht'⟩ : ∃ t', t.l[i] = t' := ⟨_, rfl⟩
            obtain ⟨A', c', hC', _⟩ := hkl.out
            obtain ⟨n', hn'⟩ : ∃ n', t.l[i].l.length = n' := ⟨_, rfl⟩
            rw [hn'] at hC'
            rw [ht', hC'] at hrw
            simp only [ht', hC'] at hIN
            obtain ⟨O2, _, _, hgk, hpw⟩ := hL.out.e
            have hbw := HK.out.2.2.2.2.2.2.2.trans hgk.b
            have hr2 := hrw.below hbw hb
            have r0 := hr2.k
            have r1 := hr2.g
            have r2 := hr2.n
            have r3 := hr2.s
            have r4 := hr2.l
            have HI := Lib.hid hIN
            have hpb : ∀ b, v.ownBlock = some b → b < wr.heap.size := fun b h => (hpw.lt b h).2
            have HPB := Lib.hid hpb
            have HPW : Hid (∀ W5, Below wr.heap.size wr W5 → Pa W5 v zs) := Lib.hid fun W5 h5 => hpw.same fun b h => h5.block b (hpb b h)
            unfold vv at HI
            clear hrow hkid hIN hrw hkl hgk hpw hbw hr2 hpb ht' hC' hn'
            go_wp2_with fail
            go_upto_region 6 with fail
            obtain ⟨W4, hW4⟩ : ∃ W4, wr.alloc (.cells #[.int .i64 t'.k, .bool t'.g, .int .u64 (t'.n : Int), .string t'.s, .slice A' n' c'] 25) = W4 := ⟨_, rfl⟩
            rw [hW4]
            have B4 : Hid (Below wr.heap.size wr W4) := Lib.hid (by rw [← hW4]; exact (Below.refl _ _).alloc (Nat.le_refl _) _)
            have hz4 : wr.heap.size < W4.heap.size := by rw [← hW4]; simp
            have HC4 : Hid (∀ W : World, W.heap[wr.heap.size]? = W4.heap[wr.heap.size]? → W.cell? ⟨wr.heap.size, 0, none⟩ = some (.int .i64 t'.k) ∧ W.cell? ⟨wr.heap.size, 1, none⟩ = some (.bool t'.g) ∧ W.cell? ⟨wr.heap.size, 2, none⟩ = some (.int .u64 (t'.n : Int)) ∧ W.cell? ⟨wr.heap.size, 3, none⟩ = some (.string t'.s) ∧ W.cell? ⟨wr.heap.size, 4, none⟩ = some (.slice A' n' c')) := Lib.hid fun W h => by
              refine ⟨?_, ?_, ?_, ?_, ?_⟩
              all_goals
                rw [World.cell?_of_block (w := W4) (a := ⟨wr.heap.size, _, none⟩) h, ← hW4]
                simp
            have HC5 : Hid (∀ Y, (W4.alloc Y).drew.heap[wr.heap.size]? = W4.heap[wr.heap.size]?) := Lib.hid fun Y => Below.heap_alloc W4 Y _ hz4
            have HB5 : Hid (∀ Y, Below wr.heap.size wr (W4.alloc Y).drew) := Lib.hid fun Y => (B4.out.alloc (Nat.le_of_lt hz4) Y).drew
            have HC6 : Hid (∀ Y g cap w6, Pu (W4.alloc Y).drew v zs i g cap w6 → w6.heap[wr.heap.size]? = W4.heap[wr.heap.size]?) := Lib.hid fun Y g cap w6 hp => by
              rw [hp.grow.block _ (by show wr.heap.size < (W4.alloc Y).heap.size; simp; exact Nat.lt_succ_of_lt hz4) (fun h => by have := HPB.out _ h.symm; omega)]
              exact HC5.out Y
            obtain ⟨d0, d1, d2, d3, d4⟩ := HC4.out W4 rfl
            obtain ⟨e0, e1, e2, e3, e4⟩ := HC4.out _ (HC5.out (.cells #[.int .i64 (i : Int)] 3))
            clear r0 r1 r2 r3 r4 hW4 h4
            go_region_law (first
              | (refine step_path rfl (.tmp 22) (.tmp 24) rfl v zs rfl (HPW.out _ (HB5.out _)) _ _ i rfl ?_ hzl ?_; (first | simp | skip); intro g cap w6 hp6; obtain ⟨f0, f1, f2, f3, f4⟩ := HC4.out _ (HC6.out _ _ _ _ hp6))
              | (go_simp; go_at_call 39; refine (HI.out _ g cap _ (HB5.out _) hp6).mono ?_; rintro e W7 ⟨r, rfl, hT, hF⟩; have HT := Lib.hid hT; have HF := Lib.hid hF; clear hT hF; go_simp))
            all_goals
              clear d0 d1 d2 d3 d4 e0 e1 e2 e3 e4 f0 f1 f2 f3 f4 HC4 HC5 HB5 HC6 hp6 HI
              cases r
              · have hx := HF.out rfl
                go_wp2_with fail
                go_ret
                exact ⟨false, rfl, (fun h => by cases h), fun _ => hx⟩
              · have hl := Lib.hid (HT.out rfl)
                go_wp2_with fail
                go_roundw
                case rel => exact ⟨i + 1, hlt, by go_num, hl⟩
                case measure => simp [intOf]; omega
        · obtain rfl : i = m := by omega
          have HE := Lib.hid (HEND.out wr (by rw [HM.out]; exact hL.out))
          clear hL h4
          go_wp2_with fail
          go_ret
          exact ⟨true, rfl, fun _ => HE.out, fun h => by cases h⟩
    · clear HIN HEND HLI0 HK c0 c1 c2 c3 c4 HR hy
      gi_wp2
      go_wp2_with fail
      go_ret
      exact ⟨false, rfl, (fun h => by cases h), fun _ => ⟨[(zs, t)], ⟨_, HRW.out⟩, hx2⟩⟩
end Go.Proofs.Ytfchondipjiicaa.nn
namespace Go.Proofs.Ytfchondipjiicaa.nn
open Go.RowKit

attribute [local go_sem] Oper.semAt_some
/-- a value's five cells -/
theorem Row.cs5 {W : World} {g : Nat} {t : VT} {C : Value} (h : Row W g 0 t C) : W.cell? ⟨g, 0, none⟩ = some (.int .i64 t.k) ∧ W.cell? ⟨g, 1, none⟩ = some (.bool t.g) ∧ W.cell? ⟨g, 2, none⟩ = some (.int .u64 (t.n : Int)) ∧ W.cell? ⟨g, 3, none⟩ = some (.string t.s) ∧ W.cell? ⟨g, 4, none⟩ = some C := ⟨h.k, h.g, h.n, h.s, h.l⟩
set_option maxRecDepth 100000 in
theorem all_any (t : VT) (C : Value) (w : World) : Calls Try.prog 23 #[vv t C] w fun e w' => e = .returned (.func (.func 38) #[] #[.pointer (some ⟨w.heap.size, 0, none⟩)]) ∧ w' = w.alloc (.cells #[.int .i64 t.k, .bool t.g, .int .u64 (t.n : Int), .string t.s, C] 25) := by
  unfold vv
  go_enter Try.func23, Try.ntmps23
  go_wp2_with fail
  go_ret
  exact ⟨rfl, rfl⟩
set_option maxRecDepth 100000 in
set_option maxHeartbeats 1000000 in
theorem gives_all (w0 : World) (t : VT) (C : Value) (w : World) (Bv : Nat) (hB : Bv < w.heap.size) (hr : Row w Bv 0 t C) (hb : Below w0.heap.size w0 w) (hC : Lst w0 C t.l) (hN : cnt t ≤ 1099511627776) :
    Gives Try.prog 38 #[.pointer (some ⟨Bv, 0, none⟩)] (PArg w0) (rws [] t) w0.heap.size w := by
  intro l M J Jx W hW hM hJ hJx hY h0
  have hM0 : w0.heap.size ≤ M := by rw [hM]; exact Nat.le_trans hb.size hW.size
  have HX := Lib.hid (go_any w0 l M J Jx (rws [] t) hM0 hJ hJx hY (cnt t) t [] (.slice none 0 0) C [] No W (Nat.le_refl _) (by simpa using hN) h0 (Wb.no _ _) (Nat.le_of_eq hM) (hb.trans (hW.mono hb.size)) hC (Pa.nil_ _) (fun b h => by simp [Value.ownBlock] at h) ⟨[], by simp⟩)
  obtain ⟨r0, r1, r2, r3, r4⟩ := (hr.below hW hB).cs5
  clear hJ hJx hY h0 hW hM hM0 hr hb hC
  unfold vv at HX
  show Calls Try.prog 38 #[.func (.yield l) #[] #[], .pointer (some ⟨Bv, 0, none⟩)] W _
  go_enter Try.func38, Try.ntmps38
  go_wp2_with fail
  refine HX.out.mono ?_
  rintro e W2 ⟨r, rfl, hT, hF⟩
  have HT := Lib.hid hT
  have HF := Lib.hid hF
  clear hT hF r0 r1 r2 r3 r4 HX
  go_wp2_with fail
  go_end0
  refine ⟨⟨_, rfl⟩, ?_⟩
  cases r
  · obtain ⟨p, ⟨q, hq⟩, hx⟩ := HF.out rfl
    exact .inr ⟨p, ⟨q, hq⟩, hx⟩
  · obtain ⟨O, hj, hbs, _⟩ := (HT.out rfl).e
    exact .inl ⟨O, hj, hbs⟩
end Go.Proofs.Ytfchondipjiicaa.nn
namespace Go.Proofs.Ytfchondipjiicaa.nn
open Go.RowKit

attribute [local go_sem] Oper.semAt_some
/-- a variable's box holds a number -/
def Nb (W : World) (B : Nat) (m : Nat) : Prop := W.heap[B]? = some (.cells #[.int .i64 (m : Int)] 3 (0, 0))
theorem Nb.cell {W : World} {B m : Nat} (h : Nb W B m) : W.cell? ⟨B, 0, none⟩ = some (.int .i64 (m : Int)) ∧ W.frozen? ⟨B, 0, none⟩ = false := ⟨Boxed.cell h, Boxed.frozen h⟩
theorem args2 {w0 : World} {x : List Nat × VT} {O : Nat → Prop} {W : World} {args : Array Value} (h : PArg w0 x O W args) : args.size = 2 := by obtain ⟨v, C, rfl, _⟩ := h; rfl
theorem mv_box {D B : Nat} {O O' : Nat → Prop} {W W' : World} {o : Obj} (h : W.heap[B]? = some o) (hm : Mv (EE D) O W O' W') (hb : Wb (D + 2) O W) (hB : B < D) : W'.heap[B]? = some o := by
  rw [hm.kept B (Array.getElem?_eq_some_iff.1 h).1 (fun h => by have := (hb _ h).1; omega) (fun h => by rcases h with h | h <;> omega)]
  exact h
theorem mv_below2 {n₀ D : Nat} {O O' : Nat → Prop} {W W' w0 : World} (h : Below n₀ w0 W) (hm : Mv (EE D) O W O' W') (hb : Wb (D + 2) O W) (hn : n₀ ≤ D) (hs : n₀ ≤ w0.heap.size) : Below n₀ w0 W' :=
  h.trans ⟨hm.os, hm.tape, hm.output, hm.size, fun k hk => hm.kept k (Nat.lt_of_lt_of_le hk (Nat.le_trans hs h.size)) (fun h => by have := (hb _ h).1; omega) (fun h => by rcases h with h | h <;> omega)⟩
/-- a store into a box that was made ahead of the loop -/
theorem kr_set {n₀ D B : Nat} {O : Nat → Prop} {W : World} (v : Value) (hb : Wb (D + 2) O W) (hB : B < D) (hn : n₀ ≤ B) : (Kr n₀ O W (W.setCell ⟨B, 0, none⟩ v)) ∧ (W.setCell ⟨B, 0, none⟩ v).heap[D]? = W.heap[D]? ∧ (W.setCell ⟨B, 0, none⟩ v).heap[D + 1]? = W.heap[D + 1]? :=
  ⟨⟨(Below.refl _ _).setCell (p := ⟨B, 0, none⟩) hn _, fun b h => Below.heap_setCell _ _ _ _ (by have := (hb _ h).1; show b ≠ B; omega)⟩, Below.heap_setCell _ _ _ _ (by show D ≠ B; omega), Below.heap_setCell _ _ _ _ (by show D + 1 ≠ B; omega)⟩
end Go.Proofs.Ytfchondipjiicaa.nn
namespace Go.Proofs.Ytfchondipjiicaa.nn
open Go.RowKit Go.Great

/-- which fields a kind has beside K -/
def fdG (k : Nat) : Bool := decide (k = 4 ∨ k = 5)
def fdN (k : Nat) : Bool := decide (k = 1 ∨ k = 3 ∨ k = 4 ∨ k = 6 ∨ k = 7 ∨ k = 8 ∨ k = 13 ∨ k = 14)
def fdS (k : Nat) : Bool := decide (k = 5 ∨ k = 9 ∨ k = 10 ∨ k = 14)
def fdL (k : Nat) : Bool := decide (k = 11 ∨ k = 12 ∨ k = 13)
def ftab : Array Value := #[.bool false, .bool false, .bool false, .bool false, .bool false, .bool true, .bool false, .bool false, .bool false, .bool false, .bool false, .bool false, .bool false, .bool true, .bool false, .bool false, .bool true, .bool true, .bool false, .bool false, .bool true, .bool false, .bool true, .bool false, .bool false, .bool true, .bool false, .bool false, .bool false, .bool true, .bool false, .bool false, .bool false, .bool true, .bool false, .bool false, .bool false, .bool false, .bool true, .bool false, .bool false, .bool false, .bool true, .bool false, .bool false, .bool false, .bool false, .bool true, .bool false, .bool false, .bool false, .bool true, .bool false, .bool true, .bool false, .bool true, .bool false, .bool true, .bool true, .bool false]
def fzer : Array Value := #[.bool false, .bool false, .bool false, .bool false, .bool false, .bool false, .bool false, .bool false, .bool false, .bool false, .bool false, .bool false, .bool false, .bool false, .bool false, .bool false, .bool false, .bool false, .bool false, .bool false, .bool false, .bool false, .bool false, .bool false, .bool false, .bool false, .bool false, .bool false, .bool false, .bool false, .bool false, .bool false, .bool false, .bool false, .bool false, .bool false, .bool false, .bool false, .bool false, .bool false, .bool false, .bool false, .bool false, .bool false, .bool false, .bool false, .bool false, .bool false, .bool false, .bool false, .bool false, .bool false, .bool false, .bool false, .bool false, .bool false, .bool false, .bool false, .bool false, .bool false]
theorem fz1 (w : World) (o : Obj) : (w.alloc o).heap.size = w.heap.size + 1 := by simp
theorem flast2 (w : World) (o o' : Obj) : ((w.alloc o).alloc o').heap[w.heap.size + 1]? = some o' := by
  have := heap_alloc_last (w.alloc o) o'
  simpa using this
theorem fsetRow2 (w : World) (o : Obj) (c c' : Array Value) (t : TypeId) : ((w.alloc o).alloc (.cells c t)).setRow (w.heap.size + 1) c' = (w.alloc o).alloc (.cells c' t) := by
  have := World.setRow_alloc_new (w.alloc o) c c' t
  simpa using this
theorem ftab_at (k : Nat) (h : k < 15) : ftab[k * 4]? = some (.bool (fdG k)) ∧ ftab[k * 4 + 1]? = some (.bool (fdN k)) ∧ ftab[k * 4 + 2]? = some (.bool (fdS k)) ∧ ftab[k * 4 + 3]? = some (.bool (fdL k)) := by
  match k, h with
  | 0, _ => exact ⟨rfl, rfl, rfl, rfl⟩
  | 1, _ => exact ⟨rfl, rfl, rfl, rfl⟩
  | 2, _ => exact ⟨rfl, rfl, rfl, rfl⟩
  | 3, _ => exact ⟨rfl, rfl, rfl, rfl⟩
  | 4, _ => exact ⟨rfl, rfl, rfl, rfl⟩
  | 5, _ => exact ⟨rfl, rfl, rfl, rfl⟩
  | 6, _ => exact ⟨rfl, rfl, rfl, rfl⟩
  | 7, _ => exact ⟨rfl, rfl, rfl, rfl⟩
  | 8, _ => exact ⟨rfl, rfl, rfl, rfl⟩
  | 9, _ => exact ⟨rfl, rfl, rfl, rfl⟩
  | 10, _ => exact ⟨rfl, rfl, rfl, rfl⟩
  | 11, _ => exact ⟨rfl, rfl, rfl, rfl⟩
  | 12, _ => exact ⟨rfl, rfl, rfl, rfl⟩
  | 13, _ => exact ⟨rfl, rfl, rfl, rfl⟩
  | 14, _ => exact ⟨rfl, rfl, rfl, rfl⟩
/-- what fieldsOf answers -/
def FdAns (k : Int) (w : World) (e : Ending) (w' : World) : Prop := ∃ a b c d o, e = .returned (.tuple #[.agg #[.bool a, .bool b, .bool c, .bool d], .bool o]) ∧ Below w.heap.size w w' ∧ (0 ≤ k ∧ k < 15 → a = fdG k.toNat ∧ b = fdN k.toNat ∧ c = fdS k.toNat ∧ d = fdL k.toNat) ∧ o = decide (0 ≤ k ∧ k < 15)
set_option maxRecDepth 100000 in
set_option maxHeartbeats 1000000 in
theorem fields_any (k : Int) (w : World) : Calls Try.prog 40 #[.int .i64 k] w (FdAns k w) := by
  go_enter Try.func40, Try.ntmps40
  go_upto_region 1 with fail
  go_cut [4] from 5 to 20 (fun s4 wx => s4 = .pointer (some ⟨w.heap.size + 1, 0, none⟩) ∧ wx = (w.alloc (.cells #[.bool false, .bool false, .bool false, .bool false] 67)).alloc (.cells ftab 73))
  case first =>
    apply wp_region_lit
    refine wpList_buildTo rfl 67 _ rfl (some 5) rfl #[.bool false, .bool false, .bool false, .bool false] (by kernel_rfl) ?_
    refine wpList_buildTo rfl 67 _ rfl (some 6) rfl #[.bool false, .bool true, .bool false, .bool false] (by kernel_rfl) ?_
    refine wpList_buildTo rfl 67 _ rfl (some 7) rfl #[.bool false, .bool false, .bool false, .bool false] (by kernel_rfl) ?_
    refine wpList_buildTo rfl 67 _ rfl (some 8) rfl #[.bool false, .bool true, .bool false, .bool false] (by kernel_rfl) ?_
    refine wpList_buildTo rfl 67 _ rfl (some 9) rfl #[.bool true, .bool true, .bool false, .bool false] (by kernel_rfl) ?_
    refine wpList_buildTo rfl 67 _ rfl (some 10) rfl #[.bool true, .bool false, .bool true, .bool false] (by kernel_rfl) ?_
    refine wpList_buildTo rfl 67 _ rfl (some 11) rfl #[.bool false, .bool true, .bool false, .bool false] (by kernel_rfl) ?_
    refine wpList_buildTo rfl 67 _ rfl (some 12) rfl #[.bool false, .bool true, .bool false, .bool false] (by kernel_rfl) ?_
    refine wpList_buildTo rfl 67 _ rfl (some 13) rfl #[.bool false, .bool true, .bool false, .bool false] (by kernel_rfl) ?_
    refine wpList_buildTo rfl 67 _ rfl (some 14) rfl #[.bool false, .bool false, .bool true, .bool false] (by kernel_rfl) ?_
    refine wpList_buildTo rfl 67 _ rfl (some 15) rfl #[.bool false, .bool false, .bool true, .bool false] (by kernel_rfl) ?_
    refine wpList_buildTo rfl 67 _ rfl (some 16) rfl #[.bool false, .bool false, .bool false, .bool true] (by kernel_rfl) ?_
    refine wpList_buildTo rfl 67 _ rfl (some 17) rfl #[.bool false, .bool false, .bool false, .bool true] (by kernel_rfl) ?_
    refine wpList_buildTo rfl 67 _ rfl (some 18) rfl #[.bool false, .bool true, .bool false, .bool true] (by kernel_rfl) ?_
    refine wpList_buildTo rfl 67 _ rfl (some 19) rfl #[.bool false, .bool true, .bool true, .bool false] (by kernel_rfl) ?_
    refine wpList_buildTo rfl 73 _ rfl (some 20) rfl ftab (by kernel_rfl) ?_
    refine wpList_allocTo rfl (some 4) rfl (.pointer (some ⟨(w.alloc (.cells #[.bool false, .bool false, .bool false, .bool false] 67)).heap.size, 0, none⟩)) (.cells fzer 73) (by kernel_rfl) ?_
    rw [fz1]
    refine wpList_store_rowTo rfl 73 _ _ rfl rfl (w.heap.size + 1) ftab (by kernel_rfl) (by kernel_rfl) 73 fzer (flast2 _ _ _) (by kernel_rfl) (by kernel_rfl) (by kernel_rfl) ?_
    rw [fsetRow2]
    refine wpList_frame (a' := { tmps := #[.int .i64 k, undef, .pointer (some ⟨w.heap.size, 0, none⟩), .bool false, .pointer (some ⟨w.heap.size + 1, 0, none⟩), (.agg #[.bool false, .bool false, .bool false, .bool false]), (.agg #[.bool false, .bool true, .bool false, .bool false]), (.agg #[.bool false, .bool false, .bool false, .bool false]), (.agg #[.bool false, .bool true, .bool false, .bool false]), (.agg #[.bool true, .bool true, .bool false, .bool false]), (.agg #[.bool true, .bool false, .bool true, .bool false]), (.agg #[.bool false, .bool true, .bool false, .bool false]), (.agg #[.bool false, .bool true, .bool false, .bool false]), (.agg #[.bool false, .bool true, .bool false, .bool false]), (.agg #[.bool false, .bool false, .bool true, .bool false]), (.agg #[.bool false, .bool false, .bool true, .bool false]), (.agg #[.bool false, .bool false, .bool false, .bool true]), (.agg #[.bool false, .bool false, .bool false, .bool true]), (.agg #[.bool false, .bool true, .bool false, .bool true]), (.agg #[.bool false, .bool true, .bool true, .bool false]), (.agg ftab), undef, undef, undef, undef, undef, undef, undef, undef, undef, undef], defers := [] }) (by kernel_rfl) ?_
    refine wpList_nil ?_
    rename_i hJ hK
    exact hK _ _ (Met.intro (hJ _ _ ⟨_, _, _, _, _, _, _, _, _, _, _, _, _, _, _, _, _, ⟨rfl, rfl⟩, rfl⟩))
  case rest =>
    obtain ⟨rfl, rfl⟩ := hcut
    have HB := Lib.hid (((Below.refl w.heap.size w).alloc (Nat.le_refl _) (.cells #[.bool false, .bool false, .bool false, .bool false] 67)).alloc (by rw [fz1]; omega) (.cells ftab 73))
    have HL := Lib.hid (flast2 w (.cells #[.bool false, .bool false, .bool false, .bool false] 67) (.cells ftab 73))
    have h0 : ((w.alloc (.cells #[.bool false, .bool false, .bool false, .bool false] 67)).alloc (.cells ftab 73)).heap[w.heap.size]? = some (.cells #[.bool false, .bool false, .bool false, .bool false] 67 (0, 0)) := (Below.heap_alloc _ _ _ (by rw [fz1]; omega)).trans (heap_alloc_last _ _)
    obtain ⟨W, hW⟩ : ∃ W, (w.alloc (.cells #[.bool false, .bool false, .bool false, .bool false] 67)).alloc (.cells ftab 73) = W := ⟨_, rfl⟩
    rw [hW] at HB HL h0 ⊢
    have z0 : W.cell? ⟨w.heap.size, 0, none⟩ = some (.bool false) := cell_of_row _ _ 0 _ _ _ h0
    have z1 : W.cell? ⟨w.heap.size, 1, none⟩ = some (.bool false) := cell_of_row _ _ 1 _ _ _ h0
    have z2 : W.cell? ⟨w.heap.size, 2, none⟩ = some (.bool false) := cell_of_row _ _ 2 _ _ _ h0
    have z3 : W.cell? ⟨w.heap.size, 3, none⟩ = some (.bool false) := cell_of_row _ _ 3 _ _ _ h0
    have f0 : ∀ i, W.frozen? ⟨w.heap.size, i, none⟩ = false := fun i => by simp [World.frozen?, h0]
    have HH := Lib.hid h0
    have HEND : Hid (∀ a b c d, Below w.heap.size w ((((W.setCell ⟨w.heap.size, 0, none⟩ a).setCell ⟨w.heap.size, 1, none⟩ b).setCell ⟨w.heap.size, 2, none⟩ c).setCell ⟨w.heap.size, 3, none⟩ d)) := Lib.hid fun a b c d =>
      (((HB.out.setCell (Nat.le_refl _) _).setCell (Nat.le_refl _) _).setCell (Nat.le_refl _) _).setCell (Nat.le_refl _) _
    clear hW h0
    by_cases hk0 : k < 0
    · have ho : decide (0 ≤ k ∧ k < 15) = false := decide_eq_false (by omega)
      have HO := Lib.hid ho
      clear ho
      go_wp2_with fail
      refine bodyPost_ret (v := .tuple #[.agg #[.bool false, .bool false, .bool false, .bool false], .bool false]) (by simp [results, Try.results40, go_sem, World.cell?, World.setCell, Array.getElem?_modify, HH.out]) rfl ⟨_, _, _, _, _, rfl, HEND.out _ _ _ _, fun h => by omega, HO.out.symm⟩
    · by_cases hk1 : 15 ≤ k
      · have ho : decide (0 ≤ k ∧ k < 15) = false := decide_eq_false (by omega)
        have HO := Lib.hid ho
        clear ho
        go_wp2_with fail
        refine bodyPost_ret (v := .tuple #[.agg #[.bool false, .bool false, .bool false, .bool false], .bool false]) (by simp [results, Try.results40, go_sem, World.cell?, World.setCell, Array.getElem?_modify, HH.out]) rfl ⟨_, _, _, _, _, rfl, HEND.out _ _ _ _, fun h => by omega, HO.out.symm⟩
      · obtain ⟨n, rfl⟩ : ∃ n : Nat, k = (n : Int) := ⟨k.toNat, by omega⟩
        have hn : n < 15 := by omega
        have HO : Hid (true = decide (0 ≤ (n : Int) ∧ (n : Int) < 15)) := Lib.hid (decide_eq_true (by omega)).symm
        obtain ⟨t0, t1, t2, t3⟩ := ftab_at n hn
        have c0 : W.cell? ⟨w.heap.size + 1, n * 4, none⟩ = some (.bool (fdG n)) := (cell_of_row _ _ _ _ _ _ HL.out).trans t0
        have c1 : W.cell? ⟨w.heap.size + 1, n * 4 + 1, none⟩ = some (.bool (fdN n)) := (cell_of_row _ _ _ _ _ _ HL.out).trans t1
        have c2 : W.cell? ⟨w.heap.size + 1, n * 4 + 2, none⟩ = some (.bool (fdS n)) := (cell_of_row _ _ _ _ _ _ HL.out).trans t2
        have c3 : W.cell? ⟨w.heap.size + 1, n * 4 + 3, none⟩ = some (.bool (fdL n)) := (cell_of_row _ _ _ _ _ _ HL.out).trans t3
        obtain ⟨a, ha⟩ : ∃ a, fdG n = a := ⟨_, rfl⟩
        obtain ⟨b, hb⟩ : ∃ b, fdN n = b := ⟨_, rfl⟩
        obtain ⟨c, hc⟩ : ∃ c, fdS n = c := ⟨_, rfl⟩
        obtain ⟨d, hd⟩ : ∃ d, fdL n = d := ⟨_, rfl⟩
        rw [ha] at c0
        rw [hb] at c1
        rw [hc] at c2
        rw [hd] at c3
        have HF : Hid (a = fdG n ∧ b = fdN n ∧ c = fdS n ∧ d = fdL n) := Lib.hid ⟨ha.symm, hb.symm, hc.symm, hd.symm⟩
        clear t0 t1 t2 t3 ha hb hc hd hk0 hk1
        go_wp2_with fail
        refine bodyPost_ret (v := .tuple #[.agg #[.bool a, .bool b, .bool c, .bool d], .bool true]) (by simp [results, Try.results40, go_sem, World.cell?, World.setCell, Array.getElem?_modify, HH.out]) rfl ⟨_, _, _, _, _, rfl, HEND.out _ _ _ _, fun _ => HF.out, HO.out⟩
end Go.Proofs.Ytfchondipjiicaa.nn
namespace Go.Proofs.Ytfchondipjiicaa.nn

/-- bits of an exponent, of a fraction -/
def xb (w : Nat) : Nat := if w = 16 then 5 else if w = 32 then 8 else 11
def fb (w : Nat) : Nat := if w = 16 then 10 else if w = 32 then 23 else 52
/-- a width, and bits that it has -/
def wOk (w : Int) : Prop := w = 16 ∨ w = 32 ∨ w = 64
instance (w : Int) : Decidable (wOk w) := by unfold wOk; infer_instance
def fits (w : Int) (x : Nat) : Prop := wOk w ∧ (w < 64 → x < 2 ^ w.toNat)
instance (w : Int) (x : Nat) : Decidable (fits w x) := by unfold fits; infer_instance
def sg (w x : Nat) : Bool := decide (x / 2 ^ (xb w + fb w) = 1)
def ex (w x : Nat) : Nat := x / 2 ^ fb w % 2 ^ xb w
def fr (w x : Nat) : Nat := x % 2 ^ fb w
def paE (w : Int) (x : Nat) : Nat := if fits w x then 0 else 1
/-- the class of parts -/
def cls (w e m : Nat) : Nat := if e = 2 ^ xb w - 1 then (if m = 0 then 3 else 4) else if 0 < e then 2 else if 0 < m then 1 else 0
def clC (w : Int) (x : Nat) : Nat := if fits w x then cls w.toNat (ex w.toNat x) (fr w.toNat x) else 0
end Go.Proofs.Ytfchondipjiicaa.nn
namespace Go.Proofs.Ytfchondipjiicaa.nn
open Go.RowKit

def wx (k : Int) : Nat := if wOk k then xb k.toNat else 0
def wf (k : Int) : Nat := if wOk k then fb k.toNat else 0
theorem fr_lt {w x : Nat} : fr w x < 2 ^ fb w := Nat.mod_lt _ (Nat.two_pow_pos _)
theorem ex_lt {w x : Nat} : ex w x < 2 ^ xb w := Nat.mod_lt _ (Nat.two_pow_pos _)
def ClAns (k : Int) (x : Nat) (W : World) (e : Ending) (W' : World) : Prop := e = .returned (.tuple #[.int .i64 (clC k x : Int), .int .i64 (paE k x : Int)]) ∧ Below W.heap.size W W'
def cl5 (E X M : Nat) : Nat := if X = 2 ^ E - 1 then (if M = 0 then 3 else 4) else if 0 < X then 2 else if 0 < M then 1 else 0
theorem pow_up {a b : Nat} (h : a ≤ b) : 2 ^ a ≤ 2 ^ b := Nat.pow_le_pow_right (by decide) h
end Go.Proofs.Ytfchondipjiicaa.nn
namespace Go.Proofs.Ytfchondipjiicaa.nn
open Go.RowKit

/-- m by n bits to the right, if none is lost -/
def shOk (m n : Nat) : Bool := decide (m % 2 ^ n = 0)
def shV (m n : Nat) : Nat := if m % 2 ^ n = 0 then m / 2 ^ n else 0
end Go.Proofs.Ytfchondipjiicaa.nn
namespace Go.Proofs.Ytfchondipjiicaa.nn
open Go.RowKit

def bia (k : Nat) : Nat := if k = 16 then 15 else if k = 32 then 127 else 1023
/-- how far m goes to the left until its highest bit is bit 52 -/
def nrm (m : Nat) : Nat := 52 - m.log2
def clk (k x : Nat) : Nat := cl5 (xb k) (ex k x) (fr k x)
theorem nrm_lt {m t : Nat} (hm : 0 < m) (hb : m < 4503599627370496) : (t < nrm m ↔ m * 2 ^ t < 4503599627370496) := by
  have h1 := Nat.log2_self_le (n := m) (by omega)
  have h2 := Nat.lt_log2_self (n := m)
  have h3 : m.log2 < 52 := (Nat.log2_lt (by omega)).2 hb
  unfold nrm
  constructor
  · intro h
    have h4 : m * 2 ^ t < 2 ^ (m.log2 + 1) * 2 ^ t := Nat.mul_lt_mul_of_pos_right h2 (Nat.two_pow_pos t)
    rw [← Nat.pow_add] at h4
    have h5 : 2 ^ (m.log2 + 1 + t) ≤ 2 ^ 52 := pow_up (by omega)
    exact Nat.lt_of_lt_of_le h4 h5
  · intro h
    rcases Nat.lt_or_ge t (52 - m.log2) with h' | h'
    · exact h'
    · have h4 : 2 ^ m.log2 * 2 ^ t ≤ m * 2 ^ t := Nat.mul_le_mul_right _ h1
      rw [← Nat.pow_add] at h4
      have h5 : 2 ^ 52 ≤ 2 ^ (m.log2 + t) := pow_up (by omega)
      exact absurd (Nat.lt_of_le_of_lt (Nat.le_trans h5 h4) h) (by decide)
theorem nrm_hi {m : Nat} (hm : 0 < m) (hb : m < 4503599627370496) : m * 2 ^ nrm m < 9007199254740992 ∧ 4503599627370496 ≤ m * 2 ^ nrm m := by
  have h1 := Nat.log2_self_le (n := m) (by omega)
  have h2 := Nat.lt_log2_self (n := m)
  have h3 : m.log2 < 52 := (Nat.log2_lt (by omega)).2 hb
  unfold nrm
  have h4 : m * 2 ^ (52 - m.log2) < 2 ^ (m.log2 + 1) * 2 ^ (52 - m.log2) := Nat.mul_lt_mul_of_pos_right h2 (Nat.two_pow_pos _)
  have h5 : 2 ^ m.log2 * 2 ^ (52 - m.log2) ≤ m * 2 ^ (52 - m.log2) := Nat.mul_le_mul_right _ h1
  rw [← Nat.pow_add] at h4 h5
  rw [show m.log2 + 1 + (52 - m.log2) = 53 by omega] at h4
  rw [show m.log2 + (52 - m.log2) = 52 by omega] at h5
  rw [show (2 : Nat) ^ 53 = 9007199254740992 by decide] at h4
  rw [show (2 : Nat) ^ 52 = 4503599627370496 by decide] at h5
  exact ⟨h4, h5⟩
end Go.Proofs.Ytfchondipjiicaa.nn
namespace Go.Proofs.Ytfchondipjiicaa.nn
open Go.RowKit

/-- the shape of a width -/
def sv (k : Nat) : Value := .agg #[.int .i64 (k : Int), .int .i64 (xb k : Int), .int .i64 (fb k : Int)]
def kOk (k : Nat) : Prop := k = 16 ∨ k = 32 ∨ k = 64
def onz (k : Nat) : Nat := 2 ^ xb k - 1
def hdn (k : Nat) : Nat := 2 ^ fb k
theorem kOk.facts {k : Nat} (h : kOk k) : (k = 16 ∧ xb k = 5 ∧ fb k = 10 ∧ onz k = 31 ∧ bia k = 15 ∧ hdn k = 1024) ∨ (k = 32 ∧ xb k = 8 ∧ fb k = 23 ∧ onz k = 255 ∧ bia k = 127 ∧ hdn k = 8388608) ∨ (k = 64 ∧ xb k = 11 ∧ fb k = 52 ∧ onz k = 2047 ∧ bia k = 1023 ∧ hdn k = 4503599627370496) := by
  rcases h with rfl | rfl | rfl
  · exact .inl (by decide)
  · exact .inr (.inl (by decide))
  · exact .inr (.inr (by decide))
/-- the worlds behind a call's boxed shape -/
structure Bs (w : World) (k : Nat) (W : World) : Prop where
  c0 : W.cell? ⟨w.heap.size, 0, none⟩ = some (.int .i64 (k : Int))
  c1 : W.cell? ⟨w.heap.size, 1, none⟩ = some (.int .i64 (xb k : Int))
  c2 : W.cell? ⟨w.heap.size, 2, none⟩ = some (.int .i64 (fb k : Int))
  b : Below w.heap.size w W
  z : w.heap.size < W.heap.size
theorem Bs.new (w : World) (k : Nat) (T : TypeId) : Bs w k (w.alloc (.cells #[.int .i64 (k : Int), .int .i64 (xb k : Int), .int .i64 (fb k : Int)] T)) :=
  ⟨by simp, by simp, by simp, (Below.refl _ _).alloc (Nat.le_refl _) _, by simp⟩
theorem Bs.on {w W W' : World} {k : Nat} (h : Bs w k W) (hB : Below W.heap.size W W') : Bs w k W' :=
  ⟨(hB.cell (p := ⟨_, _, none⟩) h.z).trans h.c0, (hB.cell (p := ⟨_, _, none⟩) h.z).trans h.c1, (hB.cell (p := ⟨_, _, none⟩) h.z).trans h.c2, h.b.trans (hB.mono (Nat.le_of_lt h.z)), Nat.lt_of_lt_of_le h.z hB.size⟩
theorem Bs.drew {w W : World} {k : Nat} (h : Bs w k W) : Bs w k W.drew := h.on (Below.drew (Below.refl _ _))
theorem Bs.all {w W : World} {k : Nat} (h : Bs w k W) : W.cell? ⟨w.heap.size, 0, none⟩ = some (.int .i64 (k : Int)) ∧ W.cell? ⟨w.heap.size, 1, none⟩ = some (.int .i64 (xb k : Int)) ∧ W.cell? ⟨w.heap.size, 2, none⟩ = some (.int .i64 (fb k : Int)) ∧ Bs w k W := ⟨h.c0, h.c1, h.c2, h⟩
set_option maxRecDepth 100000 in
theorem ones_any (k : Nat) (w : World) (hk : kOk k) : Calls Try.prog 64 #[sv k] w fun e w' => e = .returned (.int .i64 (onz k : Int)) ∧ Below w.heap.size w w' := by
  have HA := Lib.hid (fun o => (Below.refl w.heap.size w).alloc (Nat.le_refl _) o)
  unfold kOk at hk
  rcases hk with rfl | rfl | rfl
  · show Calls _ _ #[.agg #[.int .i64 16, .int .i64 5, .int .i64 10]] _ _
    go_enter Try.func64, Try.ntmps64
    go_wp2
    go_ret
    exact ⟨rfl, HA.out _⟩
  · show Calls _ _ #[.agg #[.int .i64 32, .int .i64 8, .int .i64 23]] _ _
    go_enter Try.func64, Try.ntmps64
    go_wp2
    go_ret
    exact ⟨rfl, HA.out _⟩
  · show Calls _ _ #[.agg #[.int .i64 64, .int .i64 11, .int .i64 52]] _ _
    go_enter Try.func64, Try.ntmps64
    go_wp2
    go_ret
    exact ⟨rfl, HA.out _⟩
set_option maxRecDepth 100000 in
theorem hidden_any (k : Nat) (w : World) (hk : kOk k) : Calls Try.prog 67 #[sv k] w fun e w' => e = .returned (.int .u64 (hdn k : Int)) ∧ Below w.heap.size w w' := by
  have HA := Lib.hid (fun o => (Below.refl w.heap.size w).alloc (Nat.le_refl _) o)
  unfold kOk at hk
  rcases hk with rfl | rfl | rfl
  · show Calls _ _ #[.agg #[.int .i64 16, .int .i64 5, .int .i64 10]] _ _
    go_enter Try.func67, Try.ntmps67
    go_wp2
    go_ret
    exact ⟨rfl, HA.out _⟩
  · show Calls _ _ #[.agg #[.int .i64 32, .int .i64 8, .int .i64 23]] _ _
    go_enter Try.func67, Try.ntmps67
    go_wp2
    go_ret
    exact ⟨rfl, HA.out _⟩
  · show Calls _ _ #[.agg #[.int .i64 64, .int .i64 11, .int .i64 52]] _ _
    go_enter Try.func67, Try.ntmps67
    go_wp2
    go_ret
    exact ⟨rfl, HA.out _⟩
end Go.Proofs.Ytfchondipjiicaa.nn
namespace Go.Proofs.Ytfchondipjiicaa.nn
open Go.RowKit

/-- what is narrowed: a sign's bits, what the parts of width 64 are, the width's parts: the bits, or none -/
def nwO (E F : Nat) (X M : Nat) : Bool :=
  let y : Int := (X : Int) - 1023 + (2 ^ (E - 1) - 1 : Nat)
  if X = 0 then decide (M = 0) else if X = 2047 then shOk M (52 - F) else if y ≥ (2 ^ E - 1 : Nat) ∨ y < -(F : Int) then false else if 1 ≤ y then shOk M (52 - F) else shOk (M + 4503599627370496) (53 - F - y).toNat
def nwV (E F : Nat) (X M : Nat) : Nat :=
  let y : Int := (X : Int) - 1023 + (2 ^ (E - 1) - 1 : Nat)
  if X = 0 then 0 else if X = 2047 then (2 ^ E - 1) * 2 ^ F + shV M (52 - F) else if 1 ≤ y then y.toNat * 2 ^ F + shV M (52 - F) else shV (M + 4503599627370496) (53 - F - y).toNat
/-- the answer: the bits and whether there are any -/
def nwA (E F : Nat) (S : Bool) (X M : Nat) : Nat := if nwO E F X M then (if S then 2 ^ (E + F) else 0) + nwV E F X M else 0
end Go.Proofs.Ytfchondipjiicaa.nn
namespace Go.Proofs.Ytfchondipjiicaa.nn
open Go.RowKit

def InAns (r : Bool × Nat × Bool) (W : World) (e : Ending) (W' : World) : Prop := e = .returned (.tuple #[.bool r.1, .int .u64 (r.2.1 : Int), .bool r.2.2]) ∧ Below W.heap.size W W'
theorem InAns.mk {r : Bool × Nat × Bool} {a c : Bool} {b : Int} {W W' : World} (h1 : r.1 = a) (h2 : (r.2.1 : Int) = b) (h3 : r.2.2 = c) (hb : Below W.heap.size W W') : InAns r W (.returned (.tuple #[.bool a, .int .u64 b, .bool c])) W' := by
  unfold InAns
  rw [h1, h2, h3]
  exact ⟨rfl, hb⟩
end Go.Proofs.Ytfchondipjiicaa.nn
namespace Go.Proofs.Ytfchondipjiicaa.nn

/-! parts and bits -/
theorem b52 : (2 : Nat) ^ 52 = 4503599627370496 := by decide
/-- the bits of a width of parts; E, F: how many bits of an exponent, of a fraction -/
def kv (E F : Nat) (S : Bool) (X M : Nat) : Nat := (if S then 2 ^ (E + F) else 0) + X * 2 ^ F + M
/-! widened and narrowed, in parts -/
/-- a width's parts: bits of an exponent, of a fraction; what is taken from the exponent; the exponents' number -/
structure Wd (E F B T : Nat) : Prop where
  e : 2 ^ (E - 1) - 1 = B
  t : 2 ^ E = T
  bt : T = 2 * B + 2
  b : 1 ≤ B ∧ B ≤ 127
  f : 1 ≤ F ∧ F ≤ 23 ∧ F ≤ B
/-- the wider parts -/
def wX (B T F X M : Nat) : Nat := if X = T - 1 then 2047 else if 0 < X then X + 1023 - B else if 0 < M then 1024 - B - nrm (M * 2 ^ (52 - F)) else 0
def wM (T F X M : Nat) : Nat := if X = T - 1 ∨ 0 < X then M * 2 ^ (52 - F) else if 0 < M then M * 2 ^ (52 - F) * 2 ^ nrm (M * 2 ^ (52 - F)) - 4503599627370496 else 0
section
variable {E F B T X M : Nat}
theorem Wd.small (_ : Wd E F B T) (hM : M < 2 ^ F) (h0 : 0 < M) : 0 < M * 2 ^ (52 - F) ∧ M * 2 ^ (52 - F) < 4503599627370496 ∧ 2 ^ (52 - F) ≤ M * 2 ^ (52 - F) := by
  have hF := (‹Wd E F B T›).f
  have hp := Nat.two_pow_pos (52 - F)
  refine ⟨Nat.mul_pos h0 hp, ?_, Nat.le_mul_of_pos_left _ h0⟩
  rw [← b52, show 52 = F + (52 - F) by omega, Nat.pow_add, show F + (52 - F) - F = 52 - F by omega]
  exact Nat.mul_lt_mul_of_pos_right hM hp
theorem nrm_pos {m : Nat} (hm : 0 < m) (hb : m < 4503599627370496) : 1 ≤ nrm m := (nrm_lt hm hb).2 (by simpa using hb)
theorem Wd.nrm_le (h : Wd E F B T) (hM : M < 2 ^ F) (h0 : 0 < M) : nrm (M * 2 ^ (52 - F)) ≤ F := by
  obtain ⟨s1, s2, s3⟩ := h.small hM h0
  have hF := h.f
  rcases Nat.lt_or_ge F (nrm (M * 2 ^ (52 - F))) with h' | h'
  · have h1 := (nrm_lt s1 s2).1 h'
    have h2 : 2 ^ (52 - F) * 2 ^ F ≤ M * 2 ^ (52 - F) * 2 ^ F := Nat.mul_le_mul_right _ s3
    rw [← Nat.pow_add, show 52 - F + F = 52 by omega, b52] at h2
    omega
  · exact h'
theorem sh_mul {m n : Nat} : shOk (m * 2 ^ n) n = true ∧ shV (m * 2 ^ n) n = m := by
  unfold shOk shV
  exact ⟨decide_eq_true (Nat.mul_mod_left _ _), by rw [if_pos (Nat.mul_mod_left _ _), Nat.mul_div_cancel _ (Nat.two_pow_pos n)]⟩
/-- the wider parts are parts -/
theorem Wd.wide (h : Wd E F B T) (hX : X < T) (hM : M < 2 ^ F) : wX B T F X M ≤ 2047 ∧ wM T F X M < 4503599627370496 := by
  have hF := h.f
  have hB := h.b
  have hbt := h.bt
  have hp := Nat.two_pow_pos (52 - F)
  have hm : M * 2 ^ (52 - F) < 4503599627370496 := by
    rw [← b52, show 52 = F + (52 - F) by omega, Nat.pow_add, show F + (52 - F) - F = 52 - F by omega]
    exact Nat.mul_lt_mul_of_pos_right hM hp
  unfold wX wM
  by_cases c1 : X = T - 1
  · rw [if_pos c1, if_pos (.inl c1)]; exact ⟨Nat.le_refl _, hm⟩
  · rw [if_neg c1]
    by_cases c2 : 0 < X
    · rw [if_pos c2, if_pos (.inr c2)]; exact ⟨by omega, hm⟩
    · rw [if_neg c2, if_neg (show ¬ (X = T - 1 ∨ 0 < X) by omega)]
      by_cases c3 : 0 < M
      · obtain ⟨s1, s2, _⟩ := h.small hM c3
        have := nrm_hi s1 s2
        rw [if_pos c3, if_pos c3]; omega
      · rw [if_neg c3, if_neg c3]; omega
/-- what is widened is narrowed to itself -/
theorem Wd.back (h : Wd E F B T) (hX : X < T) (hM : M < 2 ^ F) (S : Bool) : nwO E F (wX B T F X M) (wM T F X M) = true ∧ nwA E F S (wX B T F X M) (wM T F X M) = kv E F S X M := by
  have hF := h.f
  have hB := h.b
  have hbt := h.bt
  suffices hs : nwO E F (wX B T F X M) (wM T F X M) = true ∧ nwV E F (wX B T F X M) (wM T F X M) = X * 2 ^ F + M by
    refine ⟨hs.1, ?_⟩
    unfold nwA kv
    rw [hs.1, if_pos rfl, hs.2, Nat.add_assoc]
  unfold nwO nwV
  dsimp only
  rw [h.e, h.t]
  obtain ⟨k1, k2⟩ := sh_mul (m := M) (n := 52 - F)
  by_cases c1 : X = T - 1
  · have e1 : wX B T F X M = 2047 := if_pos c1
    have e2 : wM T F X M = M * 2 ^ (52 - F) := if_pos (.inl c1)
    rw [e1, e2, if_neg (by decide), if_pos rfl, if_neg (by decide), if_pos rfl, k1, k2, c1]
    exact ⟨rfl, rfl⟩
  · by_cases c2 : 0 < X
    · have e1 : wX B T F X M = X + 1023 - B := by unfold wX; rw [if_neg c1, if_pos c2]
      have e2 : wM T F X M = M * 2 ^ (52 - F) := if_pos (.inr c2)
      rw [e1, e2]
      have ey : ((X + 1023 - B : Nat) : Int) - 1023 + (B : Int) = (X : Int) := by omega
      rw [ey, if_neg (by omega), if_neg (by omega), if_neg (by omega), if_pos (by omega), if_neg (by omega), if_neg (by omega), if_pos (by omega), k1, k2, Int.toNat_natCast]
      exact ⟨rfl, rfl⟩
    · obtain rfl : X = 0 := by omega
      by_cases c3 : 0 < M
      · obtain ⟨s1, s2, _⟩ := h.small hM c3
        obtain ⟨n1, n2⟩ := nrm_hi s1 s2
        have n3 := nrm_pos s1 s2
        have n4 := h.nrm_le hM c3
        have e1 : wX B T F 0 M = 1024 - B - nrm (M * 2 ^ (52 - F)) := by unfold wX; rw [if_neg c1, if_neg c2, if_pos c3]
        have e2 : wM T F 0 M = M * 2 ^ (52 - F) * 2 ^ nrm (M * 2 ^ (52 - F)) - 4503599627370496 := by unfold wM; rw [if_neg (by omega), if_pos c3]
        rw [e1, e2]
        obtain ⟨t, ht⟩ : ∃ t, nrm (M * 2 ^ (52 - F)) = t := ⟨_, rfl⟩
        rw [ht] at n1 n2 n3 n4 ⊢
        have ey : ((1024 - B - t : Nat) : Int) - 1023 + (B : Int) = 1 - (t : Int) := by omega
        have ez : M * 2 ^ (52 - F) * 2 ^ t - 4503599627370496 + 4503599627370496 = M * 2 ^ (52 - F + t) := by rw [Nat.pow_add, ← Nat.mul_assoc]; omega
        have ew : (53 - (F : Int) - (1 - (t : Int))).toNat = 52 - F + t := by omega
        rw [ey, if_neg (by omega), if_neg (by omega), if_neg (by omega), if_neg (by omega), if_neg (by omega), if_neg (by omega), if_neg (by omega), ez, ew]
        obtain ⟨j1, j2⟩ := sh_mul (m := M) (n := 52 - F + t)
        rw [j1, j2, Nat.zero_mul, Nat.zero_add]
        exact ⟨rfl, rfl⟩
      · obtain rfl : M = 0 := by omega
        have e1 : wX B T F 0 0 = 0 := by unfold wX; rw [if_neg c1, if_neg c2, if_neg c2]
        have e2 : wM T F 0 0 = 0 := by unfold wM; rw [if_neg (by omega), if_neg c2]
        rw [e1, e2, if_pos rfl, if_pos rfl, Nat.zero_mul]
        exact ⟨rfl, rfl⟩
end
end Go.Proofs.Ytfchondipjiicaa.nn
namespace Go.Proofs.Ytfchondipjiicaa.nn
open Go.RowKit

def lim (k : Nat) : Nat := if k = 16 then 65536 else if k = 32 then 4294967296 else 18446744073709551616
theorem ret_spl {a c : Bool} {i j m n : Int} (h1 : a = c) (h2 : i = j) (h3 : m = n) : Ending.returned (.tuple #[.bool a, .int .i64 i, .int .u64 m]) = .returned (.tuple #[.bool c, .int .i64 j, .int .u64 n]) := by rw [h1, h2, h3]
theorem ne_nat_div {x d : Nat} (hx : x < 2 * d) : ((x : Int) / (d : Int) != 0) = decide (x / d = 1) := by
  rw [← Int.natCast_ediv]
  have hd : 0 < d := by omega
  have h2 : x / d < 2 := Nat.div_lt_of_lt_mul (by omega)
  generalize x / d = q at h2 ⊢
  by_cases h : q = 1
  · rw [h]; rfl
  · have h0 : q = 0 := by omega
    rw [decide_eq_false h, h0]
    rfl
set_option maxRecDepth 100000 in
set_option maxHeartbeats 1000000 in
theorem split_16 (x : Nat) (w : World) (hx : x < 65536) : Calls Try.prog 63 #[sv 16, .int .u64 (x : Int)] w fun e w' => e = .returned (.tuple #[.bool (sg 16 x), .int .i64 (ex 16 x : Int), .int .u64 (fr 16 x : Int)]) ∧ Below w.heap.size w w' := by
  have hk : kOk 16 := by unfold kOk; omega
  have hd : ((x : Int) / 32768 != 0) = sg 16 x := by
    unfold sg
    rw [show xb 16 + fb 16 = 15 from rfl, show (2 : Nat) ^ 15 = 32768 from rfl]
    exact ne_nat_div (d := 32768) (by omega)
  have hm : bits .and .i64 ((x : Int) / 1024) 31 = (ex 16 x : Int) := by
    unfold ex
    rw [show xb 16 = 5 from rfl, show fb 16 = 10 from rfl, show (2 : Nat) ^ 10 = 1024 from rfl]
    rw [show ((x : Int) / 1024) = ((x / 1024 : Nat) : Int) by omega]
    exact (i64_and_nat (x / 1024) 31 (by omega) (by decide)).trans (by rw [and_mask (x / 1024) 5])
  have hf : bits .and .u64 (x : Int) 1023 = (fr 16 x : Int) := by
    unfold fr
    rw [show fb 16 = 10 from rfl]
    exact (u64_and_nat x 1023 (by omega) (by decide)).trans (by rw [and_mask x 10])
  have hw : IntKind.i64.wrap ((x : Int) / 1024) = (x : Int) / 1024 := IntWalk.i64_in _ (by omega)
  have HD := Lib.hid hd
  have HM := Lib.hid hm
  have HF := Lib.hid hf
  have hO : ∀ W, Bs w 16 W → Calls Try.prog 64 #[sv 16] W fun e w' => e = .returned (.int .i64 31) ∧ Bs w 16 w' := fun W hW => (ones_any 16 W hk).mono fun e w' ⟨he, hb⟩ => ⟨he, hW.on hb⟩
  have hI : ∀ W, Bs w 16 W → Calls Try.prog 67 #[sv 16] W fun e w' => e = .returned (.int .u64 1024) ∧ Bs w 16 w' := fun W hW => (hidden_any 16 W hk).mono fun e w' ⟨he, hb⟩ => ⟨he, hW.on hb⟩
  rw [show sv 16 = .agg #[.int .i64 16, .int .i64 5, .int .i64 10] from rfl] at hO hI ⊢
  have HO := Lib.hid hO
  have HI := Lib.hid hI
  have HB : Hid (∀ T, Bs w 16 (w.alloc (.cells #[.int .i64 16, .int .i64 5, .int .i64 10] T))) := Lib.hid (Bs.new w 16)
  have HL : Hid (∀ W, Bs w 16 W → W.cell? ⟨w.heap.size, 0, none⟩ = some (.int .i64 16) ∧ W.cell? ⟨w.heap.size, 1, none⟩ = some (.int .i64 5) ∧ W.cell? ⟨w.heap.size, 2, none⟩ = some (.int .i64 10) ∧ Bs w 16 W) := Lib.hid fun W hW => hW.all
  clear hd hm hf hO hI hk
  go_enter Try.func63, Try.ntmps63
  go_wp2_with fail
  have hb0 := HB.out 88
  generalize w.alloc _ = W0 at hb0 ⊢
  have hb1 := hb0.drew
  have hb := HL.out _ hb1
  go_region_held3 (fun W => W.cell? ⟨w.heap.size, 0, none⟩ = some (.int .i64 16) ∧ W.cell? ⟨w.heap.size, 1, none⟩ = some (.int .i64 5) ∧ W.cell? ⟨w.heap.size, 2, none⟩ = some (.int .i64 10) ∧ Bs w 16 W) (first | exact HL.out _ ‹_› | exact HL.out _ (And.right ‹_›))
    (first | (go_at_call 64; with_reducible refine (HO.out _ ?_).mono ?_; (first | assumption | exact And.right ‹_›); rintro e w' ⟨rfl, hk5⟩))
  go_wp2_with fail
  with_reducible refine (HI.out _ (by assumption)).mono ?_
  rintro e w2 ⟨rfl, hk6⟩
  go_wp2_with fail
  exact bodyPost_ret (v := .tuple #[.bool ((x : Int) / 32768 != 0), .int .i64 (bits .and .i64 ((x : Int) / 1024) 31), .int .u64 (bits .and .u64 (x : Int) 1023)]) (by simp [results, Try.results63, go_sem]) rfl ⟨ret_spl HD.out HM.out HF.out, hk6.b⟩

set_option maxRecDepth 100000 in
set_option maxHeartbeats 1000000 in
theorem split_32 (x : Nat) (w : World) (hx : x < 4294967296) : Calls Try.prog 63 #[sv 32, .int .u64 (x : Int)] w fun e w' => e = .returned (.tuple #[.bool (sg 32 x), .int .i64 (ex 32 x : Int), .int .u64 (fr 32 x : Int)]) ∧ Below w.heap.size w w' := by
  have hk : kOk 32 := by unfold kOk; omega
  have hd : ((x : Int) / 2147483648 != 0) = sg 32 x := by
    unfold sg
    rw [show xb 32 + fb 32 = 31 from rfl, show (2 : Nat) ^ 31 = 2147483648 from rfl]
    exact ne_nat_div (d := 2147483648) (by omega)
  have hm : bits .and .i64 ((x : Int) / 8388608) 255 = (ex 32 x : Int) := by
    unfold ex
    rw [show xb 32 = 8 from rfl, show fb 32 = 23 from rfl, show (2 : Nat) ^ 23 = 8388608 from rfl]
    rw [show ((x : Int) / 8388608) = ((x / 8388608 : Nat) : Int) by omega]
    exact (i64_and_nat (x / 8388608) 255 (by omega) (by decide)).trans (by rw [and_mask (x / 8388608) 8])
  have hf : bits .and .u64 (x : Int) 8388607 = (fr 32 x : Int) := by
    unfold fr
    rw [show fb 32 = 23 from rfl]
    exact (u64_and_nat x 8388607 (by omega) (by decide)).trans (by rw [and_mask x 23])
  have hw : IntKind.i64.wrap ((x : Int) / 8388608) = (x : Int) / 8388608 := IntWalk.i64_in _ (by omega)
  have HD := Lib.hid hd
  have HM := Lib.hid hm
  have HF := Lib.hid hf
  have hO : ∀ W, Bs w 32 W → Calls Try.prog 64 #[sv 32] W fun e w' => e = .returned (.int .i64 255) ∧ Bs w 32 w' := fun W hW => (ones_any 32 W hk).mono fun e w' ⟨he, hb⟩ => ⟨he, hW.on hb⟩
  have hI : ∀ W, Bs w 32 W → Calls Try.prog 67 #[sv 32] W fun e w' => e = .returned (.int .u64 8388608) ∧ Bs w 32 w' := fun W hW => (hidden_any 32 W hk).mono fun e w' ⟨he, hb⟩ => ⟨he, hW.on hb⟩
  rw [show sv 32 = .agg #[.int .i64 32, .int .i64 8, .int .i64 23] from rfl] at hO hI ⊢
  have HO := Lib.hid hO
  have HI := Lib.hid hI
  have HB : Hid (∀ T, Bs w 32 (w.alloc (.cells #[.int .i64 32, .int .i64 8, .int .i64 23] T))) := Lib.hid (Bs.new w 32)
  have HL : Hid (∀ W, Bs w 32 W → W.cell? ⟨w.heap.size, 0, none⟩ = some (.int .i64 32) ∧ W.cell? ⟨w.heap.size, 1, none⟩ = some (.int .i64 8) ∧ W.cell? ⟨w.heap.size, 2, none⟩ = some (.int .i64 23) ∧ Bs w 32 W) := Lib.hid fun W hW => hW.all
  clear hd hm hf hO hI hk
  go_enter Try.func63, Try.ntmps63
  go_wp2_with fail
  have hb0 := HB.out 88
  generalize w.alloc _ = W0 at hb0 ⊢
  have hb1 := hb0.drew
  have hb := HL.out _ hb1
  go_region_held3 (fun W => W.cell? ⟨w.heap.size, 0, none⟩ = some (.int .i64 32) ∧ W.cell? ⟨w.heap.size, 1, none⟩ = some (.int .i64 8) ∧ W.cell? ⟨w.heap.size, 2, none⟩ = some (.int .i64 23) ∧ Bs w 32 W) (first | exact HL.out _ ‹_› | exact HL.out _ (And.right ‹_›))
    (first | (go_at_call 64; with_reducible refine (HO.out _ ?_).mono ?_; (first | assumption | exact And.right ‹_›); rintro e w' ⟨rfl, hk5⟩))
  go_wp2_with fail
  with_reducible refine (HI.out _ (by assumption)).mono ?_
  rintro e w2 ⟨rfl, hk6⟩
  go_wp2_with fail
  exact bodyPost_ret (v := .tuple #[.bool ((x : Int) / 2147483648 != 0), .int .i64 (bits .and .i64 ((x : Int) / 8388608) 255), .int .u64 (bits .and .u64 (x : Int) 8388607)]) (by simp [results, Try.results63, go_sem]) rfl ⟨ret_spl HD.out HM.out HF.out, hk6.b⟩
set_option maxRecDepth 100000 in
set_option maxHeartbeats 1000000 in
theorem split_64 (x : Nat) (w : World) (hx : x < 18446744073709551616) : Calls Try.prog 63 #[sv 64, .int .u64 (x : Int)] w fun e w' => e = .returned (.tuple #[.bool (sg 64 x), .int .i64 (ex 64 x : Int), .int .u64 (fr 64 x : Int)]) ∧ Below w.heap.size w w' := by
  have hk : kOk 64 := by unfold kOk; omega
  have hd : ((x : Int) / 9223372036854775808 != 0) = sg 64 x := by
    unfold sg
    rw [show xb 64 + fb 64 = 63 from rfl, show (2 : Nat) ^ 63 = 9223372036854775808 from rfl]
    exact ne_nat_div (d := 9223372036854775808) (by omega)
  have hm : bits .and .i64 ((x : Int) / 4503599627370496) 2047 = (ex 64 x : Int) := by
    unfold ex
    rw [show xb 64 = 11 from rfl, show fb 64 = 52 from rfl, show (2 : Nat) ^ 52 = 4503599627370496 from rfl]
    rw [show ((x : Int) / 4503599627370496) = ((x / 4503599627370496 : Nat) : Int) by omega]
    exact (i64_and_nat (x / 4503599627370496) 2047 (by omega) (by decide)).trans (by rw [and_mask (x / 4503599627370496) 11])
  have hf : bits .and .u64 (x : Int) 4503599627370495 = (fr 64 x : Int) := by
    unfold fr
    rw [show fb 64 = 52 from rfl]
    exact (u64_and_nat x 4503599627370495 (by omega) (by decide)).trans (by rw [and_mask x 52])
  have hw : IntKind.i64.wrap ((x : Int) / 4503599627370496) = (x : Int) / 4503599627370496 := IntWalk.i64_in _ (by omega)
  have HD := Lib.hid hd
  have HM := Lib.hid hm
  have HF := Lib.hid hf
  have hO : ∀ W, Bs w 64 W → Calls Try.prog 64 #[sv 64] W fun e w' => e = .returned (.int .i64 2047) ∧ Bs w 64 w' := fun W hW => (ones_any 64 W hk).mono fun e w' ⟨he, hb⟩ => ⟨he, hW.on hb⟩
  have hI : ∀ W, Bs w 64 W → Calls Try.prog 67 #[sv 64] W fun e w' => e = .returned (.int .u64 4503599627370496) ∧ Bs w 64 w' := fun W hW => (hidden_any 64 W hk).mono fun e w' ⟨he, hb⟩ => ⟨he, hW.on hb⟩
  rw [show sv 64 = .agg #[.int .i64 64, .int .i64 11, .int .i64 52] from rfl] at hO hI ⊢
  have HO := Lib.hid hO
  have HI := Lib.hid hI
  have HB : Hid (∀ T, Bs w 64 (w.alloc (.cells #[.int .i64 64, .int .i64 11, .int .i64 52] T))) := Lib.hid (Bs.new w 64)
  have HL : Hid (∀ W, Bs w 64 W → W.cell? ⟨w.heap.size, 0, none⟩ = some (.int .i64 64) ∧ W.cell? ⟨w.heap.size, 1, none⟩ = some (.int .i64 11) ∧ W.cell? ⟨w.heap.size, 2, none⟩ = some (.int .i64 52) ∧ Bs w 64 W) := Lib.hid fun W hW => hW.all
  clear hd hm hf hO hI hk
  go_enter Try.func63, Try.ntmps63
  go_wp2_with fail
  have hb0 := HB.out 88
  generalize w.alloc _ = W0 at hb0 ⊢
  have hb1 := hb0.drew
  have hb := HL.out _ hb1
  go_region_held3 (fun W => W.cell? ⟨w.heap.size, 0, none⟩ = some (.int .i64 64) ∧ W.cell? ⟨w.heap.size, 1, none⟩ = some (.int .i64 11) ∧ W.cell? ⟨w.heap.size, 2, none⟩ = some (.int .i64 52) ∧ Bs w 64 W) (first | exact HL.out _ ‹_› | exact HL.out _ (And.right ‹_›))
    (first | (go_at_call 64; with_reducible refine (HO.out _ ?_).mono ?_; (first | assumption | exact And.right ‹_›); rintro e w' ⟨rfl, hk5⟩))
  go_wp2_with fail
  with_reducible refine (HI.out _ (by assumption)).mono ?_
  rintro e w2 ⟨rfl, hk6⟩
  go_wp2_with fail
  exact bodyPost_ret (v := .tuple #[.bool ((x : Int) / 9223372036854775808 != 0), .int .i64 (bits .and .i64 ((x : Int) / 4503599627370496) 2047), .int .u64 (bits .and .u64 (x : Int) 4503599627370495)]) (by simp [results, Try.results63, go_sem]) rfl ⟨ret_spl HD.out HM.out HF.out, hk6.b⟩
theorem split_any (k x : Nat) (w : World) (hk : kOk k) (hx : x < lim k) : Calls Try.prog 63 #[sv k, .int .u64 (x : Int)] w fun e w' => e = .returned (.tuple #[.bool (sg k x), .int .i64 (ex k x : Int), .int .u64 (fr k x : Int)]) ∧ Below w.heap.size w w' := by
  rcases hk with rfl | rfl | rfl
  · exact split_16 x w hx
  · exact split_32 x w hx
  · exact split_64 x w hx
end Go.Proofs.Ytfchondipjiicaa.nn
namespace Go.Proofs.Ytfchondipjiicaa.nn
open Go.RowKit

set_option maxRecDepth 100000 in
set_option maxHeartbeats 2000000 in
theorem class_walk (k x : Nat) (w : World) (S : Bool) (X M : Nat) (hk : kOk k) (_ : M < 18446744073709551616) (_ : X < 4096)
    (HS : Hid (∀ W, Calls Try.prog 63 #[sv k, .int .u64 (x : Int)] W fun e w' => e = .returned (.tuple #[.bool S, .int .i64 (X : Int), .int .u64 (M : Int)]) ∧ Below W.heap.size W w')) :
    Calls Try.prog 58 #[sv k, .int .u64 (x : Int)] w fun e w' => e = .returned (.int .i64 (cl5 (xb k) X M : Int)) ∧ Below w.heap.size w w' := by
  obtain ⟨R, hR⟩ : ∃ R, cl5 (xb k) X M = R := ⟨_, rfl⟩
  rw [hR]
  unfold cl5 at hR
  rw [show 2 ^ xb k - 1 = onz k from rfl] at hR
  have HO := Lib.hid (fun W => ones_any k W hk)
  have HB := Lib.hid (Bs.new w k)
  have hT := hk.facts
  have hT2 : onz k ≤ 2047 := by omega
  unfold sv at HO HS ⊢
  obtain ⟨T, hTT⟩ : ∃ T, onz k = T := ⟨_, rfl⟩
  rw [hTT] at HO hR hT2
  clear hT hTT
  by_cases h1 : X = T
  · have q1 : ((X : Int) == (T : Int)) = true := by rw [h1]; simp
    rw [if_pos h1] at hR
    by_cases h2 : M = 0
    · rw [if_pos h2] at hR
      have q2 : ((M : Int) != 0) = false := by rw [h2]; rfl
      subst hR
      clear h1 h2
      go_enter Try.func58, Try.ntmps58
      go_wp2_with fail
      refine (HS.out _).mono ?_
      rintro e w1 ⟨rfl, hb⟩
      have H1 := Lib.hid ((HB.out _).on hb)
      have hc := H1.out.all
      clear hb
      go_wp2_with fail
      refine (HO.out _).mono ?_
      rintro e w2 ⟨rfl, hb⟩
      have H2 := Lib.hid (H1.out.on hb)
      have hc2 := H2.out.all
      clear hb hc
      go_wp2_with fail
      refine (HO.out _).mono ?_
      rintro e w3 ⟨rfl, hb⟩
      have H3 := Lib.hid (H2.out.on hb)
      clear hb hc2
      go_wp2_with fail
      go_ret
      exact ⟨rfl, H3.out.b⟩
    · rw [if_neg h2] at hR
      have q2 : ((M : Int) != 0) = true := by simp; omega
      subst hR
      clear h1 h2
      go_enter Try.func58, Try.ntmps58
      go_wp2_with fail
      refine (HS.out _).mono ?_
      rintro e w1 ⟨rfl, hb⟩
      have H1 := Lib.hid ((HB.out _).on hb)
      have hc := H1.out.all
      clear hb
      go_wp2_with fail
      refine (HO.out _).mono ?_
      rintro e w2 ⟨rfl, hb⟩
      have H2 := Lib.hid (H1.out.on hb)
      have hc2 := H2.out.all
      clear hb hc
      go_wp2_with fail
      go_ret
      exact ⟨rfl, H2.out.b⟩
  · have q1 : ((X : Int) == (T : Int)) = false := by simp; omega
    rw [if_neg h1] at hR
    obtain ⟨B1, hB1⟩ : ∃ B1, ((X : Int) != 0) = B1 := ⟨_, rfl⟩
    obtain ⟨B2, hB2⟩ : ∃ B2, ((M : Int) != 0) = B2 := ⟨_, rfl⟩
    have HR : Hid (R = if B1 then 2 else if B2 then 1 else 0) := Lib.hid (by
      rw [← hR, ← hB1, ← hB2]
      by_cases c1 : X = 0
      · by_cases c2 : M = 0
        · simp [c1, c2]
        · simp [c1, c2]
      · simp [c1])
    clear h1 hR
    cases B1 <;> cases B2
    all_goals
      go_enter Try.func58, Try.ntmps58
      go_wp2_with fail
      refine (HS.out _).mono ?_
      rintro e w1 ⟨rfl, hb⟩
      have H1 := Lib.hid ((HB.out _).on hb)
      have hc := H1.out.all
      clear hb
      go_wp2_with fail
      refine (HO.out _).mono ?_
      rintro e w2 ⟨rfl, hb⟩
      have H2 := Lib.hid (H1.out.on hb)
      have hc2 := H2.out.all
      clear hb hc
      go_wp2_with fail
      refine (HO.out _).mono ?_
      rintro e w3 ⟨rfl, hb⟩
      have H3 := Lib.hid (H2.out.on hb)
      clear hb hc2
      go_wp2_with fail
      go_ret
      exact ⟨by rw [HR.out]; rfl, H3.out.b⟩
theorem class_any (k x : Nat) (w : World) (hk : kOk k) (hx : x < lim k) : Calls Try.prog 58 #[sv k, .int .u64 (x : Int)] w fun e w' => e = .returned (.int .i64 (clk k x : Int)) ∧ Below w.heap.size w w' := by
  have h2 := fr_lt (w := k) (x := x)
  have h1 := ex_lt (w := k) (x := x)
  have hf := hk.facts
  rw [show 2 ^ fb k = hdn k from rfl] at h2
  have h3 : ex k x ≤ onz k := by unfold onz; omega
  exact class_walk k x w (sg k x) (ex k x) (fr k x) hk (by omega) (by omega) (Lib.hid fun W => split_any k x W hk hx)

end Go.Proofs.Ytfchondipjiicaa.nn
namespace Go.Proofs.Ytfchondipjiicaa.nn
open Go.RowKit Go.Great

def shT : Array Value := #[.int .i64 16, .int .i64 5, .int .i64 10, .int .i64 32, .int .i64 8, .int .i64 23, .int .i64 64, .int .i64 11, .int .i64 52]
set_option maxRecDepth 100000 in
set_option maxHeartbeats 1000000 in
theorem shapes_any (w : World) : Calls Try.prog 66 #[] w fun e w' => e = .returned (.agg shT) ∧ Below w.heap.size w w' := by
  have HB := Lib.hid (fun o => (Below.refl w.heap.size w).alloc (Nat.le_refl _) o)
  go_enter Try.func66, Try.ntmps66
  go_wp2_with fail
  exact bodyPost_ret (v := .agg shT) (by simp [results, Try.results66, go_sem, shT]) rfl ⟨rfl, HB.out _⟩
theorem hsz1 (w : World) (o : Obj) : (w.alloc o).heap.size = w.heap.size + 1 := by simp
/-- a result of a struct of three numbers: its block, of a world that calls have changed -/
structure Rs3 (w : World) (T : TypeId) (W : World) : Prop where
  blk : W.heap[w.heap.size]? = some (.cells #[.int .i64 0, .int .i64 0, .int .i64 0] T (0, 0))
  b : Below w.heap.size w W
  z : w.heap.size < W.heap.size
theorem Rs3.new (w : World) (T : TypeId) : Rs3 w T (w.alloc (.cells #[.int .i64 0, .int .i64 0, .int .i64 0] T)) :=
  ⟨heap_alloc_last _ _, (Below.refl _ _).alloc (Nat.le_refl _) _, by rw [hsz1]; omega⟩
theorem Rs3.on {w W W' : World} {T : TypeId} (h : Rs3 w T W) (hB : Below W.heap.size W W') : Rs3 w T W' :=
  ⟨(hB.block _ h.z).trans h.blk, h.b.trans (hB.mono (Nat.le_of_lt h.z)), Nat.lt_of_lt_of_le h.z hB.size⟩
theorem Rs3.all {w W : World} {T : TypeId} (h : Rs3 w T W) : W.cell? ⟨w.heap.size, 0, none⟩ = some (.int .i64 0) ∧ W.cell? ⟨w.heap.size, 1, none⟩ = some (.int .i64 0) ∧ W.cell? ⟨w.heap.size, 2, none⟩ = some (.int .i64 0) ∧ (∀ i, W.frozen? ⟨w.heap.size, i, none⟩ = false) :=
  ⟨cell_of_row _ _ 0 _ _ _ h.blk, cell_of_row _ _ 1 _ _ _ h.blk, cell_of_row _ _ 2 _ _ _ h.blk, fun i => by have := h.blk; simp [World.frozen?, this]⟩
/-- row j of the table -/
def tW : Nat → Nat | 0 => 16 | 1 => 32 | _ => 64
set_option maxRecDepth 100000 in
theorem ix3 (j : Nat) (h : j < 3) (w : World) : (Instr.index 102 (.agg shT) (.int .i64 (j : Int))).run Try.prog w = .ok (.agg #[.int .i64 (tW j : Int), .int .i64 (xb (tW j) : Int), .int .i64 (fb (tW j) : Int)]) w := by
  match j, h with
  | 0, _ => exact (by kernel_rfl : (Instr.index 102 (.agg shT) (.int .i64 0)).run Try.prog w = .ok (.agg #[.int .i64 16, .int .i64 5, .int .i64 10]) w)
  | 1, _ => exact (by kernel_rfl : (Instr.index 102 (.agg shT) (.int .i64 1)).run Try.prog w = .ok (.agg #[.int .i64 32, .int .i64 8, .int .i64 23]) w)
  | 2, _ => exact (by kernel_rfl : (Instr.index 102 (.agg shT) (.int .i64 2)).run Try.prog w = .ok (.agg #[.int .i64 64, .int .i64 11, .int .i64 52]) w)
def soV (k : Int) : Value := if wOk k then sv k.toNat else .agg #[.int .i64 0, .int .i64 0, .int .i64 0]
theorem tW_ok (j : Nat) : wOk (tW j) := by
  unfold tW wOk
  split <;> simp
theorem tW_all {k : Int} (h : ∀ i, i < 3 → (tW i : Int) ≠ k) : ¬ wOk k := by
  have h0 := h 0 (by omega)
  have h1 := h 1 (by omega)
  have h2 := h 2 (by omega)
  simp only [tW] at h0 h1 h2
  unfold wOk
  omega
set_option maxRecDepth 100000 in
set_option maxHeartbeats 1000000 in
theorem shapeOf_any (k : Int) (w : World) : Calls Try.prog 62 #[.int .i64 k] w fun e w' => e = .returned (.tuple #[soV k, .bool (decide (wOk k))]) ∧ Below w.heap.size w w' := by
  obtain ⟨V, hV⟩ : ∃ V, soV k = V := ⟨_, rfl⟩
  obtain ⟨O, hO⟩ : ∃ O, decide (wOk k) = O := ⟨_, rfl⟩
  rw [hV, hO]
  have HV := Lib.hid (And.intro hV hO)
  clear hV hO
  have HB := Lib.hid (Rs3.new w 88)
  go_enter Try.func62, Try.ntmps62
  go_wp2_with fail
  refine (shapes_any _).mono ?_
  rintro e w1 ⟨rfl, hb⟩
  have H1 := Lib.hid (HB.out.on hb)
  clear hb
  go_wp2_with fail
  go_loopw [7] (fun s7 wr => ∃ j : Nat, j ≤ 3 ∧ s7 = .int .i64 (j : Int) ∧ Hid (∀ i, i < j → (tW i : Int) ≠ k) ∧ Hid (Rs3 w 88 wr)) (fun s7 _ => (3 - intOf s7).toNat)
  case atStart => exact ⟨0, by omega, rfl, Lib.hid (fun i hi => absurd hi (by omega)), H1⟩
  case round =>
    obtain ⟨j, hj, rfl, hno, hR⟩ := hrel
    obtain ⟨c0, c1, c2, f0⟩ := hR.out.all
    have hz := hR.out.z
    have hlt : ∀ o, w.heap.size < (wr.alloc o).heap.size := fun o => by rw [hsz1]; omega
    by_cases hj3 : j < 3
    · have hix := ix3 j hj3
      have HW := Lib.hid (And.intro (tW_ok j) (show (tW j : Int).toNat = tW j from Int.toNat_natCast _))
      obtain ⟨K, hK⟩ : ∃ K, tW j = K := ⟨_, rfl⟩
      rw [hK] at hix HW
      have HKJ := Lib.hid hK
      clear hK
      by_cases he : (K : Int) = k
      · have q1 : ((K : Int) == k) = true := by simp [he]
        have HE := Lib.hid he
        clear he
        go_wp2_with fail
        have hne : ¬ w.heap.size = wr.heap.size := by omega
        have hblk := hR.out.blk
        refine bodyPost_ret (v := .tuple #[.agg #[.int .i64 (K : Int), .int .i64 (xb K : Int), .int .i64 (fb K : Int)], .bool true]) (by simp [results, Try.results62, go_sem, World.cell?, World.setCell, World.alloc, Array.getElem?_push, Array.getElem?_modify, hblk, hne]) rfl ⟨?_, ?_⟩
        · rw [← HV.out.1, ← HV.out.2]
          unfold soV
          rw [← HE.out, if_pos HW.out.1, HW.out.2, decide_eq_true HW.out.1]
          rfl
        · exact (((hR.out.b.setCell (Nat.le_refl _) _).setCell (Nat.le_refl _) _).setCell (Nat.le_refl _) _).alloc (by simp [World.setCell]; omega) _
      · have q1 : ((K : Int) == k) = false := by simp [he]
        have HN2 : Hid (∀ i, i < j + 1 → (tW i : Int) ≠ k) := Lib.hid fun i hi => by
          by_cases h : i < j
          · exact hno.out i h
          · have e : i = j := by omega
            rw [e, HKJ.out]
            exact he
        clear he
        go_wp2_with fail
        go_roundw
        case rel => exact ⟨j + 1, by omega, by go_num, HN2, Lib.hid (hR.out.on ((Below.refl _ _).alloc (Nat.le_refl _) _))⟩
        case measure => simp [intOf]; omega
    · obtain rfl : j = 3 := by omega
      have HN := Lib.hid (tW_all hno.out)
      clear hno
      go_wp2_with fail
      have hblk := hR.out.blk
      refine bodyPost_ret (v := .tuple #[.agg #[.int .i64 0, .int .i64 0, .int .i64 0], .bool false]) (by simp [results, Try.results62, go_sem, World.cell?, World.setCell, Array.getElem?_modify, hblk]) rfl ⟨?_, ?_⟩
      · rw [← HV.out.1, ← HV.out.2]
        unfold soV
        rw [if_neg HN.out, decide_eq_false HN.out]
      · exact ((hR.out.b.setCell (Nat.le_refl _) _).setCell (Nat.le_refl _) _).setCell (Nat.le_refl _) _
end Go.Proofs.Ytfchondipjiicaa.nn
namespace Go.Proofs.Ytfchondipjiicaa.nn
open Go.RowKit Go.Great

def z3 : Value := .agg #[.int .i64 0, .int .i64 0, .int .i64 0]
def sfV (k : Int) (x : Nat) : Value := if fits k x then sv k.toNat else z3
def SfAns (k : Int) (x : Nat) (W : World) (e : Ending) (W' : World) : Prop := e = .returned (.tuple #[sfV k x, .int .i64 (paE k x : Int)]) ∧ Below W.heap.size W W'
set_option maxRecDepth 100000 in
set_option maxHeartbeats 1000000 in
theorem shapeFor_no (k : Int) (x : Nat) (w : World) (hk : ¬ wOk k) : Calls Try.prog 57 #[.int .i64 k, .int .u64 (x : Int)] w (SfAns k x w) := by
  have HNO : Hid (¬ fits k x) := Lib.hid fun h => hk h.1
  have HS : Hid (∀ W, Calls Try.prog 62 #[.int .i64 k] W fun e w' => e = .returned (.tuple #[.agg #[.int .i64 0, .int .i64 0, .int .i64 0], .bool false]) ∧ Below W.heap.size W w') := Lib.hid fun W => by
    have h := shapeOf_any k W
    unfold soV at h
    rw [if_neg hk, decide_eq_false hk] at h
    exact h
  clear hk
  have HB := Lib.hid (Rs3.new w 88)
  go_enter Try.func57, Try.ntmps57
  go_wp2_with fail
  refine (HS.out _).mono ?_
  rintro e w1 ⟨rfl, hb⟩
  have H1 := Lib.hid (HB.out.on hb)
  obtain ⟨c0, c1, c2, f0⟩ := H1.out.all
  have hz := H1.out.z
  have hlt : ∀ o, w.heap.size < (w1.alloc o).heap.size := fun o => by rw [hsz1]; omega
  clear hb
  go_wp2_with fail
  have hne : ¬ w.heap.size = w1.heap.size := by omega
  have hblk := H1.out.blk
  refine bodyPost_ret (v := .tuple #[.agg #[.int .i64 0, .int .i64 0, .int .i64 0], .int .i64 1]) (by simp [results, Try.results57, go_sem, World.cell?, World.setCell, World.alloc, Array.getElem?_push, Array.getElem?_modify, hblk, hne]) rfl ⟨?_, ?_⟩
  · unfold sfV paE
    rw [if_neg HNO.out, if_neg HNO.out]
    rfl
  · exact (((H1.out.b.setCell (Nat.le_refl _) _).setCell (Nat.le_refl _) _).setCell (Nat.le_refl _) _).alloc (by simp [World.setCell]; omega) _
set_option maxRecDepth 100000 in
set_option maxHeartbeats 1000000 in
theorem shapeFor_16_yes (x : Nat) (w : World) (hx : x < 18446744073709551616) (h : x < 65536) : Calls Try.prog 57 #[.int .i64 16, .int .u64 (x : Int)] w (SfAns ((16 : Nat) : Int) x w) := by
  have HF : Hid (fits ((16 : Nat) : Int) x) := Lib.hid (⟨by unfold wOk; omega, fun _ => h⟩)
  have q1 : ((x : Int) / 65536 != 0) = false := by simp; omega
  clear h
  have HS : Hid (∀ W, Calls Try.prog 62 #[.int .i64 16] W fun e w' => e = .returned (.tuple #[.agg #[.int .i64 16, .int .i64 5, .int .i64 10], .bool true]) ∧ Below W.heap.size W w') := Lib.hid fun W => shapeOf_any 16 W
  have HB := Lib.hid (Rs3.new w 88)
  go_enter Try.func57, Try.ntmps57
  go_wp2_with fail
  refine (HS.out _).mono ?_
  rintro e w1 ⟨rfl, hb⟩
  have H1 := Lib.hid (HB.out.on hb)
  obtain ⟨c0, c1, c2, f0⟩ := H1.out.all
  have hz := H1.out.z
  have hlt : ∀ o, w.heap.size < (w1.alloc o).heap.size := fun o => by rw [hsz1]; omega
  clear hb
  go_wp2_with fail
  have hne : ¬ w.heap.size = w1.heap.size := by omega
  have hblk := H1.out.blk
  refine bodyPost_ret (v := .tuple #[.agg #[.int .i64 16, .int .i64 5, .int .i64 10], .int .i64 0]) (by simp [results, Try.results57, go_sem, World.cell?, World.setCell, World.alloc, Array.getElem?_push, Array.getElem?_modify, hblk, hne]) rfl ⟨?_, ?_⟩
  · unfold sfV paE
    rw [if_pos HF.out, if_pos HF.out]
    rfl
  · exact (((H1.out.b.setCell (Nat.le_refl _) _).setCell (Nat.le_refl _) _).setCell (Nat.le_refl _) _).alloc (by simp [World.setCell]; omega) _
set_option maxRecDepth 100000 in
set_option maxHeartbeats 1000000 in
theorem shapeFor_16_no (x : Nat) (w : World) (hx : x < 18446744073709551616) (h : ¬ x < 65536) : Calls Try.prog 57 #[.int .i64 16, .int .u64 (x : Int)] w (SfAns ((16 : Nat) : Int) x w) := by
  have HF : Hid (¬ fits ((16 : Nat) : Int) x) := Lib.hid (fun h' => h (h'.2 (by decide)))
  have q1 : ((x : Int) / 65536 != 0) = true := by simp; omega
  clear h
  have HS : Hid (∀ W, Calls Try.prog 62 #[.int .i64 16] W fun e w' => e = .returned (.tuple #[.agg #[.int .i64 16, .int .i64 5, .int .i64 10], .bool true]) ∧ Below W.heap.size W w') := Lib.hid fun W => shapeOf_any 16 W
  have HB := Lib.hid (Rs3.new w 88)
  go_enter Try.func57, Try.ntmps57
  go_wp2_with fail
  refine (HS.out _).mono ?_
  rintro e w1 ⟨rfl, hb⟩
  have H1 := Lib.hid (HB.out.on hb)
  obtain ⟨c0, c1, c2, f0⟩ := H1.out.all
  have hz := H1.out.z
  have hlt : ∀ o, w.heap.size < (w1.alloc o).heap.size := fun o => by rw [hsz1]; omega
  clear hb
  go_wp2_with fail
  have hne : ¬ w.heap.size = w1.heap.size := by omega
  have hblk := H1.out.blk
  refine bodyPost_ret (v := .tuple #[.agg #[.int .i64 0, .int .i64 0, .int .i64 0], .int .i64 1]) (by simp [results, Try.results57, go_sem, World.cell?, World.setCell, World.alloc, Array.getElem?_push, Array.getElem?_modify, hblk, hne]) rfl ⟨?_, ?_⟩
  · unfold sfV paE
    rw [if_neg HF.out, if_neg HF.out]
    rfl
  · exact (((H1.out.b.setCell (Nat.le_refl _) _).setCell (Nat.le_refl _) _).setCell (Nat.le_refl _) _).alloc (by simp [World.setCell]; omega) _
set_option maxRecDepth 100000 in
set_option maxHeartbeats 1000000 in
theorem shapeFor_32_yes (x : Nat) (w : World) (hx : x < 18446744073709551616) (h : x < 4294967296) : Calls Try.prog 57 #[.int .i64 32, .int .u64 (x : Int)] w (SfAns ((32 : Nat) : Int) x w) := by
  have HF : Hid (fits ((32 : Nat) : Int) x) := Lib.hid (⟨by unfold wOk; omega, fun _ => h⟩)
  have q1 : ((x : Int) / 4294967296 != 0) = false := by simp; omega
  clear h
  have HS : Hid (∀ W, Calls Try.prog 62 #[.int .i64 32] W fun e w' => e = .returned (.tuple #[.agg #[.int .i64 32, .int .i64 8, .int .i64 23], .bool true]) ∧ Below W.heap.size W w') := Lib.hid fun W => shapeOf_any 32 W
  have HB := Lib.hid (Rs3.new w 88)
  go_enter Try.func57, Try.ntmps57
  go_wp2_with fail
  refine (HS.out _).mono ?_
  rintro e w1 ⟨rfl, hb⟩
  have H1 := Lib.hid (HB.out.on hb)
  obtain ⟨c0, c1, c2, f0⟩ := H1.out.all
  have hz := H1.out.z
  have hlt : ∀ o, w.heap.size < (w1.alloc o).heap.size := fun o => by rw [hsz1]; omega
  clear hb
  go_wp2_with fail
  have hne : ¬ w.heap.size = w1.heap.size := by omega
  have hblk := H1.out.blk
  refine bodyPost_ret (v := .tuple #[.agg #[.int .i64 32, .int .i64 8, .int .i64 23], .int .i64 0]) (by simp [results, Try.results57, go_sem, World.cell?, World.setCell, World.alloc, Array.getElem?_push, Array.getElem?_modify, hblk, hne]) rfl ⟨?_, ?_⟩
  · unfold sfV paE
    rw [if_pos HF.out, if_pos HF.out]
    rfl
  · exact (((H1.out.b.setCell (Nat.le_refl _) _).setCell (Nat.le_refl _) _).setCell (Nat.le_refl _) _).alloc (by simp [World.setCell]; omega) _
set_option maxRecDepth 100000 in
set_option maxHeartbeats 1000000 in
theorem shapeFor_32_no (x : Nat) (w : World) (hx : x < 18446744073709551616) (h : ¬ x < 4294967296) : Calls Try.prog 57 #[.int .i64 32, .int .u64 (x : Int)] w (SfAns ((32 : Nat) : Int) x w) := by
  have HF : Hid (¬ fits ((32 : Nat) : Int) x) := Lib.hid (fun h' => h (h'.2 (by decide)))
  have q1 : ((x : Int) / 4294967296 != 0) = true := by simp; omega
  clear h
  have HS : Hid (∀ W, Calls Try.prog 62 #[.int .i64 32] W fun e w' => e = .returned (.tuple #[.agg #[.int .i64 32, .int .i64 8, .int .i64 23], .bool true]) ∧ Below W.heap.size W w') := Lib.hid fun W => shapeOf_any 32 W
  have HB := Lib.hid (Rs3.new w 88)
  go_enter Try.func57, Try.ntmps57
  go_wp2_with fail
  refine (HS.out _).mono ?_
  rintro e w1 ⟨rfl, hb⟩
  have H1 := Lib.hid (HB.out.on hb)
  obtain ⟨c0, c1, c2, f0⟩ := H1.out.all
  have hz := H1.out.z
  have hlt : ∀ o, w.heap.size < (w1.alloc o).heap.size := fun o => by rw [hsz1]; omega
  clear hb
  go_wp2_with fail
  have hne : ¬ w.heap.size = w1.heap.size := by omega
  have hblk := H1.out.blk
  refine bodyPost_ret (v := .tuple #[.agg #[.int .i64 0, .int .i64 0, .int .i64 0], .int .i64 1]) (by simp [results, Try.results57, go_sem, World.cell?, World.setCell, World.alloc, Array.getElem?_push, Array.getElem?_modify, hblk, hne]) rfl ⟨?_, ?_⟩
  · unfold sfV paE
    rw [if_neg HF.out, if_neg HF.out]
    rfl
  · exact (((H1.out.b.setCell (Nat.le_refl _) _).setCell (Nat.le_refl _) _).setCell (Nat.le_refl _) _).alloc (by simp [World.setCell]; omega) _
set_option maxRecDepth 100000 in
set_option maxHeartbeats 1000000 in
theorem shapeFor_64_yes (x : Nat) (w : World) (hx : x < 18446744073709551616) (_ : x < 18446744073709551616) : Calls Try.prog 57 #[.int .i64 64, .int .u64 (x : Int)] w (SfAns ((64 : Nat) : Int) x w) := by
  have HF : Hid (fits ((64 : Nat) : Int) x) := Lib.hid (⟨by unfold wOk; omega, fun h => absurd h (by decide)⟩)
  have q1 : ((x : Int) / 18446744073709551616 != 0) = false := by simp; omega
  have HS : Hid (∀ W, Calls Try.prog 62 #[.int .i64 64] W fun e w' => e = .returned (.tuple #[.agg #[.int .i64 64, .int .i64 11, .int .i64 52], .bool true]) ∧ Below W.heap.size W w') := Lib.hid fun W => shapeOf_any 64 W
  have HB := Lib.hid (Rs3.new w 88)
  go_enter Try.func57, Try.ntmps57
  go_wp2_with fail
  refine (HS.out _).mono ?_
  rintro e w1 ⟨rfl, hb⟩
  have H1 := Lib.hid (HB.out.on hb)
  obtain ⟨c0, c1, c2, f0⟩ := H1.out.all
  have hz := H1.out.z
  have hlt : ∀ o, w.heap.size < (w1.alloc o).heap.size := fun o => by rw [hsz1]; omega
  clear hb
  go_wp2_with fail
  have hne : ¬ w.heap.size = w1.heap.size := by omega
  have hblk := H1.out.blk
  refine bodyPost_ret (v := .tuple #[.agg #[.int .i64 64, .int .i64 11, .int .i64 52], .int .i64 0]) (by simp [results, Try.results57, go_sem, World.cell?, World.setCell, World.alloc, Array.getElem?_push, Array.getElem?_modify, hblk, hne]) rfl ⟨?_, ?_⟩
  · unfold sfV paE
    rw [if_pos HF.out, if_pos HF.out]
    rfl
  · exact (((H1.out.b.setCell (Nat.le_refl _) _).setCell (Nat.le_refl _) _).setCell (Nat.le_refl _) _).alloc (by simp [World.setCell]; omega) _

theorem shapeFor_any (k : Int) (x : Nat) (w : World) (hx : x < 18446744073709551616) : Calls Try.prog 57 #[.int .i64 k, .int .u64 (x : Int)] w (SfAns k x w) := by
  by_cases hk : wOk k
  · unfold wOk at hk
    rcases hk with rfl | rfl | rfl
    · by_cases h : x < 65536
      · exact shapeFor_16_yes x w hx h
      · exact shapeFor_16_no x w hx h
    · by_cases h : x < 4294967296
      · exact shapeFor_32_yes x w hx h
      · exact shapeFor_32_no x w hx h
    · exact shapeFor_64_yes x w hx hx
  · exact shapeFor_no k x w hk
theorem fits.facts {k : Int} {x : Nat} (h : fits k x) (hx : x < 18446744073709551616) : kOk k.toNat ∧ x < lim k.toNat := by
  obtain ⟨h1, h2⟩ := h
  unfold wOk at h1
  rcases h1 with rfl | rfl | rfl
  · exact ⟨.inl rfl, h2 (by decide)⟩
  · exact ⟨.inr (.inl rfl), h2 (by decide)⟩
  · exact ⟨.inr (.inr rfl), hx⟩
/-- the two ways of shapeFor -/
theorem shapeFor_yes {k : Int} {x : Nat} (W : World) (hx : x < 18446744073709551616) (h : fits k x) : Calls Try.prog 57 #[.int .i64 k, .int .u64 (x : Int)] W fun e w' => e = .returned (.tuple #[sv k.toNat, .int .i64 0]) ∧ Below W.heap.size W w' := by
  have := shapeFor_any k x W hx
  unfold SfAns sfV paE at this
  rw [if_pos h, if_pos h] at this
  exact this
theorem shapeFor_not {k : Int} {x : Nat} (W : World) (hx : x < 18446744073709551616) (h : ¬ fits k x) : Calls Try.prog 57 #[.int .i64 k, .int .u64 (x : Int)] W fun e w' => e = .returned (.tuple #[z3, .int .i64 1]) ∧ Below W.heap.size W w' := by
  have := shapeFor_any k x W hx
  unfold SfAns sfV paE at this
  rw [if_neg h, if_neg h] at this
  exact this
set_option maxRecDepth 100000 in
set_option maxHeartbeats 1000000 in
theorem fclass_any (k : Int) (x : Nat) (w : World) (hx : x < 18446744073709551616) : Calls Try.prog 54 #[.int .i64 k, .int .u64 (x : Int)] w (ClAns k x w) := by
  unfold ClAns
  by_cases hf : fits k x
  · have HS := Lib.hid (fun W => shapeFor_yes W hx hf)
    obtain ⟨hk, hl⟩ := hf.facts hx
    have e3 : paE k x = 0 := by unfold paE; rw [if_pos hf]
    have e4 : clC k x = clk k.toNat x := by unfold clC; rw [if_pos hf]; rfl
    rw [e3, e4]
    have HC := Lib.hid (fun W => class_any k.toNat x W hk hl)
    clear e3 e4 hf hk hl
    obtain ⟨R, hR⟩ : ∃ R, clk k.toNat x = R := ⟨_, rfl⟩
    rw [hR] at HC ⊢
    clear hR
    obtain ⟨K, hK⟩ : ∃ K, k.toNat = K := ⟨_, rfl⟩
    rw [hK] at HC HS
    clear hK
    unfold sv at HS HC
    go_enter Try.func54, Try.ntmps54
    go_wp2_with fail
    with_reducible refine (HS.out _).mono ?_
    rintro e w1 ⟨rfl, hb⟩
    have H1 := Lib.hid hb
    clear hb
    go_wp2_with fail
    with_reducible refine (HC.out _).mono ?_
    rintro e w2 ⟨rfl, hb⟩
    have H2 := Lib.hid ((H1.out.alloc H1.out.size _).trans (hb.mono (Nat.le_trans H1.out.size (by simp))))
    clear hb
    go_wp2_with fail
    go_ret2
    exact ⟨rfl, H2.out⟩
  · have HS := Lib.hid (fun W => shapeFor_not W hx hf)
    have e3 : paE k x = 1 := by unfold paE; rw [if_neg hf]
    have e4 : clC k x = 0 := by unfold clC; rw [if_neg hf]
    rw [e3, e4]
    clear e3 e4 hf
    unfold z3 at HS
    go_enter Try.func54, Try.ntmps54
    go_wp2_with fail
    with_reducible refine (HS.out _).mono ?_
    rintro e w1 ⟨rfl, hb⟩
    have H1 := Lib.hid hb
    clear hb
    go_wp2_with fail
    go_ret2
    exact ⟨rfl, H1.out.alloc H1.out.size _⟩
end Go.Proofs.Ytfchondipjiicaa.nn
namespace Go.Proofs.Ytfchondipjiicaa.nn
open Go.RowKit

set_option maxRecDepth 100000 in
set_option maxHeartbeats 2000000 in
theorem cover_any (a b c d : Bool) (t : VT) (A : Option Addr) (m cc : Nat) (w : World) (_ : m ≤ 4611686018427387904) :
    Calls Try.prog 41 #[.agg #[.bool a, .bool b, .bool c, .bool d], vv t (.slice A m cc)] w fun e w' => e = .returned (.bool ((a || !t.g) && (b || nE t) && (c || sE t) && (d || decide (m = 0)))) ∧ Below w.heap.size w w' := by
  have HA := Lib.hid (fun o o' => (((Below.refl w.heap.size w).alloc (Nat.le_refl _) o).alloc (by simp) o'))
  obtain ⟨B1, h1⟩ : ∃ B1, t.s.toList.isEmpty = B1 := ⟨_, rfl⟩
  obtain ⟨B2, h2⟩ : ∃ B2, ((t.n : Int) == 0) = B2 := ⟨_, rfl⟩
  obtain ⟨B3, h3⟩ : ∃ B3, t.g = B3 := ⟨_, rfl⟩
  obtain ⟨B4, h4⟩ : ∃ B4, ((m : Int) == 0) = B4 := ⟨_, rfl⟩
  have h5 : decide (m = 0) = B4 := by rw [← h4]; cases hh : ((m : Int) == 0) <;> simp_all
  unfold vv sE nE
  rw [h1, h2, h3, h5]
  clear h3 h5
  go_enter Try.func41, Try.ntmps41
  go_wp2_with fail
  all_goals
    go_ret
    exact ⟨by simp_all, HA.out _ _⟩
set_option maxRecDepth 100000 in
theorem canBig_any (s : ByteArray) (w : World) : Calls Try.prog 48 #[.string s] w fun e w' => e = .returned (.bool (big s)) ∧ w = w' := by
  unfold big
  by_cases h1 : 8 < s.size
  · by_cases h2 : s.size ≤ 512
    · have h0 : 0 < s.size := by omega
      have h9 : 9 ≤ s.size := by omega
      have hb := bt_at h0
      by_cases h3 : bt s 0 = 0
      · rw [decide_eq_false (by omega)]
        have q : ((s[0].toNat : Int) != 0) = false := by rw [← hb, h3]; rfl
        clear hb h3
        go_enter Try.func48, Try.ntmps48
        go_wp2_with fail
        go_ret
        exact ⟨rfl, rfl⟩
      · rw [decide_eq_true ⟨h1, h2, h3⟩]
        have q : ((s[0].toNat : Int) != 0) = true := by rw [← hb]; simp; omega
        clear hb h3
        go_enter Try.func48, Try.ntmps48
        go_wp2_with fail
        go_ret
        exact ⟨rfl, rfl⟩
    · rw [decide_eq_false (by omega)]
      have h9 : 9 ≤ s.size := by omega
      go_enter Try.func48, Try.ntmps48
      go_wp2_with fail
      go_ret
      exact ⟨rfl, rfl⟩
  · rw [decide_eq_false (by omega)]
    have h9 : ¬ 9 ≤ s.size := by omega
    go_enter Try.func48, Try.ntmps48
    go_wp2_with fail
    go_ret
    exact ⟨rfl, rfl⟩
set_option maxRecDepth 100000 in
theorem isFloat_any (k : Int) (x : Nat) (w : World) (hx : x < 18446744073709551616) : Calls Try.prog 49 #[.int .i64 k, .int .u64 (x : Int)] w fun e w' => e = .returned (.bool (decide (paE k x = 0))) ∧ Below w.heap.size w w' := by
  have HC := Lib.hid (fclass_any k x w hx)
  unfold ClAns at HC
  obtain ⟨E, hE⟩ : ∃ E, paE k x = E := ⟨_, rfl⟩
  rw [hE] at HC ⊢
  have hEE : E = 0 ∨ E = 1 := by rw [← hE]; unfold paE; split <;> simp
  clear hE
  go_enter Try.func49, Try.ntmps49
  go_wp2_with fail
  refine HC.out.mono ?_
  rintro e w2 ⟨rfl, hb⟩
  have HB := Lib.hid hb
  clear hb
  rcases hEE with rfl | rfl
  · go_wp2_with fail
    go_ret
    exact ⟨rfl, HB.out⟩
  · go_wp2_with fail
    go_ret
    exact ⟨rfl, HB.out⟩
set_option maxRecDepth 100000 in
set_option maxHeartbeats 1000000 in
theorem tellsBig_any (n : Nat) (x : VT) (D : Value) (w : World) : Calls Try.prog 51 #[.int .u64 (n : Int), vv x D] w fun e w' => e = .returned (.bool (decide (n = 2 ∨ n = 3) && (decide (x.k = 9) && big x.s))) ∧ Below w.heap.size w w' := by
  have HA := Lib.hid (fun o => (Below.refl w.heap.size w).alloc (Nat.le_refl _) o)
  have HG := Lib.hid (fun w => canBig_any x.s w)
  obtain ⟨G, hG⟩ : ∃ G, big x.s = G := ⟨_, rfl⟩
  rw [hG] at HG ⊢
  obtain ⟨xk, hxk⟩ : ∃ k, x.k = k := ⟨_, rfl⟩
  unfold vv
  rw [hxk]
  clear hG hxk
  by_cases h4 : n = 2 ∨ n = 3
  · rw [decide_eq_true h4]
    by_cases h5 : xk = 9
    · subst h5
      rcases h4 with h4 | h4
      all_goals
        subst h4
        go_enter Try.func51, Try.ntmps51
        go_wp2_with fail
        refine (HG.out _).mono ?_
        rintro e w2 ⟨rfl, rfl⟩
        go_wp2_with fail
        cases G
        all_goals
          go_ret
          exact ⟨by simp_all, HA.out _⟩
    · have q5 := ne_int8 (c := xk) (k := 9) h5
      rw [decide_eq_false h5]
      rcases h4 with h4 | h4
      all_goals
        subst h4
        clear h5
        go_enter Try.func51, Try.ntmps51
        go_wp2_with fail
        go_ret
        exact ⟨by simp_all, HA.out _⟩
  · rw [decide_eq_false h4]
    have q1 := ne_int8 (c := (n : Int)) (k := 2) (by omega)
    have q2 := ne_int8 (c := (n : Int)) (k := 3) (by omega)
    clear h4
    go_enter Try.func51, Try.ntmps51
    go_wp2_with fail
    go_ret
    exact ⟨by simp_all, HA.out _⟩
end Go.Proofs.Ytfchondipjiicaa.nn
namespace Go.Proofs.Ytfchondipjiicaa.nn
open Go.RowKit

/-- are the fields that a value has within the bounds of its kind -/
def wiB (t : VT) : Bool :=
  if t.k = 1 then decide (t.n ≤ 1)
  else if t.k = 3 then decide (t.n ≤ 19 ∨ 32 ≤ t.n ∧ t.n ≤ 255)
  else if t.k = 5 then big t.s
  else if t.k = 6 then decide (t.n < 65536)
  else if t.k = 7 then decide (t.n < 4294967296)
  else if t.k = 10 then decide (ckE (bt t.s) t.s.size = 0)
  else if t.k = 12 then decide (t.l.length % 2 = 0)
  else if t.k = 13 then decide (t.l.length = 1) && !guise t.n t.l
  else if t.k = 14 then decide (t.n ≤ 255)
  else true
theorem drewN_kw {B : Nat} {w W : World} (h : Below B w W) (n : Nat) : Below B w (W.drewN n) := ⟨h.os, h.tape, h.output, h.size, h.block⟩
theorem paE_16 (x : Nat) : decide (paE 16 x = 0) = decide (x < 65536) := by
  by_cases h : x < 65536
  · rw [decide_eq_true h, decide_eq_true]
    unfold paE
    rw [if_pos ⟨by unfold wOk; omega, fun _ => h⟩]
  · rw [decide_eq_false h, decide_eq_false]
    unfold paE
    rw [if_neg (fun h2 => h (h2.2 (by omega)))]
    omega
theorem paE_32 (x : Nat) : decide (paE 32 x = 0) = decide (x < 4294967296) := by
  by_cases h : x < 4294967296
  · rw [decide_eq_true h, decide_eq_true]
    unfold paE
    rw [if_pos ⟨by unfold wOk; omega, fun _ => h⟩]
  · rw [decide_eq_false h, decide_eq_false]
    unfold paE
    rw [if_neg (fun h2 => h (h2.2 (by omega)))]
    omega
set_option maxRecDepth 100000 in
set_option maxHeartbeats 2000000 in
theorem wi_1 (t : VT) (C : Value) (w : World) (hk : t.k = 1) : Calls Try.prog 42 #[vv t C] w fun e w' => e = .returned (.bool (decide (t.n ≤ 1))) ∧ Below w.heap.size w w' := by
  have HA := Lib.hid (fun o => (Below.refl w.heap.size w).alloc (Nat.le_refl _) o)
  unfold vv
  rw [hk]
  clear hk
  by_cases h : t.n ≤ 1
  · rw [decide_eq_true h]
    go_enter Try.func42, Try.ntmps42
    go_wp2_with fail
    go_ret
    exact ⟨by simp <;> omega, HA.out _⟩
  · rw [decide_eq_false h]
    go_enter Try.func42, Try.ntmps42
    go_wp2_with fail
    go_ret
    exact ⟨by simp <;> omega, HA.out _⟩
set_option maxRecDepth 100000 in
set_option maxHeartbeats 2000000 in
theorem wi_3 (t : VT) (C : Value) (w : World) (hk : t.k = 3) : Calls Try.prog 42 #[vv t C] w fun e w' => e = .returned (.bool (decide (t.n ≤ 19 ∨ 32 ≤ t.n ∧ t.n ≤ 255))) ∧ Below w.heap.size w w' := by
  have HA := Lib.hid (fun o => (Below.refl w.heap.size w).alloc (Nat.le_refl _) o)
  unfold vv
  rw [hk]
  clear hk
  by_cases h : t.n ≤ 19
  · rw [decide_eq_true (.inl h)]
    go_enter Try.func42, Try.ntmps42
    go_wp2_with fail
    go_ret
    exact ⟨by simp <;> omega, HA.out _⟩
  · by_cases h2 : 32 ≤ t.n
    · by_cases h3 : t.n ≤ 255
      · rw [decide_eq_true (.inr ⟨h2, h3⟩)]
        go_enter Try.func42, Try.ntmps42
        go_wp2_with fail
        go_ret
        exact ⟨by simp <;> omega, HA.out _⟩
      · rw [decide_eq_false (by omega)]
        go_enter Try.func42, Try.ntmps42
        go_wp2_with fail
        go_ret
        exact ⟨by simp <;> omega, HA.out _⟩
    · rw [decide_eq_false (by omega)]
      go_enter Try.func42, Try.ntmps42
      go_wp2_with fail
      go_ret
      exact ⟨by simp <;> omega, HA.out _⟩
set_option maxRecDepth 100000 in
set_option maxHeartbeats 2000000 in
theorem wi_5 (t : VT) (C : Value) (w : World) (hk : t.k = 5) : Calls Try.prog 42 #[vv t C] w fun e w' => e = .returned (.bool (big t.s)) ∧ Below w.heap.size w w' := by
  have HA := Lib.hid (fun o => (Below.refl w.heap.size w).alloc (Nat.le_refl _) o)
  have HG := Lib.hid (fun w => canBig_any t.s w)
  obtain ⟨G, hG⟩ : ∃ G, big t.s = G := ⟨_, rfl⟩
  rw [hG] at HG ⊢
  unfold vv
  rw [hk]
  clear hk hG
  go_enter Try.func42, Try.ntmps42
  go_wp2_with fail
  refine (HG.out _).mono ?_
  rintro e w2 ⟨rfl, rfl⟩
  go_wp2_with fail
  go_ret
  exact ⟨rfl, HA.out _⟩
set_option maxRecDepth 100000 in
set_option maxHeartbeats 2000000 in
theorem wi_67 (t : VT) (C : Value) (w : World) (hk : t.k = 6 ∨ t.k = 7) (hn : t.n < 18446744073709551616) : Calls Try.prog 42 #[vv t C] w fun e w' => e = .returned (.bool (decide (t.n < if t.k = 6 then 65536 else 4294967296))) ∧ Below w.heap.size w w' := by
  have HB := Lib.hid (fun o W (h : Below (w.alloc o).heap.size (w.alloc o) W) => ((Below.refl w.heap.size w).alloc (Nat.le_refl _) o).trans (h.mono (by simp)))
  rcases hk with hk | hk
  · rw [if_pos hk]
    have HG := Lib.hid (fun w => isFloat_any 16 t.n w hn)
    rw [paE_16] at HG
    obtain ⟨G, hG⟩ : ∃ G, decide (t.n < 65536) = G := ⟨_, rfl⟩
    rw [hG] at HG ⊢
    unfold vv
    rw [hk]
    clear hk hG hn
    go_enter Try.func42, Try.ntmps42
    go_wp2_with fail
    refine (HG.out _).mono ?_
    rintro e w2 ⟨rfl, hb⟩
    have hb2 := Lib.hid (HB.out _ _ hb)
    clear hb
    go_wp2_with fail
    go_ret
    exact ⟨rfl, hb2.out⟩
  · rw [if_neg (by rw [hk]; decide)]
    have HG := Lib.hid (fun w => isFloat_any 32 t.n w hn)
    rw [paE_32] at HG
    obtain ⟨G, hG⟩ : ∃ G, decide (t.n < 4294967296) = G := ⟨_, rfl⟩
    rw [hG] at HG ⊢
    unfold vv
    rw [hk]
    clear hk hG hn
    go_enter Try.func42, Try.ntmps42
    go_wp2_with fail
    refine (HG.out _).mono ?_
    rintro e w2 ⟨rfl, hb⟩
    have hb2 := Lib.hid (HB.out _ _ hb)
    clear hb
    go_wp2_with fail
    go_ret
    exact ⟨rfl, hb2.out⟩
set_option maxRecDepth 100000 in
set_option maxHeartbeats 2000000 in
theorem wi_10 (t : VT) (C : Value) (w : World) (hk : t.k = 10) (hS : t.s.size ≤ maxLen) : Calls Try.prog 42 #[vv t C] w fun e w' => e = .returned (.bool (decide (ckE (bt t.s) t.s.size = 0))) ∧ Below w.heap.size w w' := by
  have HB := Lib.hid (fun o W (h : Below (w.alloc o).heap.size (w.alloc o) W) => ((Below.refl w.heap.size w).alloc (Nat.le_refl _) o).trans (h.mono (by simp)))
  have HG := Lib.hid (fun w => check_any t.s w hS)
  obtain ⟨G, hG⟩ : ∃ G, ckE (bt t.s) t.s.size = G := ⟨_, rfl⟩
  rw [hG] at HG ⊢
  unfold vv
  rw [hk]
  clear hk hG hS
  go_enter Try.func42, Try.ntmps42
  go_wp2_with fail
  refine (HG.out _).mono ?_
  rintro e w2 ⟨rfl, hb⟩
  have hb2 := Lib.hid (HB.out _ _ hb)
  clear hb HG HB
  by_cases h : G = 0
  · subst h
    go_wp2_with fail
    go_ret
    exact ⟨rfl, hb2.out⟩
  · have q := ne_int8 (c := (G : Int)) (k := 0) (by omega)
    have HN := Lib.hid h
    clear h
    go_wp2_with fail
    go_ret
    exact ⟨by rw [decide_eq_false HN.out]; rfl, hb2.out⟩
set_option maxRecDepth 100000 in
set_option maxHeartbeats 2000000 in
theorem wi_12 (t : VT) (w : World) (hk : t.k = 12) (A : Option Addr) (m c : Nat) (hm : m ≤ 4611686018427387904) : Calls Try.prog 42 #[vv t (.slice A m c)] w fun e w' => e = .returned (.bool (decide (m % 2 = 0))) ∧ Below w.heap.size w w' := by
  have HA := Lib.hid (fun o => (Below.refl w.heap.size w).alloc (Nat.le_refl _) o)
  unfold vv
  rw [hk]
  clear hk
  by_cases h4 : m % 2 = 0
  · have q4 : (m : Int) % 2 = 0 := by omega
    rw [decide_eq_true h4]
    go_enter Try.func42, Try.ntmps42
    go_wp2_with fail
    all_goals
      go_ret
      exact ⟨by simp_all <;> omega, HA.out _⟩
  · have q4 : (m : Int) % 2 = 1 := by omega
    rw [decide_eq_false h4]
    go_enter Try.func42, Try.ntmps42
    go_wp2_with fail
    all_goals
      go_ret
      exact ⟨by simp_all <;> omega, HA.out _⟩
set_option maxRecDepth 100000 in
set_option maxHeartbeats 2000000 in
theorem wi_13a (t : VT) (w : World) (hk : t.k = 13) (A : Option Addr) (m c : Nat) (hm : m ≠ 1) : Calls Try.prog 42 #[vv t (.slice A m c)] w fun e w' => e = .returned (.bool false) ∧ Below w.heap.size w w' := by
  have HA := Lib.hid (fun o => (Below.refl w.heap.size w).alloc (Nat.le_refl _) o)
  unfold vv
  rw [hk]
  clear hk
  have q4 := ne_int8 (c := (m : Int)) (k := 1) (by omega)
  go_enter Try.func42, Try.ntmps42
  go_wp2_with fail
  go_quiet (fail)
  go_wp2_with fail
  go_ret
  exact ⟨rfl, drewN_kw (HA.out _) _⟩
set_option maxRecDepth 100000 in
set_option maxHeartbeats 2000000 in
theorem wi_13b (t : VT) (w : World) (hk : t.k = 13) (b off c : Nat) (x : VT) (D : Value) (hb : b < w.heap.size) (hr : Row w b off x D) : Calls Try.prog 42 #[vv t (.slice (some ⟨b, off, none⟩) 1 c)] w fun e w' => e = .returned (.bool (!(decide (t.n = 2 ∨ t.n = 3) && (decide (x.k = 9) && big x.s)))) ∧ Below w.heap.size w w' := by
  have HG := Lib.hid (fun w => tellsBig_any t.n x D w)
  obtain ⟨G, hG⟩ : ∃ G, (decide (t.n = 2 ∨ t.n = 3) && (decide (x.k = 9) && big x.s)) = G := ⟨_, rfl⟩
  rw [hG] at HG ⊢
  clear hG
  obtain ⟨W1, hW1⟩ : ∃ W1, w.alloc (.cells #[.int .i64 13, .bool t.g, .int .u64 (t.n : Int), .string t.s, .slice (some ⟨b, off, none⟩) 1 c] 25) = W1 := ⟨_, rfl⟩
  have hB1 : Below w.heap.size w W1 := by rw [← hW1]; exact (Below.refl w.heap.size w).alloc (Nat.le_refl _) _
  have hz1 : W1.heap.size = w.heap.size + 1 := by rw [← hW1]; simp
  have hR := hr.below hB1 hb
  have q0 := hR.k
  have q1 := hR.g
  have q2 := hR.n
  have q3 := hR.s
  have q4 := hR.l
  have b2 : W1.cell? ⟨w.heap.size, 2, none⟩ = some (.int .u64 (t.n : Int)) := by rw [← hW1]; simp
  have b4 : W1.cell? ⟨w.heap.size, 4, none⟩ = some (.slice (some ⟨b, off, none⟩) 1 c) := by rw [← hW1]; simp
  have HB := Lib.hid (fun W (h : Below W1.drew.heap.size W1.drew W) => hB1.trans (((Below.refl W1.heap.size W1).drew.trans h).mono (show w.heap.size ≤ W1.heap.size by omega)))
  have HW := Lib.hid hW1
  unfold vv at HG ⊢
  rw [hk]
  clear hk hR hr hb hW1 hz1 hB1
  go_enter Try.func42, Try.ntmps42
  go_wp2_with fail
  rw [HW.out]
  go_still_tail 11, (by kernel_rfl)
  change wpList _ _ _ _ _ W1.drew
  go_wp2_with fail
  refine (HG.out _).mono ?_
  rintro e w2 ⟨rfl, hb2⟩
  have B2 := Lib.hid (HB.out _ hb2)
  clear hb2 q0 q1 q2 q3 q4 b2 b4
  go_wp2_with fail
  cases G
  all_goals
    go_ret
    exact ⟨rfl, B2.out⟩
set_option maxRecDepth 100000 in
set_option maxHeartbeats 2000000 in
theorem wi_14 (t : VT) (C : Value) (w : World) (hk : t.k = 14) : Calls Try.prog 42 #[vv t C] w fun e w' => e = .returned (.bool (decide (t.n ≤ 255))) ∧ Below w.heap.size w w' := by
  have HA := Lib.hid (fun o => (Below.refl w.heap.size w).alloc (Nat.le_refl _) o)
  unfold vv
  rw [hk]
  clear hk
  by_cases h : t.n ≤ 255
  · rw [decide_eq_true h]
    go_enter Try.func42, Try.ntmps42
    go_wp2_with fail
    go_ret
    exact ⟨by simp <;> omega, HA.out _⟩
  · rw [decide_eq_false h]
    go_enter Try.func42, Try.ntmps42
    go_wp2_with fail
    go_ret
    exact ⟨by simp <;> omega, HA.out _⟩
set_option maxRecDepth 100000 in
set_option maxHeartbeats 2000000 in
theorem wi_no (t : VT) (C : Value) (w : World) (h1 : t.k ≠ 1) (h3 : t.k ≠ 3) (h5 : t.k ≠ 5) (h6 : t.k ≠ 6) (h7 : t.k ≠ 7) (h10 : t.k ≠ 10) (h12 : t.k ≠ 12) (h13 : t.k ≠ 13) (h14 : t.k ≠ 14) : Calls Try.prog 42 #[vv t C] w fun e w' => e = .returned (.bool true) ∧ Below w.heap.size w w' := by
  have HA := Lib.hid (fun o => (Below.refl w.heap.size w).alloc (Nat.le_refl _) o)
  obtain ⟨k, hk⟩ : ∃ k, t.k = k := ⟨_, rfl⟩
  unfold vv
  rw [hk] at h1 h3 h5 h6 h7 h10 h12 h13 h14 ⊢
  have q1 := ne_int8 h1
  have q3 := ne_int8 h3
  have q5 := ne_int8 h5
  have q6 := ne_int8 h6
  have q7 := ne_int8 h7
  have q10 := ne_int8 h10
  have q12 := ne_int8 h12
  have q13 := ne_int8 h13
  have q14 := ne_int8 h14
  clear hk h1 h3 h5 h6 h7 h10 h12 h13 h14
  go_enter Try.func42, Try.ntmps42
  go_wp2_with fail
  go_ret
  exact ⟨rfl, HA.out _⟩
theorem vwithin_any (t : VT) (C : Value) (w : World) (hS : t.s.size ≤ maxLen) (hn : t.n < 18446744073709551616) (hm : t.l.length ≤ 4611686018427387904) (hC : Lst w C t.l) :
    Calls Try.prog 42 #[vv t C] w fun e w' => e = .returned (.bool (wiB t)) ∧ Below w.heap.size w w' := by
  obtain ⟨A, c, rfl, hlc, hA⟩ := hC.out
  unfold wiB
  by_cases h1 : t.k = 1
  · rw [if_pos h1]; exact wi_1 t _ w h1
  rw [if_neg h1]
  by_cases h3 : t.k = 3
  · rw [if_pos h3]; exact wi_3 t _ w h3
  rw [if_neg h3]
  by_cases h5 : t.k = 5
  · rw [if_pos h5]; exact wi_5 t _ w h5
  rw [if_neg h5]
  by_cases h6 : t.k = 6
  · rw [if_pos h6]
    have := wi_67 t (.slice A t.l.length c) w (.inl h6) hn
    rw [if_pos h6] at this
    exact this
  rw [if_neg h6]
  by_cases h7 : t.k = 7
  · rw [if_pos h7]
    have := wi_67 t (.slice A t.l.length c) w (.inr h7) hn
    rw [if_neg h6] at this
    exact this
  rw [if_neg h7]
  by_cases h10 : t.k = 10
  · rw [if_pos h10]; exact wi_10 t _ w h10 hS
  rw [if_neg h10]
  by_cases h12 : t.k = 12
  · rw [if_pos h12]; exact wi_12 t w h12 A _ c hm
  rw [if_neg h12]
  by_cases h13 : t.k = 13
  · rw [if_pos h13]
    by_cases hl : t.l.length = 1
    · rw [decide_eq_true hl, Bool.true_and]
      rcases hA with ⟨_, h0, _⟩ | ⟨b, off, D, rfl, hb, hrow, _⟩
      · rw [h0] at hl; cases hl
      · obtain ⟨x, hx⟩ : ∃ x, t.l = [x] := List.length_eq_one_iff.1 hl
        have hr := hrow 0 (by omega)
        have e : t.l[0]'(by omega) = x := by simp [hx]
        rw [e] at hr
        have := wi_13b t w h13 b off c x (D 0) hb (by simpa using hr)
        rw [hl, hx]
        exact this
    · rw [decide_eq_false hl, Bool.false_and]
      exact wi_13a t w h13 A _ c hl
  rw [if_neg h13]
  by_cases h14 : t.k = 14
  · rw [if_pos h14]; exact wi_14 t _ w h14
  rw [if_neg h14]
  exact wi_no t _ w h1 h3 h5 h6 h7 h10 h12 h13 h14
end Go.Proofs.Ytfchondipjiicaa.nn
namespace Go.Proofs.Ytfchondipjiicaa.nn
open Go.RowKit

/-- is a value right but for those within it -/
def rg1 (t : VT) : Bool := oneB t && (!(lf t.k) || decide (t.l.length = 0))
theorem rg1_parts (t : VT) (a b c d : Bool) (h : 0 ≤ t.k ∧ t.k < 15 → a = fdG t.k.toNat ∧ b = fdN t.k.toNat ∧ c = fdS t.k.toNat ∧ d = fdL t.k.toNat) :
    (decide (0 ≤ t.k ∧ t.k < 15) && ((a || !t.g) && (b || nE t) && (c || sE t) && (d || decide (t.l.length = 0))) && wiB t) = rg1 t := by
  by_cases hk : 0 ≤ t.k ∧ t.k < 15
  · obtain ⟨rfl, rfl, rfl, rfl⟩ := h hk
    rw [decide_eq_true hk]
    have hcases : t.k = 0 ∨ t.k = 1 ∨ t.k = 2 ∨ t.k = 3 ∨ t.k = 4 ∨ t.k = 5 ∨ t.k = 6 ∨ t.k = 7 ∨ t.k = 8 ∨ t.k = 9 ∨ t.k = 10 ∨ t.k = 11 ∨ t.k = 12 ∨ t.k = 13 ∨ t.k = 14 := by omega
    obtain ⟨S, hS⟩ : ∃ S, sE t = S := ⟨_, rfl⟩
    obtain ⟨N, hN⟩ : ∃ N, nE t = N := ⟨_, rfl⟩
    obtain ⟨G, hG⟩ : ∃ G, t.g = G := ⟨_, rfl⟩
    obtain ⟨L, hL⟩ : ∃ L, decide (t.l.length = 0) = L := ⟨_, rfl⟩
    rcases hcases with h | h | h | h | h | h | h | h | h | h | h | h | h | h | h <;>
      simp [rg1, oneB, wiB, lf, fdG, fdN, fdS, fdL, h, hS, hN, hG] <;>
      cases S <;> cases N <;> cases G <;> cases L <;> simp [Bool.and_comm]
  · rw [decide_eq_false hk]
    have : oneB t = false := by
      unfold oneB
      rw [if_neg (by omega), if_neg (by omega), if_neg (by omega), if_neg (by omega), if_neg (by omega), if_neg (by omega), if_neg (by omega), if_neg (by omega), if_neg (by omega), if_neg (by omega), if_neg (by omega), if_neg (by omega), if_neg (by omega)]
    simp [rg1, this]
mutual
theorem rgt_rws : ∀ (zs : List Nat) (t : VT), rgt t = (rws zs t).all fun x => rg1 x.2
  | zs, .mk k g n s l => by
    have := rgtL_rws zs 0 l
    simp only [rgt, rws, List.all_cons, this, rg1]
    rfl
theorem rgtL_rws : ∀ (zs : List Nat) (i : Nat) (l : List VT), rgtL l = (rwsL zs i l).all fun x => rg1 x.2
  | _, _, [] => rfl
  | zs, i, t :: r => by
    have h1 := rgt_rws (zs ++ [i]) t
    have h2 := rgtL_rws zs (i + 1) r
    simp only [rgtL, rwsL, List.all_append, h1, h2]
end
mutual
theorem wf_rws : ∀ (zs : List Nat) (t : VT), wfT t → ∀ x ∈ rws zs t, wfT x.2
  | zs, .mk k g n s l, h, x, hx => by
    simp only [rws, List.mem_cons] at hx
    rcases hx with rfl | hx
    · exact h
    · exact wf_rwsL zs 0 l h.2.2.2 x hx
theorem wf_rwsL : ∀ (zs : List Nat) (i : Nat) (l : List VT), wfL l → ∀ x ∈ rwsL zs i l, wfT x.2
  | _, _, [], _, x, hx => by simp [rwsL] at hx
  | zs, i, t :: r, h, x, hx => by
    simp only [rwsL, List.mem_append] at hx
    rcases hx with hx | hx
    · exact wf_rws (zs ++ [i]) t h.1 x hx
    · exact wf_rwsL zs (i + 1) r h.2 x hx
end
mutual
theorem smx_rws : ∀ (zs : List Nat) (t : VT), ∀ x ∈ rws zs t, smx x.2 ≤ smx t ∧ cnt x.2 ≤ cnt t
  | zs, .mk k g n s l, x, hx => by
    simp only [rws, List.mem_cons] at hx
    rcases hx with rfl | hx
    · exact ⟨Nat.le_refl _, Nat.le_refl _⟩
    · have := smx_rwsL zs 0 l x hx
      simp only [smx, cnt]
      omega
theorem smx_rwsL : ∀ (zs : List Nat) (i : Nat) (l : List VT), ∀ x ∈ rwsL zs i l, smx x.2 ≤ smxL l ∧ cnt x.2 ≤ cntL l
  | _, _, [], x, hx => by simp [rwsL] at hx
  | zs, i, t :: r, x, hx => by
    simp only [rwsL, List.mem_append] at hx
    simp only [smxL, cntL]
    rcases hx with hx | hx
    · have := smx_rws (zs ++ [i]) t x hx; omega
    · have := smx_rwsL zs (i + 1) r x hx; omega
end
set_option maxRecDepth 100000 in
set_option maxHeartbeats 2000000 in
theorem isRight_any (t : VT) (C : Value) (w : World) (hS : smx t ≤ maxLen) (hw : wfT t) (hN : cnt t ≤ 4611686018427387904) (hC : Lst w C t.l) :
    Calls Try.prog 24 #[vv t C] w fun e w' => e = .returned (.bool (rg1 t)) ∧ Below w.heap.size w w' := by
  have hs := smx_mk t
  have hcn := cnt_mk t
  have hll := len_cntL t.l
  have hwf := (wfT_mk t).1 hw
  have HW := Lib.hid (fun W (h : Below w.heap.size w W) => vwithin_any t C W (by omega) hwf.2.2.1 (by omega) (hC.keep h (Nat.le_refl _)))
  have HF := Lib.hid (fun W => fields_any t.k W)
  have HP := Lib.hid (fun a b c d h => rg1_parts t a b c d h)
  obtain ⟨A, cc, rfl, _, _⟩ := hC.out
  have HV := Lib.hid (fun a b c d W => cover_any a b c d t A t.l.length cc W (by omega))
  have HB0 := Lib.hid (Box.new w t (.slice A t.l.length cc) 25)
  obtain ⟨R, hR⟩ : ∃ R, rg1 t = R := ⟨_, rfl⟩
  obtain ⟨I, hI⟩ : ∃ I, wiB t = I := ⟨_, rfl⟩
  obtain ⟨m, hm⟩ : ∃ m, t.l.length = m := ⟨_, rfl⟩
  rw [hR, hI] at HP
  rw [hI] at HW
  rw [hm] at HV HB0 HP HW
  rw [hR, hm]
  unfold FdAns at HF
  unfold vv at HV HW ⊢
  clear hs hcn hll hwf hC hw hS hN hR hI hm
  go_enter Try.func24, Try.ntmps24
  go_wp2_with fail
  refine (HF.out _).mono ?_
  rintro e w1 ⟨a, b, c, d, o, rfl, hb1, hf, ho⟩
  have B1 := Lib.hid (HB0.out.on hb1)
  have HF2 := Lib.hid (HP.out a b c d hf)
  rw [← ho] at HF2
  have r0 := B1.out.r.k
  have r1 := B1.out.r.g
  have r2 := B1.out.r.n
  have r3 := B1.out.r.s
  have r4 := B1.out.r.l
  have B2 : Hid (∀ o', Box w t (.slice A m cc) (w1.alloc o')) := Lib.hid fun o' => B1.out.on ((Below.refl _ _).alloc (Nat.le_refl _) o')
  clear hb1 hf ho HF HP HB0
  cases o
  · go_wp2_with fail
    go_ret
    exact ⟨by rw [← HF2.out]; rfl, (B2.out _).b⟩
  · have HV2 := Lib.hid (HV.out a b c d)
    obtain ⟨V, hV⟩ : ∃ V, ((a || !t.g) && (b || nE t) && (c || sE t) && (d || decide (m = 0))) = V := ⟨_, rfl⟩
    rw [hV] at HV2 HF2
    have hq := (B2.out (.cells #[.bool a, .bool b, .bool c, .bool d] 67)).r
    have s0 := hq.k
    have s1 := hq.g
    have s2 := hq.n
    have s3 := hq.s
    have s4 := hq.l
    clear HV hV hq
    go_wp2_with fail
    refine (HV2.out _).mono ?_
    rintro e w2 ⟨rfl, hb2⟩
    have B3 := Lib.hid ((B2.out _).on hb2)
    clear hb2 r0 r1 r2 r3 r4 s0 s1 s2 s3 s4 HV2
    have r0 := B3.out.r.k
    have r1 := B3.out.r.g
    have r2 := B3.out.r.n
    have r3 := B3.out.r.s
    have r4 := B3.out.r.l
    cases V
    · go_wp2_with fail
      go_ret
      exact ⟨by rw [← HF2.out]; rfl, B3.out.b⟩
    · go_wp2_with fail
      refine (HW.out _ B3.out.b).mono ?_
      rintro e w3 ⟨rfl, hb3⟩
      have B4 := Lib.hid (B3.out.on hb3)
      clear hb3 r0 r1 r2 r3 r4
      go_wp2_with fail
      go_ret
      exact ⟨by rw [← HF2.out]; rfl, B4.out.b⟩
end Go.Proofs.Ytfchondipjiicaa.nn
namespace Go.Proofs.Ytfchondipjiicaa.nn
open Go.RowKit

set_option maxRecDepth 100000 in
theorem vleaf_any (t : VT) (C : Value) (w : World) : Calls Try.prog 43 #[vv t C] w fun e w' => e = .returned (.bool (lf t.k)) ∧ Below w.heap.size w w' := by
  have HB0 := Lib.hid (Box.new w t C 25)
  unfold lf vv
  obtain ⟨k, hk⟩ : ∃ k, t.k = k := ⟨_, rfl⟩
  rw [hk] at HB0 ⊢
  clear hk
  by_cases h1 : k = 11
  · subst h1
    go_enter Try.func43, Try.ntmps43
    go_wp2_with fail
    go_ret
    exact ⟨rfl, HB0.out.b⟩
  · by_cases h2 : k = 12
    · subst h2
      go_enter Try.func43, Try.ntmps43
      go_wp2_with fail
      go_ret
      exact ⟨rfl, HB0.out.b⟩
    · obtain ⟨q1, q1'⟩ := neInt h1
      obtain ⟨q2, q2'⟩ := neInt h2
      by_cases h3 : k = 13
      · subst h3
        go_enter Try.func43, Try.ntmps43
        go_wp2_with fail
        go_ret
        exact ⟨rfl, HB0.out.b⟩
      · obtain ⟨q3, q3'⟩ := neInt h3
        rw [decide_eq_true (And.intro h1 (And.intro h2 h3))]
        clear h1 h2 h3
        go_enter Try.func43, Try.ntmps43
        go_wp2_with fail
        go_ret
        exact ⟨rfl, HB0.out.b⟩
set_option maxRecDepth 100000 in
set_option maxHeartbeats 1000000 in
theorem vdep_any (N : Nat) : ∀ (t : VT) (C : Value) (w : World), cnt t ≤ N → N ≤ 4611686018427387904 → Lst w C t.l →
    Calls Try.prog 25 #[vv t C] w fun e w' => e = .returned (.int .i64 (dep t : Int)) ∧ Below w.heap.size w w' := by
  induction N with
  | zero => intro t C w h _ _; have := cnt_mk t; omega
  | succ N ih =>
    intro t C w hN hM hC
    have hdm := dep_mk t
    have hkk := @vleaf_any t C
    by_cases h5 : t.k = 5
    · rw [if_pos h5] at hdm
      have HB0 := Lib.hid (Box.new w t C 25)
      have HT := Lib.hid hdm
      rw [hdm]
      unfold vv
      rw [h5] at HB0 ⊢
      clear hdm hkk h5
      go_enter Try.func25, Try.ntmps25
      go_wp2_with fail
      go_ret
      exact ⟨rfl, HB0.out.b⟩
    · rw [if_neg h5] at hdm
      obtain ⟨q5, _⟩ := neInt h5
      by_cases hlf : lf t.k = true
      · rw [if_pos hlf] at hdm
        rw [hlf] at hkk
        have HB0 := Lib.hid (Box.new w t C 25)
        have HK := Lib.hid hkk
        rw [hdm]
        unfold vv at HK ⊢
        clear hdm hkk h5 hlf ih
        go_enter Try.func25, Try.ntmps25
        go_wp2_with fail
        refine (HK.out _).mono ?_
        rintro e w2 ⟨rfl, hb2⟩
        have hk2 := Lib.hid (HB0.out.on hb2)
        clear hb2
        go_wp2_with fail
        go_ret
        exact ⟨rfl, hk2.out.b⟩
      · have hlf2 : lf t.k = false := by simpa using hlf
        rw [if_neg hlf] at hdm
        rw [hlf2] at hkk
        have HK := Lib.hid hkk
        have HC := Lib.hid hC
        obtain ⟨A, c, rfl, hlc, hA⟩ := hC.out
        have hcm := cnt_mk t
        obtain ⟨l, hl⟩ : ∃ l, t.l = l := ⟨_, rfl⟩
        rw [hl] at hlc hA hcm HC hdm HK ⊢
        have hll := len_cntL l
        have hdl := depL_le N l (by omega)
        have HB0 := Lib.hid (Box.new w t (.slice A l.length c) 25)
        have HT := Lib.hid hdm
        unfold vv at HK ⊢
        clear hkk hlf hlf2 hdm h5
        go_enter Try.func25, Try.ntmps25
        go_wp2_with fail
        refine (HK.out _).mono ?_
        rintro e w2 ⟨rfl, hb2⟩
        have hk2 := Lib.hid (HB0.out.on hb2)
        clear hb2 q5
        have h4 : w2.cell? ⟨w.heap.size, 4, none⟩ = some (.slice A l.length c) := hk2.out.r.l
        go_wp2_with fail
        go_loopw [3, 16] (fun s3 s4 wr => ∃ i m : Nat, i ≤ l.length ∧ m ≤ N ∧ s3 = .int .i64 (m : Int) ∧ s4 = .int .i64 (i : Int) ∧ Hid (m = depL (l.take i)) ∧ Hid (Box w t (.slice A l.length c) wr)) (fun _ s4 _ => l.length - (intOf s4).toNat)
        case atStart => exact ⟨0, 0, Nat.zero_le _, by omega, rfl, rfl, Lib.hid rfl, hk2⟩
        case round =>
          clear h4
          obtain ⟨i, m, hi, hmN, rfl, rfl, hm, hk⟩ := hrel
          by_cases hlt : i < l.length
          · rcases hA with ⟨_, h0, _⟩ | ⟨b, off, D, rfl, hb, hrow, hkid⟩
            · rw [h0] at hlt; exact absurd hlt (by simp)
            · have hr := hrow i hlt
              have hkl := hkid i hlt
              obtain ⟨A', c', hC', _⟩ := hkl.out
              obtain ⟨n', hn'⟩ : ∃ n', l[i].l.length = n' := ⟨_, rfl⟩
              rw [hn'] at hC'
              obtain ⟨t', ht'⟩ : ∃ t', l[i] = t' := ⟨_, rfl⟩
              rw [ht', hC'] at hr hkl
              have hr2 := hr.below hk.out.b hb
              have r0 := hr2.k
              have r1 := hr2.g
              have r2 := hr2.n
              have r3 := hr2.s
              have r4 := hr2.l
              have hcn := cnt_at hlt
              rw [ht'] at hcn
              have hsum := depL_take_succ hlt
              rw [ht', ← hm.out] at hsum
              have hle := depL_le N (l.take (i + 1)) (Nat.le_trans (cntL_take_le l (i + 1)) (by omega))
              rw [hsum] at hle
              have HI := Lib.hid (fun W (hW : Below wr.heap.size wr W) => ih t' (.slice A' n' c') W (by omega) (by omega) (hkl.keep (hk.out.b.trans (hW.mono (Nat.le_of_lt hk.out.z))) (Nat.le_refl _)))
              obtain ⟨k, hk'⟩ : ∃ k, dep t' = k := ⟨_, rfl⟩
              rw [hk'] at HI hsum hle
              have emax : max (m : Int) (k : Int) = ((max m k : Nat) : Int) := by omega
              obtain ⟨x, hx⟩ : ∃ x, max m k = x := ⟨_, rfl⟩
              rw [hx] at emax hsum hle
              have hm2 : Hid (x = depL (l.take (i + 1))) := Lib.hid hsum.symm
              have hkb : k ≤ x := by omega
              have HAL : Hid (∀ o, Below wr.heap.size wr (wr.alloc o)) := Lib.hid fun o => (Below.refl _ _).alloc (Nat.le_refl _) o
              unfold vv at HI
              clear hr hr2 hkl hrow hkid ht' hC' hn' hcn hsum hk' ih hx
              go_wp2_with fail
              refine (HI.out _ (HAL.out _)).mono ?_
              rintro e w3 ⟨rfl, hb2⟩
              have hk2 := Lib.hid (hk.out.on ((HAL.out _).trans (hb2.mono (HAL.out _).size)))
              clear hb2 r0 r1 r2 r3 r4
              go_wp2_with fail
              go_roundw
              case rel => exact ⟨i + 1, x, hlt, hle, by go_num, by go_num, hm2, hk2⟩
              case measure => simp [intOf]; omega
          · obtain rfl : i = l.length := by omega
            have hmt : (m : Int) + 1 = (dep t : Int) := by rw [HT.out, hm.out, List.take_length]; simp
            have HT := Lib.hid hmt
            clear hmt
            go_wp2_with fail
            go_ret
            exact ⟨by rw [← HT.out]; simp [Int.add_comm], hk.out.b⟩
theorem vdepth_any (t : VT) (C : Value) (w : World) (hN : cnt t ≤ 4611686018427387904) (hC : Lst w C t.l) :
    Calls Try.prog 25 #[vv t C] w fun e w' => e = .returned (.int .i64 (dep t : Int)) ∧ Below w.heap.size w w' := vdep_any _ t C w hN (Nat.le_refl _) hC
end Go.Proofs.Ytfchondipjiicaa.nn
