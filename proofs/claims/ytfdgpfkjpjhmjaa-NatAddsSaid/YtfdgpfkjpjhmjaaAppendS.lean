/- append of a list of slices behind one slice: the list that the laws hand to the document's Add. -/
import Derived.Test.YtfdgpfkjpjhmjaaRefCmp
namespace Go.Proofs.Ytfdgpfkjpjhmjaa.nn
open Go.RowKit

theorem info_sl : (Try.prog.info? 22).map (fun i => (i.zero, i.size, i.bytes)) = some (some (.slice none 0 0), 1, 24) := by kernel_rfl

/-- the list with one ahead -/
def cons1 {α : Type} (x : α) (g : Nat → α) : Nat → α := fun i => match i with | 0 => x | j + 1 => g j

theorem wpList_app_sl {w : World} {ops : Array Oper} {rest : List Oper} {o : Oper} {a : Act} {Q : Exit → Act → World → Prop} (hgd : o.guard = none) (s x : Operand)
    (ho : o.op = .call { callee := .builtin .append, args := #[s, x], argTypes := #[23, 23] })
    (A : Option Addr) (n c : Nat) (f : Nat → Nat) (base : Nat) (hs : a.eval s = .slice (some ⟨base, 0, none⟩) 1 1) (hown : w.ownsRow base 22 1 (.slice (some ⟨base, 0, none⟩) 1 1) 1 [.slice A n c])
    (hA : Rd w .u32 A n f) (hn : n ≤ c) (hc : c ≤ maxLen)
    (B : Option Addr) (m d : Nat) (AA : Nat → Option Addr) (L C : Nat → Nat) (F : Nat → Nat → Nat) (hx : a.eval x = .slice B m d) (hB : Rds w B m AA L C F)
    (hbytes : (1 + m) * 24 ≤ 140737488355328) (hbase : base ≤ w.heap.size) (hAb : ∀ b o, A = some ⟨b, o, none⟩ → 0 < n → b < base) (hBb : ∀ i, i < m → ∀ b o, AA i = some ⟨b, o, none⟩ → 0 < L i → b < base)
    (k : ∀ B' d' w', 1 + m ≤ d' → d' ≤ maxLen → Rds w' B' (1 + m) (cons1 A AA) (cons1 n L) (cons1 c C) (cons1 f F) → Below base w w' → wpList Try.prog ops Q rest (a.put o.dst (.slice B' (1 + m) d')) w') : wpList Try.prog ops Q (o :: rest) a w := by
  obtain ⟨i0, hi, hz0, hz1, hz2⟩ := info_parts info_sl
  have hrow : ∀ w', Below base w w' → ∀ i, i < 1 + m → Rd w' .u32 (cons1 A AA i) (cons1 n L i) (cons1 f F i) ∧ cons1 n L i ≤ cons1 c C i ∧ cons1 c C i ≤ maxLen := by
    intro w' hb i hi'
    rcases i with _ | j
    · exact ⟨hA.old hb hAb, hn, hc⟩
    · obtain ⟨_, _, _, _, hcell⟩ := hB (by omega)
      obtain ⟨_, h2, h3, h4⟩ := hcell j (by omega)
      exact ⟨h4.old hb (hBb j (by omega)), h2, h3⟩
  refine wpList_plain hgd fun R hK => ?_
  rcases B with _ | ad
  · have hm : m = 0 := by
      rcases Nat.eq_zero_or_pos m with h0 | h0
      · exact h0
      · obtain ⟨b, off, e, _⟩ := hB h0
        cases e
    subst hm
    have hrun : (Builtin.append_ #[23, 23] o.type #[.slice (some ⟨base, 0, none⟩) 1 1, .slice none 0 d]).run Try.prog w = .ok (.slice (some ⟨base, 0, none⟩) 1 1) w := by
      simp [Builtin.append_, run_underlying Try.underlying23, sizeOf, typeInfo, hi, Builtin.lenOf, Builtin.firstCells, storeCells]
    unfold Oper.wp execOp
    simp only [ho, resolve, invoke, builtin, Sem.run_bind, Sem.run_pure, Result.andThen_ok, List.map_toArray, List.map_cons, List.map_nil, hs, hx, hrun]
    refine hK _ _ (k (some ⟨base, 0, none⟩) 1 w (Nat.le_refl _) (by simp [maxLen]) (fun _ => ?_) (Below.refl _ _))
    refine ⟨base, 0, rfl, ((hown.lt base rfl)).2, fun i hi' => ?_⟩
    obtain rfl : i = 0 := by omega
    refine ⟨?_, hn, hc, hA⟩
    have := hown.cellAt 0 (by omega)
    exact this
  · let news : List Value := (List.range m).map fun i => .slice (AA i) (L i) (C i)
    have hl : news.length = m * 1 := by simp [news]
    have hnews : ∀ j u, news[j]? = some u → w.cell? (ad.add j) = some u := by
      intro j u hu
      have hj : j < m := by
        have := (List.getElem?_eq_some_iff.1 hu).1
        rw [hl] at this
        omega
      obtain ⟨b, off, e1, _, hcell⟩ := hB (by omega)
      injection e1 with e1
      subst e1
      simp only [news, List.getElem?_map, List.getElem?_range hj, Option.map_some, Option.some.injEq] at hu
      subst hu
      have hadd : (⟨b, off, none⟩ : Addr).add j = ⟨b, off + j, none⟩ := by unfold Addr.add; split <;> simp_all
      rw [hadd]
      exact (hcell j hj).1
    have h1 : ∀ u ∈ news, u.oneCell' = true := by
      intro u hu
      obtain ⟨i, _, rfl⟩ := List.mem_map.1 hu
      rfl
    obtain ⟨v', w', hrun, h2, h3, _⟩ := run_append_own_at (P := Try.prog) w base 23 o.type 22 i0 (.slice none 0 0) 1 24 Try.underlying23 hi hz0 hz1 hz2 rfl (by omega) _ 1 _ hown ad m d news hl hnews h1 (by simp only [maxLen]; omega) hbytes hbase
    have hb : Below base w w' := (Below.refl base w).grown h3 hbase (fun k hk => (hown.lt k hk).1)
    unfold Oper.wp execOp
    simp only [ho, resolve, invoke, builtin, Sem.run_bind, Sem.run_pure, Result.andThen_ok, List.map_toArray, List.map_cons, List.map_nil, hs, hx, hrun]
    rcases h2.2 with ⟨_, h0⟩ | ⟨g, cap, cur, rfl, hg, hh, hle, hcm, _⟩
    · omega
    · refine hK _ _ (k _ cap w' hle hcm (fun _ => ?_) hb)
      refine ⟨g, 0, rfl, (Array.getElem?_eq_some_iff.1 hh).1, fun i hi' => ?_⟩
      obtain ⟨r1, r2, r3⟩ := hrow w' hb i hi'
      refine ⟨?_, r2, r3, r1⟩
      rw [Nat.zero_add, h2.cellAt i (by omega)]
      rcases i with _ | j
      · rfl
      · have hj : j < m := by omega
        show ([Value.slice A n c] ++ news)[j + 1]? = _
        simp [news, hj, cons1]
end Go.Proofs.Ytfdgpfkjpjhmjaa.nn
