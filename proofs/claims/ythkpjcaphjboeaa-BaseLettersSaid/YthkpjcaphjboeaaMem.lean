/- Words for memory: a slice value that reads as the limbs f, how that is kept, and the list form of the limbs. No program is named here. -/
import Derived.Below
import Derived.Laws.OwnMore
import Derived.Deep.AppendLies
import Derived.Deep.Draws
import Derived.Test.YthkpjcaphjboeaaNum
namespace Go.Proofs.Ythkpjcaphjboeaa.nn
open Go.RowKit

/-- the slice at address A reads as n integers f 0 .. f (n - 1) of kind k, in a block that is there -/
def Rd (w : World) (k : IntKind) (A : Option Addr) (n : Nat) (f : Nat → Nat) : Prop :=
  0 < n → ∃ b off, A = some ⟨b, off, none⟩ ∧ b < w.heap.size ∧ ∀ i, i < n → w.cell? ⟨b, off + i, none⟩ = some (.int k (f i : Int))

section
variable {w w' : World} {k : IntKind} {A : Option Addr} {n m : Nat} {f g : Nat → Nat}

theorem Rd.keep (h : Rd w k A n f) (hs : w.heap.size ≤ w'.heap.size) (hk : ∀ b o, b < w.heap.size → w'.cell? ⟨b, o, none⟩ = w.cell? ⟨b, o, none⟩) : Rd w' k A n f := fun hn => by
  obtain ⟨b, off, e, hb, hc⟩ := h hn
  exact ⟨b, off, e, by omega, fun i hi => (hk b _ hb).trans (hc i hi)⟩
theorem Rd.below (h : Rd w k A n f) (hb : Below w.heap.size w w') : Rd w' k A n f :=
  h.keep hb.size fun b o hlt => hb.cell (p := ⟨b, o, none⟩) hlt
theorem Rd.drew (h : Rd w k A n f) : Rd w.drew k A n f := h
theorem Rd.drewN (h : Rd w k A n f) (j : Nat) : Rd (w.drewN j) k A n f := h
theorem Rd.alloc (h : Rd w k A n f) (o : Obj) : Rd (w.alloc o) k A n f :=
  h.keep (by simp) fun _ _ hlt => World.cell?_alloc_lt w o _ hlt
theorem Rd.mono (h : Rd w k A n f) (hm : m ≤ n) : Rd w k A m f := fun h0 => by
  obtain ⟨b, off, e, hb, hc⟩ := h (by omega)
  exact ⟨b, off, e, hb, fun i hi => hc i (by omega)⟩
theorem Rd.congr (h : Rd w k A n f) (e : ∀ i, i < n → f i = g i) : Rd w k A n g := fun h0 => by
  obtain ⟨b, off, ea, hb, hc⟩ := h h0
  exact ⟨b, off, ea, hb, fun i hi => by rw [← e i hi]; exact hc i hi⟩
theorem Rd.lt {b o : Nat} (h : Rd w k A n f) (e : A = some ⟨b, o, none⟩) (h0 : 0 < n) : b < w.heap.size := by
  obtain ⟨b', o', e', hb, _⟩ := h h0
  rw [e] at e'
  injection e' with e'
  injection e' with e'
  omega
theorem Rd.none_ : Rd w k A 0 f := fun h => absurd h (by omega)

/-- the limbs as a list of values -/
def vl (k : IntKind) (f : Nat → Nat) (n : Nat) : List Value := (List.range n).map fun i => .int k (f i : Int)

theorem vl_length (k : IntKind) (f : Nat → Nat) (n : Nat) : (vl k f n).length = n := by simp [vl]
theorem vl_at (k : IntKind) (f : Nat → Nat) {n i : Nat} (h : i < n) : (vl k f n)[i]? = some (.int k (f i : Int)) := by simp [vl, h]
theorem vl_snoc (k : IntKind) (f : Nat → Nat) (n x : Nat) : vl k f n ++ [.int k (x : Int)] = vl k (upd f n x) (n + 1) := by
  simp only [vl, List.range_succ, List.map_append, List.map_cons, List.map_nil, upd_at]
  congr 1
  exact List.map_congr_left fun i hi => by
    have : i ≠ n := by have := List.mem_range.1 hi; omega
    rw [upd_ne f this]
theorem vl_congr (k : IntKind) {n : Nat} (e : ∀ i, i < n → f i = g i) : vl k f n = vl k g n :=
  List.map_congr_left fun i hi => by rw [e i (List.mem_range.1 hi)]
theorem vl_one (k : IntKind) (f : Nat → Nat) (n : Nat) : ∀ u ∈ vl k f n, u.oneCell' = true := by
  intro u hu
  obtain ⟨i, _, rfl⟩ := List.mem_map.1 hu
  rfl
theorem vl_append (k : IntKind) (f g : Nat → Nat) (n m : Nat) : vl k f n ++ vl k g m = vl k (fun i => if i < n then f i else g (i - n)) (n + m) := by
  induction m with
  | zero =>
    simp only [vl, List.range_zero, List.map_nil, List.append_nil, Nat.add_zero]
    exact List.map_congr_left fun i hi => by rw [if_pos (List.mem_range.1 hi)]
  | succ m ih =>
    have e1 : vl k g (m + 1) = vl k g m ++ [.int k (g m : Int)] := by simp [vl, List.range_succ]
    have e2 : vl k (fun i => if i < n then f i else g (i - n)) (n + (m + 1)) = vl k (fun i => if i < n then f i else g (i - n)) (n + m) ++ [.int k (g m : Int)] := by
      simp only [vl, ← Nat.add_assoc, List.range_succ, List.map_append, List.map_cons, List.map_nil]
      rw [if_neg (by omega), Nat.add_sub_cancel_left]
    rw [e1, e2, ← ih, List.append_assoc]

/-- what the call owns reads as its limbs -/
theorem Rd.of_own {base : Nat} {e : TypeId} {v : Value} (h : w.ownsRow base e 1 v n (vl k f n)) : ∃ A c, v = .slice A n c ∧ n ≤ c ∧ c ≤ maxLen ∧ Rd w k A n f := by
  have hh := h
  rcases h.2 with ⟨rfl, rfl⟩ | ⟨b, cap, cur, rfl, _, hb, hc, hm, _⟩
  · exact ⟨none, 0, rfl, Nat.le_refl _, by simp [maxLen], Rd.none_⟩
  · refine ⟨_, cap, rfl, hc, hm, fun _ => ⟨b, 0, rfl, (Array.getElem?_eq_some_iff.1 hb).1, fun i hi => ?_⟩⟩
    rw [Nat.zero_add, hh.cellAt i (by omega)]
    exact vl_at k f hi

theorem vl_set (k : IntKind) (f : Nat → Nat) (n j x : Nat) : (vl k f n).set j (.int k (x : Int)) = vl k (upd f j x) n := by
  apply List.ext_getElem?
  intro i
  rw [List.getElem?_set]
  by_cases hi : i < n
  · rw [vl_at k _ hi, vl_at k _ hi, vl_length]
    by_cases e : j = i
    · subst e; rw [if_pos rfl, if_pos hi, upd_at]
    · rw [if_neg e, upd_ne f (by omega : i ≠ j)]
  · have e1 : (vl k f n)[i]? = none := List.getElem?_eq_none (by rw [vl_length]; omega)
    have e2 : (vl k (upd f j x) n)[i]? = none := List.getElem?_eq_none (by rw [vl_length]; omega)
    rw [e1, e2, vl_length]
    by_cases e : j = i
    · subst e; rw [if_pos rfl, if_neg hi]
    · rw [if_neg e]
end

end Go.Proofs.Ythkpjcaphjboeaa.nn
