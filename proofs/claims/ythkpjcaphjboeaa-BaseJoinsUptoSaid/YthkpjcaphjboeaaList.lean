/- Lists of bytes: as functions of the place, as cells, as texts; append onto a row of bytes of the call's own. -/
import Derived.Test.YthkpjcaphjboeaaAppend
import Derived.Test.YthkpjcaphjboeaaBytes
import Derived.Lib.UnsafeStr
import Derived.Lib.AppendStr
namespace Go.Proofs.Ythkpjcaphjboeaa.nn
open Go.RowKit

def gL (L : List UInt8) : Nat → Nat := fun i => (L.getD i 0).toNat
section
variable {i : Nat} {L M : List UInt8}
theorem gL_left (h : i < L.length) : gL (L ++ M) i = gL L i := by
  unfold gL
  simp [List.getD, List.getElem?_append_left h]
theorem gL_right : gL (L ++ M) (L.length + i) = gL M i := by
  unfold gL
  simp [List.getD, List.getElem?_append_right]
theorem gL_lt : gL L i < 256 := UInt8.toNat_lt _
theorem gL_cons_zero {c : UInt8} : gL (c :: L) 0 = c.toNat := rfl
theorem gL_cons_succ {c : UInt8} : gL (c :: L) (i + 1) = gL L i := by unfold gL; simp
theorem gL_at (h : i < L.length) : gL L i = (L[i]).toNat := by unfold gL; rw [List.getD_eq_getElem?_getD, List.getElem?_eq_getElem h]; rfl
theorem bc_vl (L : List UInt8) : Lib.byteCells L = vl .u8 (gL L) L.length := by
  apply List.ext_getElem?
  intro i
  by_cases h : i < L.length
  · rw [vl_at .u8 _ h, gL_at h]
    unfold Lib.byteCells
    rw [List.getElem?_map, List.getElem?_eq_getElem h]
    rfl
  · rw [List.getElem?_eq_none (by rw [Lib.byteCells_length]; omega), List.getElem?_eq_none (by rw [vl_length]; omega)]
theorem jn_list (L M : List UInt8) : ∀ i, i < L.length + M.length → jn (gL L) L.length (gL M) i = gL (L ++ M) i := fun i hi => by
  by_cases h : i < L.length
  · rw [jn_lo _ _ h, gL_left h]
  · obtain ⟨j, rfl⟩ : ∃ j, i = L.length + j := ⟨i - L.length, by omega⟩
    rw [jn_hi, gL_right]
theorem pc_list (L : List UInt8) : pc (gL L) L.length = ⟨L.toArray⟩ := by
  unfold pc strOfNums
  congr 2
  apply List.ext_getElem
  · simp
  · intro j h1 h2
    simp only [List.getElem_map, List.getElem_range]
    rw [gL_at h2]
    show UInt8.ofNat (L[j]).toNat = _
    exact UInt8.ofNat_toNat
/-- what the call owns reads as its bytes -/
theorem rd_list {w : World} {base : Nat} {e : TypeId} {v : Value} {n : Nat} (hn : n = L.length) (h : w.ownsRow base e 1 v n (Lib.byteCells L)) : ∃ A c, v = .slice A n c ∧ n ≤ c ∧ c ≤ maxLen ∧ Rd w .u8 A n (gL L) := by
  subst hn
  rw [bc_vl] at h
  exact Rd.of_own h
/-- what the call owns it owns behind a call that only makes memory -/
theorem own_below {w w' : World} {base : Nat} {e : TypeId} {size n : Nat} {v : Value} {xs : List Value} (h : w.ownsRow base e size v n xs) (hb : Below w.heap.size w w') : w'.ownsRow base e size v n xs :=
  h.kept (row := none) ⟨hb.os, hb.tape, hb.output, hb.size, fun k hk _ => hb.block k hk⟩ (by
    cases hv : v.ownBlock with
    | none => exact .inl rfl
    | some k => exact .inr (by simp))
/-- the text made of it -/
theorem conv_list {w : World} {base : Nat} {e : TypeId} {v : Value} {n : Nat} (hn : n = L.length) (h : w.ownsRow base e 1 v n (Lib.byteCells L)) :
    (convert 22 9 v).run Try.prog w = .ok (.string ⟨L.toArray⟩) w := by
  obtain ⟨A, c, rfl, _, _, hr⟩ := rd_list hn h
  subst hn
  rw [← pc_list]
  exact conv_row A L.length c (gL L) w hr
/-- a new block of bytes -/
theorem rd_new (w : World) (zs : List Int) (M : List UInt8) (e : TypeId) (hz : zs = M.map fun b => (b.toNat : Int)) : Rd (w.alloc (.cells (zs.map (Value.int .u8)).toArray e)) .u8 (some ⟨w.heap.size, 0, none⟩) M.length (gL M) := fun _ => by
  refine ⟨w.heap.size, 0, rfl, by simp, fun i hi => ?_⟩
  rw [Nat.zero_add, World.cell?_alloc_at _ _ _ _ rfl, hz, gL_at hi]
  simp [hi]
end

section
variable {P : Program} {w : World}
theorem wpList_appB {ops : Array Oper} {rest : List Oper} {o : Oper} {a : Act} {Q : Exit → Act → World → Prop} (hgd : o.guard = none) (s x : Operand) (t : TypeId)
    (ho : o.op = .call { callee := .builtin .append, args := #[s, x], argTypes := #[t, t] })
    (base : Nat) (e : TypeId) (i : TypeInfo) (z : Value) (ht : P.underlying t = some (.slice e)) (hi : P.info? e = some i) (hz : i.zero = some z)
    (hsize : i.size = 1) (hby : i.bytes = 1) (hzs : z.cells.size = 1)
    (v : Value) (n : Nat) (L : List UInt8) (hn : n = L.length) (hs : a.eval s = v) (hown : w.ownsRow base e 1 v n (Lib.byteCells L))
    (A : Option Addr) (m c : Nat) (M : List UInt8) (hm : m = M.length) (hx : a.eval x = .slice A m c) (hr : Rd w .u8 A m (gL M)) (hle : n + m ≤ 140737488355328) (hbase : base ≤ w.heap.size)
    (k : ∀ v' w', w'.ownsRow base e 1 v' (n + m) (Lib.byteCells (L ++ M)) → Below base w w' → wpList P ops Q rest (a.put o.dst v') w') : wpList P ops Q (o :: rest) a w := by
  subst hn hm
  rw [bc_vl] at hown
  refine wpList_app hgd s x t ho base e i z 1 ht hi hz hsize hby hzs .u8 v L.length (gL L) hs hown A M.length c (gL M) hx hr (by unfold maxLen; omega) (by omega) hbase fun v' w' h1 h2 => k v' w' ?_ h2
  rw [bc_vl, vl_congr .u8 (fun i hi => (jn_list L M i (by rw [List.length_append] at hi; exact hi)).symm), List.length_append]
  exact h1
theorem step_appB {ops : Array Oper} {o : Oper} {a : Act} {R : Act → World → Prop} {Q : Exit → Act → World → Prop} {E : Prop} (hgd : o.guard = none) (s x : Operand) (t : TypeId)
    (ho : o.op = .call { callee := .builtin .append, args := #[s, x], argTypes := #[t, t] })
    (base : Nat) (e : TypeId) (i : TypeInfo) (z : Value) (ht : P.underlying t = some (.slice e)) (hi : P.info? e = some i) (hz : i.zero = some z)
    (hsize : i.size = 1) (hby : i.bytes = 1) (hzs : z.cells.size = 1)
    (v : Value) (n : Nat) (L : List UInt8) (hn : n = L.length) (hs : a.eval s = v) (hown : w.ownsRow base e 1 v n (Lib.byteCells L))
    (A : Option Addr) (m c : Nat) (M : List UInt8) (hm : m = M.length) (hx : a.eval x = .slice A m c) (hr : Rd w .u8 A m (gL M)) (hle : n + m ≤ 140737488355328) (hbase : base ≤ w.heap.size)
    (k : ∀ v' w', w'.ownsRow base e 1 v' (n + m) (Lib.byteCells (L ++ M)) → Below base w w' → R (a.put o.dst v') w') :
    if Region.wanted o (yielded ops a.tmps) = true then Oper.wp P o a w R Q else E := by
  subst hn hm
  rw [bc_vl] at hown
  refine step_app hgd s x t ho base e i z 1 ht hi hz hsize hby hzs .u8 v L.length (gL L) hs hown A M.length c (gL M) hx hr (by unfold maxLen; omega) (by omega) hbase fun v' w' h1 h2 => k v' w' ?_ h2
  rw [bc_vl, vl_congr .u8 (fun i hi => (jn_list L M i (by rw [List.length_append] at hi; exact hi)).symm), List.length_append]
  exact h1
theorem wpList_appS {ops : Array Oper} {rest : List Oper} {o : Oper} {a : Act} {Q : Exit → Act → World → Prop} (hgd : o.guard = none) (s x : Operand) (t u : TypeId)
    (ho : o.op = .call { callee := .builtin .append, args := #[s, x], argTypes := #[t, u] })
    (base : Nat) (e : TypeId) (i : TypeInfo) (ht : P.underlying t = some (.slice e)) (hu : P.underlying u = some .string) (hi : P.info? e = some i) (hz : i.zero = some (.int .u8 0))
    (hsize : i.size = 1) (hby : i.bytes = 1)
    (v : Value) (n : Nat) (L : List UInt8) (hs : a.eval s = v) (hown : w.ownsRow base e 1 v n (Lib.byteCells L)) (T : ByteArray) (hx : a.eval x = .string T)
    (hle : n + T.size ≤ 140737488355328) (hbase : base ≤ w.heap.size)
    (k : ∀ v' w', w'.ownsRow base e 1 v' (n + T.size) (Lib.byteCells (L ++ T.data.toList)) → Below base w w' → wpList P ops Q rest (a.put o.dst v') w') : wpList P ops Q (o :: rest) a w := by
  refine Lib.wpList_append_own_string w hgd s x t u ho base e i ht hu hi hz hsize hby v n _ hs hown T hx (by unfold maxLen; omega) hle hbase fun v' w' h1 h2 _ => k v' w' ?_ ((Below.refl base w).grown h2 hbase (fun k hk => (hown.lt k hk).1))
  rw [Lib.byteCells_append, ← Lib.strCells_eq]
  exact h1
end
end Go.Proofs.Ythkpjcaphjboeaa.nn
