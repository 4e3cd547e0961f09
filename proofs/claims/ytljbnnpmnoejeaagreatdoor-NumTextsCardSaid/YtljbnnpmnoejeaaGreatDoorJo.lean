/- Joined texts, what is wanted of them: AppM, FromBytes, RefFromBytes, NnE, NnF, NnG. -/
import Derived.Lib.FrozenHead
import Derived.Lib.ConvBytes
import Derived.Test.YtljbnnpmnoejeaaGreatDoorJa
import Derived.Test.YtljbnnpmnoejeaaGreatDoorJm
import Derived.Test.YtljbnnpmnoejeaaGreatDoorJb
import Derived.Test.YtljbnnpmnoejeaaGreatDoorJh
import Derived.Test.YtljbnnpmnoejeaaGreatDoorJg
import Derived.Test.YtljbnnpmnoejeaaGreatDoorJc
import Derived.Test.YtljbnnpmnoejeaaGreatDoorJf
import Derived.Test.YtljbnnpmnoejeaaGreatDoorJe
import Derived.Test.YtljbnnpmnoejeaaGreatDoorJd
import Derived.Test.YtljbnnpmnoejeaaGreatDoorJk
import Derived.Test.YtljbnnpmnoejeaaGreatDoorJl
import Derived.Test.YtljbnnpmnoejeaaGreatDoorJn
namespace Go.Proofs.YtljbnnpmnoejeaaGreatDoor.nn
open Go.RowKit

/-- as ownsRow, of elements of one cell, the block frozen nowhere but behind its cells -/
def OwnM (w : World) (base : Nat) (e : TypeId) (v : Value) (n : Nat) (xs : List Value) : Prop :=
  xs.length = n ∧ ((v = .slice none 0 0 ∧ n = 0) ∨
    ∃ g cap cur fz, v = .slice (some ⟨g, 0, none⟩) n cap ∧ base ≤ g ∧ w.heap[g]? = some (.cells cur e fz) ∧ (fz.2 = 0 ∨ cur.size ≤ fz.1) ∧ n ≤ cap ∧ cap ≤ maxLen ∧ cur.size = cap ∧ cur.toList.take n = xs)

theorem storeCells_m (P : Program) (g o : Nat) (t : TypeId) (fz : Nat × Nat) : ∀ (vs : List Value) (i : Nat) (cur : Array Value) (w : World), w.heap[g]? = some (.cells cur t fz) → (fz.2 = 0 ∨ cur.size ≤ fz.1) → o + i + vs.length ≤ cur.size → (∀ v ∈ vs, v.oneCell' = true) →
    (storeCells ⟨g, o, none⟩ vs i).run P w = .ok () (w.setRow g (cur.toList.take (o + i) ++ vs ++ cur.toList.drop (o + i + vs.length)).toArray)
  | [], i, cur, w, hg, _, _, _ => by
    simp only [storeCells, List.append_nil, List.length_nil, Nat.add_zero, List.take_append_drop, Array.toArray_toList]
    rw [setRow_self w g cur t fz hg]
    rfl
  | v :: rest, i, cur, w, hg, hfz, hl, h1 => by
    have hi : o + i < cur.size := by simp at hl; omega
    have hadd : (⟨g, o, none⟩ : Addr).add i = ⟨g, o + i, none⟩ := by unfold Addr.add; split <;> simp_all
    have hcell : w.cell? ⟨g, o + i, none⟩ = some cur[o + i] := by simp [World.cell?, hg, hi]
    have hfro : w.frozen? ⟨g, o + i, none⟩ = false := by
      obtain ⟨lo, hi'⟩ := fz
      simp only [World.frozen?, hg, Bool.and_eq_false_iff, decide_eq_false_iff_not]
      simp only at hfz
      omega
    have hst : (store ((⟨g, o, none⟩ : Addr).add i) v).run P w = .ok () (w.setRow g (cur.setIfInBounds (o + i) v)) := by
      rw [hadd, run_store P w _ v _ (h1 v (by simp)), hcell]
      simp [hfro, setCell_eq_setRow w g (o + i) cur t fz v hg]
    have ih := storeCells_m P g o t fz rest (i + 1) (cur.setIfInBounds (o + i) v) (w.setRow g (cur.setIfInBounds (o + i) v)) (setRow_heap w g cur _ t _ hg) (by simpa using hfz) (by simp at hl ⊢; omega) (fun x hx => h1 x (by simp [hx]))
    simp only [storeCells, Sem.run_bind, hst, Result.andThen_ok, ih, setRow_setRow]
    congr 3
    have e := list_seg_step cur.toList (o + i) v rest (by simp at hl ⊢; omega)
    simpa [Array.toList_setIfInBounds, Nat.add_assoc] using e
section
variable {P : Program} {w : World} {base : Nat} {e : TypeId} {v : Value} {n : Nat} {xs : List Value}

theorem OwnM.of (h : w.ownsRow base e 1 v n xs) : OwnM w base e v n xs := by
  refine ⟨by simpa using h.1, ?_⟩
  rcases h.2 with hn | ⟨g, cap, cur, hv, hb, hg, h1, h2, h3, h4⟩
  · exact .inl hn
  · exact .inr ⟨g, cap, cur, (0, 0), hv, hb, hg, .inl rfl, h1, h2, by simpa using h3, by simpa using h4⟩
theorem OwnM.lt (h : OwnM w base e v n xs) : ∀ k, v.ownBlock = some k → base ≤ k ∧ k < w.heap.size := by
  intro k hk
  rcases h.2 with ⟨rfl, _⟩ | ⟨g, cap, cur, fz, rfl, hb, hg, _⟩
  · simp [Value.ownBlock] at hk
  · simp [Value.ownBlock] at hk
    subst hk
    exact ⟨hb, (Array.getElem?_eq_some_iff.1 hg).1⟩
theorem OwnM.cells (h : OwnM w base e v n xs) {g : Nat} (hg : v.ownBlock = some g) : ∀ j u, xs[j]? = some u → w.cell? ((⟨g, 0, none⟩ : Addr).add j) = some u := by
  intro j u hu
  rcases h.2 with ⟨rfl, _⟩ | ⟨g', cap, cur, fz, rfl, _, hgg, _, _, _, _, htake⟩
  · simp [Value.ownBlock] at hg
  · simp [Value.ownBlock] at hg
    subst hg
    have hadd : (⟨g', 0, none⟩ : Addr).add j = ⟨g', j, none⟩ := by unfold Addr.add; split <;> simp_all
    rw [hadd, cell_of_row w g' j cur e fz hgg]
    rw [← htake, List.getElem?_take] at hu
    split at hu
    · simpa using hu
    · cases hu
theorem OwnM.keep {w' : World} {B : Nat} (h : OwnM w base e v n xs) (hb : Below B w w') (hB : w.heap.size ≤ B) : OwnM w' base e v n xs := by
  refine ⟨h.1, ?_⟩
  rcases h.2 with hn | ⟨g, cap, cur, fz, hv, h1, hg, rest⟩
  · exact .inl hn
  · exact .inr ⟨g, cap, cur, fz, hv, h1, (hb.block g (Nat.lt_of_lt_of_le (Array.getElem?_eq_some_iff.1 hg).1 hB)).trans hg, rest⟩
/-- the bytes of a text, as new -/
theorem OwnM.bytes (w : World) (e : TypeId) (s : ByteArray) (hs : s.size ≤ maxLen) : OwnM (Lib.bytesWorld w e s) w.heap.size e (.slice (some ⟨w.heap.size, 0, none⟩) s.size (grownCap w s.size 0 e)) s.size (s.data.toList.map fun b => Value.int .u8 b.toNat) := by
  have h1 := grownCap_ge w s.size 0 e
  have h2 := grownCap_le_maxLen w s.size 0 e hs
  have hz : (Lib.bytesCells w e s).size = grownCap w s.size 0 e := by
    unfold Lib.bytesCells
    rw [Array.size_append, Array.size_map, Array.size_replicate]
    show s.size + (_ - s.size) = _
    omega
  refine ⟨by rw [List.length_map]; rfl, .inr ⟨w.heap.size, _, _, _, rfl, Nat.le_refl _, Lib.bytesWorld_at_new w e s, .inr (Nat.le_refl _), h1, h2, hz, ?_⟩⟩
  unfold Lib.bytesCells
  rw [Array.toList_append, Array.toList_map]
  have hl : s.size = (s.data.toList.map fun b => Value.int .u8 b.toNat).length := by rw [List.length_map]; rfl
  conv => lhs; rw [hl]
  exact List.take_left
theorem below_bytes (w : World) (e : TypeId) (s : ByteArray) : Below w.heap.size w (Lib.bytesWorld w e s) :=
  ⟨rfl, rfl, rfl, by rw [Lib.bytesWorld_size]; omega, fun k hk => Lib.bytesWorld_at_old w e s k hk⟩

theorem run_app_m (t ty : TypeId) (i : TypeInfo) (z : Value) (bytes : Nat) (ht : P.underlying t = some (.slice e)) (hi : P.info? e = some i) (hz : i.zero = some z)
    (hsize : i.size = 1) (hby : i.bytes = bytes) (hzs : z.cells.size = 1)
    (hown : OwnM w base e v n xs)
    (a : Addr) (m c : Nat) (news : List Value) (hl : news.length = m) (hnews : ∀ j u, news[j]? = some u → w.cell? (a.add j) = some u) (h1 : ∀ u ∈ news, u.oneCell' = true)
    (h63 : n + m ≤ maxLen) (hbytes : (n + m) * bytes ≤ 140737488355328) (hbase : base ≤ w.heap.size) :
    ∃ v' w', (Builtin.append_ #[t, t] ty #[v, .slice (some a) m c]).run P w = .ok v' w' ∧ OwnM w' base e v' (n + m) (xs ++ news) ∧ Below base w w' := by
  have hsmall : n + m ≤ 9223372036854775807 := by simp only [maxLen] at h63; omega
  rcases hown.2 with ⟨rfl, rfl⟩ | ⟨g, cap, cur, fz, rfl, hbg, hg, hfz, hnc, hcm, hcs, htake⟩
  · obtain ⟨v', w', hr, h2, h3, _⟩ := run_append_own (P := P) w base t ty e i z 1 bytes ht hi hz hsize hby hzs (by omega) (.slice none 0 0) 0 xs ⟨by simpa using hown.1, .inl ⟨rfl, rfl⟩⟩ a m c news (by simpa using hl) hnews h1 h63 hbytes hbase
    exact ⟨v', w', hr, OwnM.of h2, (Below.refl base w).grown h3 hbase (fun k hk => by simp [Value.ownBlock] at hk)⟩
  · have hlen : (xs ++ news).length = n + m := by rw [List.length_append, hown.1, hl]
    by_cases hroom : n + m ≤ cap
    · have hf := run_firstCells_some (P := P) w i.size m a m c news (by rw [hsize]; simpa using hl) hnews
      have hst := storeCells_m P g n e fz news 0 cur w hg hfz (by omega) h1
      simp only [Nat.add_zero] at hst
      have hr : (Builtin.append_ #[t, t] ty #[.slice (some ⟨g, 0, none⟩) n cap, .slice (some a) m c]).run P w =
          .ok (.slice (some ⟨g, 0, none⟩) (n + m) cap) (w.setRow g (cur.toList.take n ++ news ++ cur.toList.drop (n + news.length)).toArray) := by
        rw [hsize] at hf
        simp [Builtin.append_, run_underlying ht, sizeOf, typeInfo, hi, Builtin.lenOf, hroom, hf, Addr.add_lit, hst, hsize]
      refine ⟨_, _, hr, ⟨hlen, .inr ⟨g, cap, _, fz, rfl, hbg, setRow_heap w g cur _ e _ hg, ?_, hroom, hcm, ?_, ?_⟩⟩, ?_⟩
      · rcases hfz with h | h
        · exact .inl h
        · refine .inr ?_
          simp only [List.size_toArray, List.length_append, List.length_take, List.length_drop, Array.length_toList]
          omega
      · simp only [List.size_toArray, List.length_append, List.length_take, List.length_drop, Array.length_toList]
        omega
      · rw [htake, ← hlen]
        exact List.take_left
      · exact (Below.refl base w).grown (row := some g) ⟨rfl, rfl, rfl, by simp, fun k _ hk => setRow_other w g k _ (fun e => hk (by rw [e]))⟩ hbase (fun k hk => by injection hk with hk; omega)
    · have holds : ∀ j u, xs[j]? = some u → w.cell? ((⟨g, 0, none⟩ : Addr).add j) = some u := hown.cells (g := g) rfl
      have hr := run_append_grow (P := P) w t ty e i z ht hi hz ⟨g, 0, none⟩ n cap xs (by rw [hsize, Nat.mul_one]; exact hown.1) holds a m c news (by rw [hsize, Nat.mul_one]; exact hl) hnews (by omega) (by omega) (by rw [hby]; exact growslice_fits (by omega) hbytes)
      have hge := grownCap_ge w (n + m) cap e
      have hcm2 : grownCap w (n + m) cap e ≤ maxLen := grownCap_le_maxLen w (n + m) cap e h63
      refine ⟨_, _, hr, ⟨hlen, .inr ⟨w.heap.size, _, _, (0, 0), rfl, hbase, heap_alloc_new w.drew _, .inl rfl, hge, hcm2, ?_, ?_⟩⟩, ?_⟩
      · simp only [Array.size_append, List.size_toArray, size_zeroCells, hzs, hown.1, hl]
        omega
      · simp only [Array.toList_append, List.append_assoc]
        rw [← List.append_assoc, ← hlen]
        exact List.take_left
      · exact (Below.refl base w).grown (row := none) ⟨rfl, rfl, rfl, by simp, fun k hk _ => heap_alloc_old w.drew _ hk⟩ hbase (fun k hk => by cases hk)
theorem wpList_appM {ops : Array Oper} {rest : List Oper} {o : Oper} {a : Act} {Q : Exit → Act → World → Prop} (hgd : o.guard = none) (s x : Operand) (t : TypeId)
    (ho : o.op = .call { callee := .builtin .append, args := #[s, x], argTypes := #[t, t] })
    (base : Nat) (e : TypeId) (i : TypeInfo) (z : Value) (bytes : Nat) (ht : P.underlying t = some (.slice e)) (hi : P.info? e = some i) (hz : i.zero = some z)
    (hsize : i.size = 1) (hby : i.bytes = bytes) (hzs : z.cells.size = 1)
    (v : Value) (n : Nat) (xs : List Value) (hs : a.eval s = v) (hown : OwnM w base e v n xs)
    (ad : Addr) (m c : Nat) (news : List Value) (hx : a.eval x = .slice (some ad) m c) (hl : news.length = m) (hnews : ∀ j u, news[j]? = some u → w.cell? (ad.add j) = some u) (h1 : ∀ u ∈ news, u.oneCell' = true)
    (h63 : n + m ≤ maxLen) (hbytes : (n + m) * bytes ≤ 140737488355328) (hbase : base ≤ w.heap.size)
    (k : ∀ v' w', OwnM w' base e v' (n + m) (xs ++ news) → Below base w w' → wpList P ops Q rest (a.put o.dst v') w') : wpList P ops Q (o :: rest) a w := by
  refine wpList_plain hgd fun K hK => ?_
  obtain ⟨v', w', hr, h2, h3⟩ := run_app_m (P := P) (w := w) t o.type i z bytes ht hi hz hsize hby hzs hown ad m c news hl hnews h1 h63 hbytes hbase
  unfold Oper.wp execOp
  simp only [ho, resolve, invoke, builtin, Sem.run_bind, Sem.run_pure, Result.andThen_ok, List.map_toArray, List.map_cons, List.map_nil, hs, hx, hr]
  exact hK _ _ (k v' w' h2 h3)
end
end Go.Proofs.YtljbnnpmnoejeaaGreatDoor.nn
namespace Go.Proofs.YtljbnnpmnoejeaaGreatDoor.nn
open Go.RowKit

/-- what holds when i of the m bytes b are in -/
def FbRel (w wr : World) (g : Nat) (e : TypeId) (cur : Array Value) (L m : Nat) (b : Nat → Nat) (i : Nat) : Prop :=
  ∃ (f' : Nat → Nat) (cur' : Array Value), Wrote w wr g e cur cur' 0 L ∧ Ints cur' .u32 0 L f' ∧ Lt (2 ^ 32) f' L ∧ sm (2 ^ 32) f' L = be b i * 256 ^ (m - i) ∧
    ∀ q r, 4 * q + r + 1 = m - i → r < 4 → f' q % 2 ^ (8 * (r + 1)) = 0 ∧ ∀ j, j < q → f' j = 0

theorem byte_in {o x r : Nat} (hr : r < 4) (hx : x < 256) (ho : o < 2 ^ 32) (hm : o % 2 ^ (8 * (r + 1)) = 0) :
    o + x * 2 ^ (8 * r) < 2 ^ 32 ∧ (o + x * 2 ^ (8 * r)) % 2 ^ (8 * r) = 0 ∧ bits BinOp.or IntKind.u32 (o : Int) ((x : Int) * 2 ^ (8 * r) % 4294967296) = ((o + x * 2 ^ (8 * r) : Nat) : Int) := by
  have e : (x : Int) * 2 ^ (8 * r) % 4294967296 = ((x * 2 ^ (8 * r) : Nat) : Int) := by
    have h1 : ((x * 2 ^ (8 * r) : Nat) : Int) = (x : Int) * 2 ^ (8 * r) := by simp
    rw [← h1]
    match r, hr with
    | 0, _ => omega
    | 1, _ => show ((x * 256 : Nat) : Int) % 4294967296 = ((x * 256 : Nat) : Int); omega
    | 2, _ => show ((x * 65536 : Nat) : Int) % 4294967296 = ((x * 65536 : Nat) : Int); omega
    | 3, _ => show ((x * 16777216 : Nat) : Int) % 4294967296 = ((x * 16777216 : Nat) : Int); omega
  rw [e]
  have hb : x * 2 ^ (8 * r) < 2 ^ (8 * (r + 1)) := by
    rw [Nat.mul_add, Nat.pow_add, Nat.mul_comm]
    exact Nat.mul_lt_mul_of_pos_left hx (Nat.two_pow_pos _)
  have hj : o ||| x * 2 ^ (8 * r) = o + x * 2 ^ (8 * r) := nat_join (8 * (r + 1)) o _ hm hb
  have hlt : o + x * 2 ^ (8 * r) < 2 ^ 32 := by
    rw [← hj]
    refine Nat.or_lt_two_pow ho ?_
    refine Nat.lt_of_lt_of_le hb (Nat.pow_le_pow_right (by decide) (by omega))
  refine ⟨hlt, ?_, ?_⟩
  · rw [Nat.add_mul_mod_self_right]
    rw [Nat.mul_add, Nat.pow_add] at hm
    exact Nat.mod_eq_zero_of_dvd (Nat.dvd_trans (Nat.dvd_mul_right _ _) (Nat.dvd_of_mod_eq_zero hm))
  · rw [u32_or_nat o _ ho (by omega), hj]

theorem FbRel.step {w wr : World} {g : Nat} {e : TypeId} {cur : Array Value} {L m : Nat} {b : Nat → Nat} {i q r : Nat} {f' : Nat → Nat} {cur' : Array Value} (h1 : Wrote w wr g e cur cur' 0 L) (h2 : Ints cur' .u32 0 L f') (h3 : Lt (2 ^ 32) f' L)
    (h4 : sm (2 ^ 32) f' L = be b i * 256 ^ (m - i)) (h5 : f' q % 2 ^ (8 * (r + 1)) = 0 ∧ ∀ j, j < q → f' j = 0) (hi : i < m) (hp : m - 1 - i = 4 * q + r) (hr : r < 4) (hq : q < L) (hx : b i < 256) (z : Int) (hz : z = ((f' q + b i * 2 ^ (8 * r) : Nat) : Int)) :
    FbRel w (wr.setCell ⟨g, q, none⟩ (.int .u32 z)).drew g e cur L m b (i + 1) := by
  subst hz
  obtain ⟨k1, k2, _⟩ := byte_in hr hx (h3 q hq) h5.1
  have a := h1.set_ q hq (.int .u32 ((f' q + b i * 2 ^ (8 * r) : Nat) : Int))
  have c := h2.set_ q (f' q + b i * 2 ^ (8 * r)) hq
  rw [Nat.zero_add] at a c
  refine ⟨_, _, a.drewN 1, c, h3.upd k1, ?_, fun q' r' hq' hr' => ?_⟩
  · have h6 := sm_upd (2 ^ 32) f' (k := q) (f' q + b i * 2 ^ (8 * r)) hq
    have e1 : m - i = 4 * q + r + 1 := by omega
    have e2 : m - (i + 1) = 4 * q + r := by omega
    rw [h4, e1, Nat.pow_succ 256 (4 * q + r), pow256, Nat.add_mul] at h6
    rw [e2, be, pow256]
    generalize (2 ^ 32) ^ q = D at *
    generalize 2 ^ (8 * r) = E at *
    have e3 : be b i * (E * D * 256) = be b i * 256 * (E * D) := by rw [Nat.mul_comm (E * D) 256, Nat.mul_assoc]
    have e4 : b i * E * D = b i * (E * D) := Nat.mul_assoc _ _ _
    rw [e3, e4] at h6
    rw [Nat.add_mul]
    omega
  · by_cases h0 : r = 0
    · subst h0
      have : q' + 1 = q ∧ r' = 3 := by omega
      obtain ⟨rfl, rfl⟩ := this
      refine ⟨?_, fun j hj => ?_⟩
      · rw [upd_ne _ (by omega), h5.2 q' (by omega)]
      · rw [upd_ne _ (by omega)]; exact h5.2 j (by omega)
    · have : q' = q ∧ r' + 1 = r := by omega
      obtain ⟨rfl, rfl⟩ := this
      refine ⟨?_, fun j hj => ?_⟩
      · rw [upd_at]; exact k2
      · rw [upd_ne _ (by omega)]; exact h5.2 j hj

/-- what is read, and the number of the error -/
def fbR (b : Nat → Nat) (m k : Nat) : Nat := if 16384 < m - k then 0 else be b m
def fbE (m k : Nat) : Nat := if 16384 < m - k then 2 else 0
/-- so many bytes 0 stand ahead -/
def Lead (b : Nat → Nat) (m k : Nat) : Prop := k ≤ m ∧ (∀ i, i < k → b i = 0) ∧ (k = m ∨ b k ≠ 0)
theorem be_zero {b : Nat → Nat} {k : Nat} (h : ∀ i, i < k → b i = 0) : be b k = 0 := by
  induction k with
  | zero => rfl
  | succ k ih => rw [be, ih fun i hi => h i (by omega), h k (by omega)]
theorem be_skip {b : Nat → Nat} {k : Nat} (h : ∀ i, i < k → b i = 0) (n : Nat) : be b (k + n) = be (fun i => b (k + i)) n := by
  induction n with
  | zero => exact be_zero h
  | succ n ih => rw [← Nat.add_assoc, be, be, ih]
theorem be_ge {b : Nat → Nat} {m : Nat} (hm : 0 < m) (h : b 0 ≠ 0) : 256 ^ (m - 1) ≤ be b m := by
  obtain ⟨k, rfl⟩ : ∃ k, m = k + 1 := ⟨m - 1, by omega⟩
  rw [Nat.add_sub_cancel]
  clear hm
  induction k with
  | zero => simp [be]; omega
  | succ k ih => rw [be, Nat.pow_succ]; omega
theorem be_lt {b : Nat → Nat} {n : Nat} (h : ∀ i, i < n → b i < 256) : be b n < 256 ^ n := by
  induction n with
  | zero => simp [be]
  | succ n ih =>
    have h1 := ih fun i hi => h i (by omega)
    have h2 := h n (by omega)
    rw [be, Nat.pow_succ]
    omega

set_option maxRecDepth 100000 in
set_option maxHeartbeats 1000000 in
theorem fromBytes_any (A : Option Addr) (m c : Nat) (b : Nat → Nat) (w : World) (hA : Rd w .u8 A m b) (lb : ∀ i, i < m → b i < 256) (hm : m ≤ c) (hc : c ≤ maxLen) (k : Nat) (hk : Lead b m k) :
    Calls Tryz.prog 47 #[.slice A m c] w fun e w' => Res w w' e (fbR b m k) (fbE m k) := by
  obtain ⟨i0, hi, hz0, hz1, hz2⟩ := info_parts info_u32
  obtain ⟨hkm, hk0, hk1⟩ := hk
  have HK := Lib.hid (And.intro hk0 hk1)
  have HB := Lib.hid lb
  have hA0 := Lib.hid hA
  unfold maxLen at hc
  clear hk0 hk1 lb hA
  go_enter Tryz.func47, Tryz.ntmps47
  go_wp2
  go_loop [0] (fun s => ∃ (i : Nat) (A' : Option Addr) (c' : Nat), i ≤ k ∧ s = .slice A' (m - i) c' ∧ m - i ≤ c' ∧ c' ≤ 9223372036854775807 ∧ Hid (Rd w .u8 A' (m - i) (fun j => b (i + j)))) (fun s => match s with | .slice _ n _ => n | _ => 0)
  case atStart => exact ⟨0, A, c, by omega, rfl, by omega, by omega, Lib.hid (hA0.out.congr (fun j _ => by rw [Nat.zero_add]))⟩
  case round =>
    obtain ⟨i, A', c', hik, rfl, hmc, hcc, hr⟩ := hrel
    by_cases hlt : i < k
    · obtain ⟨bb, off, rfl, hbl, hcell⟩ := hr.out (by omega)
      have hx' : w.cell? ⟨bb, off, none⟩ = some (.int .u8 0) := by
        have h := hcell 0 (by omega)
        simp only [Nat.add_zero] at h
        rw [HK.out.1 i hlt] at h
        exact h
      have hpos : 0 < m - i := by omega
      have HC := Lib.hid hcell
      clear hcell
      by_cases hc1 : c' = 1
      · subst hc1
        go_wp2_with fail
        go_round
        case rel => exact ⟨i + 1, some ⟨bb, off, none⟩, 0, by omega, by rw [show m - (i + 1) = 0 by omega], by omega, by omega, Lib.hid (fun h => absurd h (by omega))⟩
        case measure => omega
      · have hc2 : 1 < c' := by omega
        go_wp2_with fail
        go_round
        case rel => exact ⟨i + 1, some ⟨bb, off + 1, none⟩, c' - 1, by omega, by rw [Nat.sub_add_eq], by omega, by omega, Lib.hid (fun h => ⟨bb, off + 1, rfl, hbl, fun j hj => by
          have h2 := HC.out (1 + j) (by omega)
          rw [← Nat.add_assoc] at h2
          simp only [← Nat.add_assoc] at h2
          exact h2⟩)⟩
        case measure => show m - i - 1 < m - i; omega
    · obtain rfl : i = k := by omega
      obtain ⟨M, hM⟩ : ∃ M, m - i = M := ⟨_, rfl⟩
      rw [hM] at hr hmc
      rw [hM]
      have HR := Lib.hid (show fbR b m i = (if 16384 < M then 0 else be (fun j => b (i + j)) M) ∧ fbE m i = (if 16384 < M then 2 else 0) from by
        have h := be_skip HK.out.1 M
        rw [show i + M = m by omega] at h
        unfold fbR fbE
        rw [hM, h]
        exact ⟨rfl, rfl⟩)
      have lbk : Hid (∀ j, j < M → b (i + j) < 256) := Lib.hid fun j hj => HB.out _ (by omega)
      have hstop : M = 0 ∨ 0 < M ∧ b i ≠ 0 := by
        have := HK.out.2
        omega
      clear hM hA0 HB
      obtain ⟨bk, hbk⟩ : ∃ bk, b i = bk := ⟨_, rfl⟩
      have hcell0 : 0 < M → ∃ bb off, A' = some ⟨bb, off, none⟩ ∧ w.cell? ⟨bb, off, none⟩ = some (.int .u8 (bk : Int)) := fun h => by
        obtain ⟨bb, off, e, _, hcell⟩ := hr.out h
        have h2 := hcell 0 h
        simp only [Nat.add_zero, hbk] at h2
        exact ⟨bb, off, e, h2⟩
      rw [hbk] at hstop
      obtain ⟨b2, hb2⟩ : ∃ b2 : Nat → Nat, (fun j => b (i + j)) = b2 := ⟨_, rfl⟩
      have lb2 : Hid (∀ j, j < M → b2 j < 256) := Lib.hid fun j hj => by rw [← hb2]; exact lbk.out j hj
      have HB0 : Hid (b2 0 = bk) := Lib.hid (by rw [← hb2]; exact hbk)
      rw [hb2] at hr HR
      clear hb2 lbk HK hbk
      obtain ⟨L, hL⟩ : ∃ L, (M + 3) / 4 = L := ⟨_, rfl⟩
      have hL' : ((M : Int) + 4 - 1) / 4 = (L : Int) := by omega
      have hML : M ≤ 4 * L := by omega
      clear hL
      by_cases hlong : 16384 < M
      · have HS : Hid (fbR b m i = 0 ∧ fbE m i = 2) := Lib.hid (by rw [HR.out.1, HR.out.2, if_pos hlong, if_pos hlong]; exact ⟨rfl, rfl⟩)
        obtain ⟨bb, off, rfl, hx⟩ := hcell0 (by omega)
        have hq : ((bk : Int) == 0) = false := by simp; omega
        have HN := Lib.hid (num_nil w)
        clear hcell0 hstop hL'
        go_wp2_with fail
        go_ret2
        rw [HS.out.1, HS.out.2]
        exact ⟨_, _, _, _, rfl, HN.out, Below.refl _ _⟩
      · have HS : Hid (fbR b m i = be b2 M ∧ fbE m i = 0) := Lib.hid (by rw [HR.out.1, HR.out.2, if_neg hlong, if_neg hlong]; exact ⟨rfl, rfl⟩)
        clear HR
        have hM4 : M ≤ 16384 := by omega
        have hL4 : 4 * L ≤ M + 3 := by omega
        rcases hstop with h0 | ⟨h0, h1⟩
        · subst h0
          obtain rfl : L = 0 := by omega
          clear hcell0 hlong
          go_wp2_with (refine wpList_make_full _ rfl _ _ 48 rfl w.heap.size 72 i0 _ 1 Tryz.underlying48 hi hz0 hz1 .i64 .i64 _ _ 0 rfl rfl (by first | rfl | omega) (by first | rfl | omega) (by rw [hz2]; omega) (by unfold maxLen; omega) (by omega) ?_; intro w1 hown1 hg1)
          have hbw1 := Lib.hid ((Below.refl w.heap.size w).grown (row := none) hg1 (Nat.le_refl _) (fun k hk => by cases hk))
          clear hown1 hg1
          go_loopw [30] (fun s wr => s = .int .i64 0 ∧ wr = w1) (fun _ _ => 0)
          case atStart => exact ⟨rfl, rfl⟩
          case round =>
            obtain ⟨rfl, rfl⟩ := hrel
            go_wp2_with fail
            go_ret2
            rw [HS.out.1, HS.out.2]
            exact ⟨_, 0, 0, fun _ => 0, rfl, ⟨Nat.le_refl _, by simp [maxLen], Rd.none_, fun _ h => absurd h (by omega), .inl rfl, rfl⟩, hbw1.out⟩
        · obtain ⟨bb, off, rfl, hx⟩ := hcell0 h0
          have hq : ((bk : Int) == 0) = false := by simp; omega
          have HT := Lib.hid h1
          clear hcell0 hlong h1
          go_wp2_with (refine wpList_make_full _ rfl _ _ 48 rfl w.heap.size 72 i0 _ 1 Tryz.underlying48 hi hz0 hz1 .i64 .i64 _ _ L rfl rfl (by first | exact hL' | omega) (by first | exact hL' | omega) (by rw [hz2]; omega) (by unfold maxLen; omega) (by omega) ?_; intro w1 hown1 hg1)
          rw [made_vl] at hown1
          obtain ⟨cur, hbk, hint, _, _, _, hcs, _⟩ := own_wrote hown1
          have hbw1 : Below w.heap.size w w1 := (Below.refl _ _).grown (row := none) hg1 (Nat.le_refl _) (fun k hk => by cases hk)
          have hr1 := Lib.hid (hr.out.below hbw1)
          have hne : Hid (∀ b o, some (⟨bb, off, none⟩ : Addr) = some ⟨b, o, none⟩ → 0 < M → b ≠ w.heap.size) := Lib.hid fun b o e h0 => by have := hr.out.lt e h0; omega
          clear hown1 hcs hg1 hL' hx hq hr
          go_loopw [30] (fun s wr => ∃ j : Nat, j ≤ M ∧ s = .int .i64 j ∧ Hid (FbRel w1 wr w.heap.size 72 cur L M b2 j)) (fun s _ => M - (intOf s).toNat)
          case atStart => exact ⟨0, Nat.zero_le _, rfl, Lib.hid ⟨fun _ => 0, cur, Wrote.refl hbk 0 _, hint, fun _ _ => Nat.two_pow_pos 32, by rw [zero_sm]; simp [be], fun q r _ _ => ⟨Nat.zero_mod _, fun _ _ => rfl⟩⟩⟩
          case round =>
            obtain ⟨j, hj, rfl, hrel⟩ := hrel
            by_cases hjl : j < M
            · obtain ⟨f', cur', hw, hin, lf', hv, hlow⟩ := hrel.out
              obtain ⟨q, hq⟩ : ∃ q, (M - 1 - j) / 4 = q := ⟨_, rfl⟩
              obtain ⟨r, hr⟩ : ∃ r, (M - 1 - j) % 4 = r := ⟨_, rfl⟩
              have hp : M - 1 - j = 4 * q + r := by omega
              have hr4 : r < 4 := by omega
              have hqL : q < L := by omega
              have h5 := hlow q r (by omega) hr4
              have hx256 := lb2.out j hjl
              obtain ⟨bb', off', hbo, _, hcell⟩ := (hr1.out.wrote hw hne.out) (by omega)
              injection hbo with hbo
              injection hbo with e1 e2
              subst e1 e2
              have hx := hcell j hjl
              have hc1 := (Bk.cell hw.blk (0 + q)).trans (hin q hqL)
              have hf1 := Bk.frozen hw.blk (0 + q)
              have bo := lf' q hqL
              rw [Nat.zero_add] at hc1 hf1
              have HB := Lib.hid (byte_in hr4 hx256 bo h5.1)
              have HST := Lib.hid (fun z hz => FbRel.step hw hin lf' hv h5 hjl hp hr4 hqL hx256 z hz)
              obtain ⟨p, hpp⟩ : ∃ p, 4 * q + r = p := ⟨_, rfl⟩
              obtain ⟨t, htt⟩ : ∃ t, 8 * r = t := ⟨_, rfl⟩
              have t32 : t < 32 := by omega
              have e1 : (M : Int) - 1 - (j : Int) = (p : Int) := by omega
              have e2 : (p : Int) / 4 = (q : Int) := by omega
              have e3 : (p : Int) % 4 = (r : Int) := by omega
              have e4 : (8 : Int) * (r : Int) = (t : Int) := by omega
              have qb : (q : Int) < (L : Int) := by omega
              have pb : p ≤ 16384 := by omega
              rw [htt] at HB HST
              clear hcell hq hr hp hpp htt hw hin lf' hv hlow h5
              have xs : b2 j < 256 := hx256
              go_wp2_with fail
              have t1 : Int.tdiv (p : Int) 4 = (q : Int) := by rw [Int.tdiv_eq_ediv_of_nonneg (by omega)]; exact e2
              have t3 : Int.tmod (p : Int) 4 = (r : Int) := by rw [Int.tmod_eq_emod_of_nonneg (by omega)]; exact e3
              have t0 : 0 ≤ (q : Int) := by omega
              have t9 : 0 ≤ (t : Int) := by omega
              have t6 : IntKind.u32.wrap (b2 j : Int) = (b2 j : Int) := by rw [IntKind.wrap_u32]; omega
              have t7 : IntKind.i64.wrap (8 * (r : Int)) = (t : Int) := by rw [e4]; exact IntWalk.i64_in _ (by omega)
              have t2 : IntKind.i64.wrap (q : Int) = (q : Int) := IntWalk.i64_in _ (by omega)
              have t4 : IntKind.i64.wrap (r : Int) = (r : Int) := IntWalk.i64_in _ (by omega)
              have t5 : IntKind.i64.wrap (t : Int) = (t : Int) := IntWalk.i64_in _ (by omega)
              clear e1 e2 e3
              go_region_with (fail)
              clear t1 t2 t3 t4 t5 t6 t7 e4
              go_wp2
              go_roundw
              case rel => exact ⟨j + 1, by omega, by go_num, Lib.hid (HST.out _ HB.out.2.2)⟩
              case measure => simp [intOf]; omega
            · obtain rfl : j = M := by omega
              obtain ⟨f', cur', hw, hin, lf', hv, _⟩ := hrel.out
              rw [Nat.sub_self, Nat.pow_zero, Nat.mul_one] at hv
              have hbw2 := hbw1.grown hw.grown hbw1.size (fun k hk => by injection hk with hk; exact Nat.le_of_eq hk)
              have hT : Trm f' L := by
                right
                intro hz
                have h1 := be_ge (b := b2) (m := j) h0 (by rw [HB0.out]; exact HT.out)
                have h2 : sm (2 ^ 32) f' L = sm (2 ^ 32) f' (L - 1) := by
                  obtain ⟨t, rfl⟩ : ∃ t, L = t + 1 := ⟨L - 1, by omega⟩
                  rw [Nat.add_sub_cancel] at hz ⊢
                  simp [sm, hz]
                have h3 : sm (2 ^ 32) f' (L - 1) < (2 ^ 32) ^ (L - 1) := sm_lt (lf'.mono (by omega))
                have h4 : (2 ^ 32) ^ (L - 1) ≤ 256 ^ (j - 1) := by
                  rw [show (2 : Nat) ^ 32 = 256 ^ 4 from rfl, ← Nat.pow_mul]
                  exact Nat.pow_le_pow_right (by decide) (by omega)
                omega
              have HN : Hid (Num wr (some ⟨w.heap.size, 0, none⟩) L L f' (be b2 j)) := Lib.hid ⟨Nat.le_refl _, by unfold maxLen; omega, hin.rd hw.blk, lf', hT, hv⟩
              clear hw hin lf' hv hT
              go_wp2
              go_ret2
              rw [HS.out.1, HS.out.2]
              exact ⟨_, _, _, f', rfl, HN.out, hbw2⟩
end Go.Proofs.YtljbnnpmnoejeaaGreatDoor.nn
namespace Go.Proofs.YtljbnnpmnoejeaaGreatDoor.nn
open Go.RowKit

set_option maxRecDepth 100000 in
set_option maxHeartbeats 1000000 in
theorem rfromBytes_any (A : Option Addr) (m c : Nat) (b : Nat → Nat) (w : World) (hA : Rd w .u8 A m b) (hform : (A = none ∧ m = 0 ∧ c = 0) ∨ ∃ bb off, A = some ⟨bb, off, none⟩) (lb : ∀ i, i < m → b i < 256) (hm : m ≤ c) (hc : c ≤ maxLen) (k : Nat) (hk : Lead b m k) :
    Calls Tryz.prog 50 #[.slice A m c] w fun e w' => Res w w' e (fbR b m k) (fbE m k) := by
  obtain ⟨i0, hi, hz0, hz1, hz2⟩ := info_parts info_u32
  obtain ⟨hkm, hk0, hk1⟩ := hk
  have HK := Lib.hid (And.intro hk0 hk1)
  have HB := Lib.hid lb
  have hA0 := Lib.hid hA
  have HF := Lib.hid hform
  unfold maxLen at hc
  clear hk0 hk1 lb hA hform
  go_enter Tryz.func50, Tryz.ntmps50
  go_wp2
  go_loop [4] (fun s => ∃ i : Nat, i ≤ k ∧ s = .int .i64 (i : Int)) (fun s => k - (intOf s).toNat)
  case atStart => exact ⟨0, by omega, rfl⟩
  case round =>
    obtain ⟨i, hik, rfl⟩ := hrel
    by_cases hlt : i < k
    · obtain ⟨bb, off, rfl, hbl, hcell⟩ := hA0.out (by omega)
      have hx := hcell i (by omega)
      rw [HK.out.1 i hlt] at hx
      clear hcell
      go_wp2_with fail
      go_round
      case rel => exact ⟨i + 1, by omega, by go_num⟩
      case measure => simp [intOf]; omega
    · obtain rfl : i = k := by omega
      obtain ⟨M, hM⟩ : ∃ M, m - i = M := ⟨_, rfl⟩
      have hMi : (m : Int) - (i : Int) = (M : Int) := by omega
      have HR := Lib.hid (show fbR b m i = (if 16384 < M then 0 else be (fun j => b (i + j)) M) ∧ fbE m i = (if 16384 < M then 2 else 0) from by
        have h := be_skip HK.out.1 M
        rw [show i + M = m by omega] at h
        unfold fbR fbE
        rw [hM, h]
        exact ⟨rfl, rfl⟩)
      have lbk : Hid (∀ j, j < M → b (i + j) < 256) := Lib.hid fun j hj => HB.out _ (by omega)
      obtain ⟨b2, hb2⟩ : ∃ b2 : Nat → Nat, (fun j => b (i + j)) = b2 := ⟨_, rfl⟩
      have lb2 : Hid (∀ j, j < M → b2 j < 256) := Lib.hid fun j hj => by rw [← hb2]; exact lbk.out j hj
      rw [hb2] at HR
      obtain ⟨L, hL⟩ : ∃ L, (M + 3) / 4 = L := ⟨_, rfl⟩
      have hL' : ((M : Int) + 3) / 4 = (L : Int) := by omega
      have hML : M ≤ 4 * L := by omega
      have hL4 : 4 * L ≤ M + 3 := by omega
      clear hL
      by_cases h0 : M = 0
      · have HS : Hid (fbR b m i = 0 ∧ fbE m i = 0) := Lib.hid (by rw [HR.out.1, HR.out.2, if_neg (by omega), if_neg (by omega), h0]; exact ⟨rfl, rfl⟩)
        subst h0
        obtain rfl : L = 0 := by omega
        have him : i = m := by omega
        clear HR lb2 lbk hb2 hL' hMi hM
        have key : ∀ w1 : World, Below w.heap.size w w1 → Res w w1 (.returned (.tuple #[.slice (some ⟨w.heap.size, 0, none⟩) 0 0, .int .i64 0])) (fbR b m i) (fbE m i) := fun w1 hb => by
          rw [HS.out.1, HS.out.2]
          exact ⟨_, 0, 0, fun _ => 0, rfl, ⟨Nat.le_refl _, by simp [maxLen], Rd.none_, fun _ h => absurd h (by omega), .inl rfl, rfl⟩, hb⟩
        have KEY := Lib.hid key
        clear key
        subst him
        rcases HF.out with ⟨rfl, h1, h2⟩ | ⟨bb, off, rfl⟩
        · subst h1 h2
          go_wp2_with (refine wpList_make_full _ rfl _ _ 48 rfl w.heap.size 72 i0 _ 1 Tryz.underlying48 hi hz0 hz1 .i64 .i64 _ _ 0 rfl rfl (by first | rfl | omega) (by first | rfl | omega) (by rw [hz2]; omega) (by unfold maxLen; omega) (by omega) ?_; intro w1 hown1 hg1)
          have hbw1 := Lib.hid ((Below.refl w.heap.size w).grown (row := none) hg1 (Nat.le_refl _) (fun k hk => by cases hk))
          clear hown1 hg1
          go_loopw [6] (fun s wr => s = .int .i64 0 ∧ wr = w1) (fun _ _ => 0)
          case atStart => exact ⟨rfl, rfl⟩
          case round =>
            obtain ⟨rfl, rfl⟩ := hrel
            go_wp2_with fail
            go_ret2
            exact KEY.out _ hbw1.out
        · by_cases hci : c = i
          · subst hci
            have hx : 0 < c → w.cell? ⟨bb, off + c, none⟩ = w.cell? ⟨bb, off + c, none⟩ := fun _ => rfl
            clear hx
            go_wp2_with (refine wpList_make_full _ rfl _ _ 48 rfl w.heap.size 72 i0 _ 1 Tryz.underlying48 hi hz0 hz1 .i64 .i64 _ _ 0 rfl rfl (by first | rfl | omega) (by first | rfl | omega) (by rw [hz2]; omega) (by unfold maxLen; omega) (by omega) ?_; intro w1 hown1 hg1)
            have hbw1 := Lib.hid ((Below.refl w.heap.size w).grown (row := none) hg1 (Nat.le_refl _) (fun k hk => by cases hk))
            clear hown1 hg1
            go_loopw [6] (fun s wr => s = .int .i64 0 ∧ wr = w1) (fun _ _ => 0)
            case atStart => exact ⟨rfl, rfl⟩
            case round =>
              obtain ⟨rfl, rfl⟩ := hrel
              go_wp2_with fail
              go_ret2
              exact KEY.out _ hbw1.out
          · have hci2 : i < c := by omega
            clear hci
            go_wp2_with (refine wpList_make_full _ rfl _ _ 48 rfl w.heap.size 72 i0 _ 1 Tryz.underlying48 hi hz0 hz1 .i64 .i64 _ _ 0 rfl rfl (by first | rfl | omega) (by first | rfl | omega) (by rw [hz2]; omega) (by unfold maxLen; omega) (by omega) ?_; intro w1 hown1 hg1)
            have hbw1 := Lib.hid ((Below.refl w.heap.size w).grown (row := none) hg1 (Nat.le_refl _) (fun k hk => by cases hk))
            clear hown1 hg1
            go_loopw [6] (fun s wr => s = .int .i64 0 ∧ wr = w1) (fun _ _ => 0)
            case atStart => exact ⟨rfl, rfl⟩
            case round =>
              obtain ⟨rfl, rfl⟩ := hrel
              go_wp2_with fail
              go_ret2
              exact KEY.out _ hbw1.out
      · have h0 : 0 < M := by omega
        have hT : b i ≠ 0 := by
          rcases HK.out.2 with h | h
          · omega
          · exact h
        obtain ⟨bb, off, rfl, hbl, hcell⟩ := hA0.out (by omega)
        have hr : Hid (Rd w .u8 (some ⟨bb, off + i, none⟩) M b2) := Lib.hid fun _ => ⟨bb, off + i, rfl, hbl, fun j hj => by
          have h := hcell (i + j) (by omega)
          rw [← hb2, Nat.add_assoc]
          exact h⟩
        have hx := hcell i (by omega)
        obtain ⟨bk, hbk⟩ : ∃ bk, b i = bk := ⟨_, rfl⟩
        have HB0 : Hid (b2 0 = bk) := Lib.hid (by rw [← hb2]; exact hbk)
        rw [hbk] at hx hT
        have HT := Lib.hid hT
        have hq : ((bk : Int) == 0) = false := by simp; omega
        have hci : i < c := by omega
        clear hcell HB hb2 lbk HK hbk hT HF hA0
        by_cases hlong : 16384 < M
        · have HS : Hid (fbR b m i = 0 ∧ fbE m i = 2) := Lib.hid (by rw [HR.out.1, HR.out.2, if_pos hlong, if_pos hlong]; exact ⟨rfl, rfl⟩)
          have HN := Lib.hid (num_nil w)
          clear hL' HR
          go_wp2_with fail
          go_ret2
          rw [HS.out.1, HS.out.2]
          exact ⟨_, _, _, _, rfl, HN.out, Below.refl _ _⟩
        · have HS : Hid (fbR b m i = be b2 M ∧ fbE m i = 0) := Lib.hid (by rw [HR.out.1, HR.out.2, if_neg hlong, if_neg hlong]; exact ⟨rfl, rfl⟩)
          clear HR
          have hM4 : M ≤ 16384 := by omega
          clear hlong
          go_wp2_with (refine wpList_make_full _ rfl _ _ 48 rfl w.heap.size 72 i0 _ 1 Tryz.underlying48 hi hz0 hz1 .i64 .i64 _ _ L rfl rfl (by first | exact hL' | omega) (by first | exact hL' | omega) (by rw [hz2]; omega) (by unfold maxLen; omega) (by omega) ?_; intro w1 hown1 hg1)
          rw [made_vl] at hown1
          obtain ⟨cur, hbk, hint, _, _, _, hcs, _⟩ := own_wrote hown1
          have hbw1 : Below w.heap.size w w1 := (Below.refl _ _).grown (row := none) hg1 (Nat.le_refl _) (fun k hk => by cases hk)
          have hr1 := Lib.hid (hr.out.below hbw1)
          have hne : Hid (∀ b o, some (⟨bb, off + i, none⟩ : Addr) = some ⟨b, o, none⟩ → 0 < M → b ≠ w.heap.size) := Lib.hid fun b o e h0 => by have := hr.out.lt e h0; omega
          clear hown1 hcs hg1 hL' hx hq hr
          go_loopw [6] (fun s wr => ∃ j : Nat, j ≤ M ∧ s = .int .i64 j ∧ Hid (FbRel w1 wr w.heap.size 72 cur L M b2 j)) (fun s _ => M - (intOf s).toNat)
          case atStart => exact ⟨0, Nat.zero_le _, rfl, Lib.hid ⟨fun _ => 0, cur, Wrote.refl hbk 0 _, hint, fun _ _ => Nat.two_pow_pos 32, by rw [zero_sm]; simp [be], fun q r _ _ => ⟨Nat.zero_mod _, fun _ _ => rfl⟩⟩⟩
          case round =>
            obtain ⟨j, hj, rfl, hrel⟩ := hrel
            by_cases hjl : j < M
            · obtain ⟨f', cur', hw, hin, lf', hv, hlow⟩ := hrel.out
              obtain ⟨q, hq⟩ : ∃ q, (M - 1 - j) / 4 = q := ⟨_, rfl⟩
              obtain ⟨r, hr⟩ : ∃ r, (M - 1 - j) % 4 = r := ⟨_, rfl⟩
              have hp : M - 1 - j = 4 * q + r := by omega
              have hr4 : r < 4 := by omega
              have hqL : q < L := by omega
              have h5 := hlow q r (by omega) hr4
              have hx256 := lb2.out j hjl
              obtain ⟨bb', off', hbo, _, hcell⟩ := (hr1.out.wrote hw hne.out) (by omega)
              injection hbo with hbo
              injection hbo with e1 e2
              subst e1 e2
              have hx := hcell j hjl
              have hc1 := (Bk.cell hw.blk (0 + q)).trans (hin q hqL)
              have hf1 := Bk.frozen hw.blk (0 + q)
              have bo := lf' q hqL
              rw [Nat.zero_add] at hc1 hf1
              have HB := Lib.hid (byte_in hr4 hx256 bo h5.1)
              have HST := Lib.hid (fun z hz => FbRel.step hw hin lf' hv h5 hjl hp hr4 hqL hx256 z hz)
              obtain ⟨p, hpp⟩ : ∃ p, 4 * q + r = p := ⟨_, rfl⟩
              obtain ⟨t, htt⟩ : ∃ t, 8 * r = t := ⟨_, rfl⟩
              have t32 : t < 32 := by omega
              have e1 : (M : Int) - 1 - (j : Int) = (p : Int) := by omega
              have e2 : (p : Int) / 4 = (q : Int) := by omega
              have e3 : (p : Int) % 4 = (r : Int) := by omega
              have e4 : (8 : Int) * (r : Int) = (t : Int) := by omega
              have qb : (q : Int) < (L : Int) := by omega
              have pb : p ≤ 16384 := by omega
              rw [htt] at HB HST
              clear hcell hq hr hp hpp htt hw hin lf' hv hlow h5
              have xs : b2 j < 256 := hx256
              go_wp2_with fail
              have t1 : Int.tdiv (p : Int) 4 = (q : Int) := by rw [Int.tdiv_eq_ediv_of_nonneg (by omega)]; exact e2
              have t3 : Int.tmod (p : Int) 4 = (r : Int) := by rw [Int.tmod_eq_emod_of_nonneg (by omega)]; exact e3
              have t0 : 0 ≤ (q : Int) := by omega
              have t9 : 0 ≤ (t : Int) := by omega
              have t6 : IntKind.u32.wrap (b2 j : Int) = (b2 j : Int) := by rw [IntKind.wrap_u32]; omega
              have t7 : IntKind.i64.wrap (8 * (r : Int)) = (t : Int) := by rw [e4]; exact IntWalk.i64_in _ (by omega)
              have t2 : IntKind.i64.wrap (q : Int) = (q : Int) := IntWalk.i64_in _ (by omega)
              have t4 : IntKind.i64.wrap (r : Int) = (r : Int) := IntWalk.i64_in _ (by omega)
              have t5 : IntKind.i64.wrap (t : Int) = (t : Int) := IntWalk.i64_in _ (by omega)
              clear e1 e2 e3
              go_region_with (fail)
              all_goals
                clear t1 t2 t3 t4 t5 t6 t7 e4
                go_wp2
                go_roundw
                case rel => exact ⟨j + 1, by omega, by go_num, Lib.hid (HST.out _ HB.out.2.2)⟩
                case measure => simp [intOf]; omega
            · obtain rfl : j = M := by omega
              obtain ⟨f', cur', hw, hin, lf', hv, _⟩ := hrel.out
              rw [Nat.sub_self, Nat.pow_zero, Nat.mul_one] at hv
              have hbw2 := hbw1.grown hw.grown hbw1.size (fun k hk => by injection hk with hk; exact Nat.le_of_eq hk)
              have hT : Trm f' L := by
                right
                intro hz
                have h1 := be_ge (b := b2) (m := j) h0 (by rw [HB0.out]; exact HT.out)
                have h2 : sm (2 ^ 32) f' L = sm (2 ^ 32) f' (L - 1) := by
                  obtain ⟨t, rfl⟩ : ∃ t, L = t + 1 := ⟨L - 1, by omega⟩
                  rw [Nat.add_sub_cancel] at hz ⊢
                  simp [sm, hz]
                have h3 : sm (2 ^ 32) f' (L - 1) < (2 ^ 32) ^ (L - 1) := sm_lt (lf'.mono (by omega))
                have h4 : (2 ^ 32) ^ (L - 1) ≤ 256 ^ (j - 1) := by
                  rw [show (2 : Nat) ^ 32 = 256 ^ 4 from rfl, ← Nat.pow_mul]
                  exact Nat.pow_le_pow_right (by decide) (by omega)
                omega
              have HN : Hid (Num wr (some ⟨w.heap.size, 0, none⟩) L L f' (be b2 j)) := Lib.hid ⟨Nat.le_refl _, by unfold maxLen; omega, hin.rd hw.blk, lf', hT, hv⟩
              clear hw hin lf' hv hT
              go_wp2
              go_ret2
              rw [HS.out.1, HS.out.2]
              exact ⟨_, _, _, f', rfl, HN.out, hbw2⟩
end Go.Proofs.YtljbnnpmnoejeaaGreatDoor.nn
namespace Go.Proofs.YtljbnnpmnoejeaaGreatDoor.nn
open Go.RowKit

theorem lead_ex7 (b : Nat → Nat) (m : Nat) : ∃ k, Lead b m k := by
  induction m with
  | zero => exact ⟨0, Nat.le_refl _, fun i hi => absurd hi (by omega), .inl rfl⟩
  | succ m ih =>
    obtain ⟨k, h1, h2, h3⟩ := ih
    by_cases hk : k = m
    · subst hk
      by_cases hb : b k = 0
      · exact ⟨k + 1, Nat.le_refl _, fun i hi => by
          by_cases e : i = k
          · subst e; exact hb
          · exact h2 i (by omega), .inl rfl⟩
      · exact ⟨k, by omega, h2, .inr hb⟩
    · exact ⟨k, by omega, h2, .inr (by rcases h3 with h | h; exact absurd h hk; exact h)⟩
theorem num_short {w : World} {A : Option Addr} {n c : Nat} {f : Nat → Nat} {X : Nat} (hN : Num w A n c f X) (hb : X < big) : n ≤ 4096 := by
  rcases Nat.lt_or_ge 4096 n with h | h
  · have h1 := trm_long hN.trm h
    rw [hN.val] at h1
    omega
  · exact h
theorem rdigits_num (A : Option Addr) (n c : Nat) (f : Nat → Nat) (X : Nat) (w : World) (hN : Num w A n c f X) (hb : X < big) :
    Calls Tryz.prog 51 #[.slice A n c] w fun e w' => e = .returned (.tuple #[.string (nT X), .int .i64 0]) ∧ Below w.heap.size w w' := by
  have hn := num_short hN hb
  have hle := tr_le f n
  have h := rdigits_all A n c f w hN.rd hN.lt hN.le hN.cap (by omega)
  have e1 : (⟨(dgT n f).toArray⟩ : ByteArray) = nT X := by
    unfold dgT nT
    rw [if_neg (by omega), hN.val]
  have e2 : dgE n f = 0 := by unfold dgE; rw [if_neg (by omega)]
  rw [e1, e2] at h
  exact h
theorem add_one_any (A : Option Addr) (n c : Nat) (f : Nat → Nat) (X g : Nat) (e : TypeId) (w : World) (hN : Num w A n c f X) (hb : X + 1 < big) (hg : Rd w .u32 (some ⟨g, 0, none⟩) 1 (fun _ => 1)) :
    Calls Tryz.prog 52 #[.slice (some ⟨w.heap.size, 0, none⟩) 2 2] (w.alloc (.cells #[.slice A n c, .slice (some ⟨g, 0, none⟩) 1 1] e)) fun e w' => ∃ A' n' c' f', e = .returned (.tuple #[.slice A' n' c', .int .i64 0]) ∧ Num w' A' n' c' f' (X + 1) ∧ Below w.heap.size w w' := by
  have hn := num_short hN (by omega)
  have hr := rds_two w A (some ⟨g, 0, none⟩) n c 1 1 f (fun _ => 1) e hN.rd hN.le hN.cap hg (Nat.le_refl _) (by unfold maxLen; omega)
  have hs1 : sm (2 ^ 32) (fun _ => 1) 1 = 1 := by simp [sm]
  have ht : tot (two n 1) (two f (fun _ => 1)) 2 = X + 1 := by
    show 0 + sm (2 ^ 32) f n + sm (2 ^ 32) (fun _ => 1) 1 = _
    rw [hN.val, hs1]
    omega
  have hl : lg (two n 1) (two f (fun _ => 1)) 2 = false := by
    have h1 := tr_le f n
    have h2 := tr_le (fun _ => 1) 1
    show ((false || decide (4096 < tr f n)) || decide (4096 < tr (fun _ => 1) 1)) = false
    rw [decide_eq_false (by omega), decide_eq_false (by omega)]
    rfl
  have h := radd_any (some ⟨w.heap.size, 0, none⟩) 2 2 (two A (some ⟨g, 0, none⟩)) (two n 1) (two c 1) (two f (fun _ => 1)) _ hr (by omega) (fun i hi => by
    rcases i with _ | _ | i
    · show n * 4 ≤ _; omega
    · show 1 * 4 ≤ _; omega
    · omega) (fun i hi => by
    rcases i with _ | _ | i
    · exact hN.lt
    · intro j hj; show 1 < 2 ^ 32; decide
    · omega)
  have hR : radR 2 (two n 1) (two f (fun _ => 1)) = X + 1 := by unfold radR; rw [hl, if_neg (by decide), ht, fitR_lt hb]
  have hE : radE 2 (two n 1) (two f (fun _ => 1)) = 0 := by unfold radE; rw [hl, if_neg (by decide), ht, fitE_lt hb]
  rw [hR, hE] at h
  refine h.mono ?_
  rintro e' w' ⟨A', n', c', f', rfl, h2, h3⟩
  exact ⟨A', n', c', f', rfl, h2, ((Below.refl _ _).alloc (Nat.le_refl _) _).trans (h3.mono (by rw [hsz]; omega))⟩
theorem big_bytes {X m : Nat} (hm : m ≤ 512) (h : X < 256 ^ m) : X + 1 < big := by
  obtain ⟨k, hk⟩ : ∃ k, k = 512 := ⟨_, rfl⟩
  obtain ⟨j, hj⟩ : ∃ j, j = 4096 := ⟨_, rfl⟩
  have h1 : (256 : Nat) ^ m ≤ 256 ^ k := Nat.pow_le_pow_right (by decide) (by omega)
  have h3 : (256 : Nat) ^ k ≤ (2 ^ 32) ^ k := Nat.pow_le_pow_left (by decide) k
  have h4 : (2 ^ 32) ^ k < (2 ^ 32) ^ j := Nat.pow_lt_pow_right (by decide) (by omega)
  have h5 : big = (2 ^ 32) ^ j := by rw [hj]; rfl
  rw [h5]
  omega
theorem nT_big {X : Nat} (h : X < big) : (nT X).size ≤ 131073 := by
  obtain ⟨j, hj⟩ : ∃ j, j = 4096 := ⟨_, rfl⟩
  have h5 : big = (2 ^ 32) ^ j := by rw [hj]; rfl
  rw [h5, ← Nat.pow_mul] at h
  rw [nT_size]
  exact nd_cap (K := 131072) (Nat.le_trans (bl_le h) (by omega))
/-- the amount that a value says -/
def amt (t : VT) : Nat := if t.k = 4 then t.n else be (bt t.s) t.s.size
/-- its text -/
def decT (g : Bool) (X : Nat) : ByteArray := sgT g ++ nT (if g = true then X + 1 else X)
/-- a slice of bytes that hold an amount -/
structure Am (w : World) (A : Option Addr) (m c X : Nat) : Prop where
  ex : ∃ b : Nat → Nat, Rd w .u8 A m b ∧ (∀ i, i < m → b i < 256) ∧ be b m = X
  form : (A = none ∧ m = 0 ∧ c = 0) ∨ ∃ bb off, A = some ⟨bb, off, none⟩
  le : m ≤ c
  cap : c ≤ maxLen
  sm : m ≤ 512
theorem fromBytes_am (A : Option Addr) (m c X : Nat) (w : World) (h : Am w A m c X) :
    Calls Tryz.prog 50 #[.slice A m c] w fun e w' => ∃ A' n' c' f', e = .returned (.tuple #[.slice A' n' c', .int .i64 0]) ∧ Num w' A' n' c' f' X ∧ X + 1 < big ∧ Below w.heap.size w w' := by
  obtain ⟨⟨b, hr, lb, hX⟩, hf, hm, hc, hs⟩ := h
  obtain ⟨k, hk⟩ := lead_ex7 b m
  have h := rfromBytes_any A m c b w hr hf lb hm hc k hk
  have e1 : fbR b m k = X := by unfold fbR; rw [if_neg (by omega), hX]
  have e2 : fbE m k = 0 := by unfold fbE; rw [if_neg (by omega)]
  rw [e1, e2] at h
  refine h.mono ?_
  rintro e w' ⟨A', n', c', f', rfl, h2, h3⟩
  refine ⟨A', n', c', f', rfl, h2, big_bytes hs ?_, h3⟩
  rw [← hX]
  exact be_lt lb
end Go.Proofs.YtljbnnpmnoejeaaGreatDoor.nn
namespace Go.Proofs.YtljbnnpmnoejeaaGreatDoor.nn
open Go.RowKit

set_option maxRecDepth 100000 in
set_option maxHeartbeats 4000000 in
theorem ndigits_five (t : VT) (C : Value) (w : World) (hk : t.k = 5) (hs : t.s.size ≤ 512) :
    Calls Tryz.prog 25 #[vv t C] w fun e w' => e = .returned (.string (decT t.g (amt t))) ∧ Below w.heap.size w w' := by
  have HB0 := Lib.hid (Box.new w t C 25)
  have hX : amt t = be (bt t.s) t.s.size := by unfold amt; rw [if_neg (by omega)]
  rw [hX]
  obtain ⟨G, hG⟩ : ∃ g, t.g = g := ⟨_, rfl⟩
  obtain ⟨S, hS⟩ : ∃ s, t.s = s := ⟨_, rfl⟩
  obtain ⟨N, hN⟩ : ∃ n, t.n = n := ⟨_, rfl⟩
  have HR : Hid (∀ W, Box w t C W → W.cell? ⟨w.heap.size, 0, none⟩ = some (.int .i64 5) ∧ W.cell? ⟨w.heap.size, 1, none⟩ = some (.bool G)) := Lib.hid fun W h => ⟨by rw [← hk]; exact h.r.k, by rw [← hG]; exact h.r.g⟩
  unfold vv
  rw [hk, hG, hN] at HB0 ⊢
  rw [hS] at HB0 hs ⊢
  obtain ⟨X, hXX⟩ : ∃ X, be (bt S) S.size = X := ⟨_, rfl⟩
  have HTX : Hid (decT G X = sgT G ++ nT (if G = true then X + 1 else X)) := Lib.hid rfl
  rw [hXX]
  have kc := Lib.run_convert_string_bytes (P := Tryz.prog) (w.alloc (.cells #[.int .i64 5, .bool G, .int .u64 (N : Int), .string S, C] 25)) 9 41 5 S Tryz.underlying9 Tryz.underlying41 Tryz.underlying5
  have hO := OwnM.bytes (w.alloc (.cells #[.int .i64 5, .bool G, .int .u64 (N : Int), .string S, C] 25)) 5 S (by unfold maxLen; omega)
  have HBx := Lib.hid (HB0.out.on (below_bytes _ 5 S))
  generalize Lib.bytesWorld (w.alloc (.cells #[.int .i64 5, .bool G, .int .u64 (N : Int), .string S, C] 25)) 5 S = W1 at kc hO HBx
  generalize grownCap (w.alloc (.cells #[.int .i64 5, .bool G, .int .u64 (N : Int), .string S, C] 25)) S.size 0 5 = c1 at kc hO
  have hzz : (w.alloc (.cells #[.int .i64 5, .bool G, .int .u64 (N : Int), .string S, C] 25)).heap.size = w.heap.size + 1 := hsz _ _
  rw [hzz] at kc hO
  have HAm : Hid (Am W1 (some ⟨w.heap.size + 1, 0, none⟩) S.size c1 X) := Lib.hid (by
    have hcm : S.size ≤ c1 ∧ c1 ≤ maxLen := by
      rcases hO.2 with ⟨h, _⟩ | ⟨g, cap, cur, fz, h, _, _, _, h1, h2, _⟩
      · injection h with h; cases h
      · injection h with _ _ h3; subst h3; exact ⟨h1, h2⟩
    refine ⟨⟨bt S, fun hp => ⟨w.heap.size + 1, 0, rfl, ?_, fun i hi => ?_⟩, fun i hi => bt_lt S i, hXX⟩, .inr ⟨_, _, rfl⟩, hcm.1, hcm.2, hs⟩
    · exact (hO.lt _ rfl).2
    · have h := hO.cells (g := w.heap.size + 1) rfl i (.int .u8 (bt S i : Int)) (by
        rw [List.getElem?_map, List.getElem?_eq_getElem (show i < S.data.toList.length from hi)]
        rw [bt_at hi]
        rfl)
      rw [Nat.zero_add]
      rwa [show (⟨w.heap.size + 1, 0, none⟩ : Addr).add i = ⟨w.heap.size + 1, i, none⟩ from by unfold Addr.add; split <;> simp_all] at h)
  clear hO hzz hX hk hG hS hN hXX HB0
  go_enter Tryz.func25, Tryz.ntmps25
  go_wp2_with fail
  clear kc
  go_loopw [3, 4] (fun s3 s4 wr => s3 = .slice (some ⟨w.heap.size + 1, 0, none⟩) S.size c1 ∧ s4 = .int .i64 56 ∧ wr = W1) (fun _ _ _ => 0)
  case atStart => exact ⟨rfl, rfl, rfl⟩
  case round =>
    obtain ⟨rfl, rfl, hww⟩ := hrel
    obtain rfl : W1 = wr := hww.symm
    have q0 : W1.cell? ⟨w.heap.size, 0, none⟩ = some (.int .i64 5) := (HR.out _ HBx.out).1

    -- all bytes are there
    have HF := Lib.hid (fromBytes_am _ _ _ _ _ HAm.out)
    clear HAm
    go_wp2_with fail
    refine HF.out.mono ?_
    rintro e w2 ⟨A2, n2, c2, f2, rfl, hn2, hX2, hb2⟩
    have N2 := Lib.hid hn2
    have X2 := Lib.hid (HBx.out.on hb2)
    have q1 : w2.cell? ⟨w.heap.size, 1, none⟩ = some (.bool G) := (HR.out _ X2.out).2
    clear q0
    clear hn2 hb2 HF HBx
    cases G with
    | false =>
      have HD := Lib.hid (rdigits_num A2 n2 c2 f2 _ w2 N2.out (by omega))
      go_wp2_with fail
      refine HD.out.mono ?_
      rintro e w3 ⟨rfl, hb3⟩
      have X3 := Lib.hid (X2.out.on hb3)
      clear hb3 q1 hX2
      go_wp2_with fail
      go_ret
      exact ⟨by rw [HTX.out]; rfl, X3.out.b⟩
    | true =>
      have HA1 := Lib.hid (add_one_any A2 n2 c2 f2 _ w2.heap.size 48 (w2.alloc (.cells #[.int .u32 1] 72)) (Num.al N2.out _) hX2 (rd_one w2 .u32 1 72))
      rw [hsz] at HA1
      have HDD := Lib.hid (fun A n c f W (hN : Num W A n c f (X + 1)) => rdigits_num A n c f _ W hN hX2)
      have hsz2 := nT_big hX2
      have hb9 : ¬ 9223372036854775807 < 1 + (nT (X + 1)).size := by omega
      clear hX2
      go_wp2_with fail
      refine HA1.out.mono ?_
      rintro e w3 ⟨A3, n3, c3, f3, rfl, hn3, hb3⟩
      have X3 := Lib.hid ((X2.out.on ((Below.refl _ _).alloc (Nat.le_refl _) (.cells #[.int .u32 1] 72))).on (by rw [hsz]; exact hb3))
      have HD := Lib.hid (HDD.out A3 n3 c3 f3 w3 hn3)
      clear hn3 hb3 HA1 HDD q1
      go_wp2_with fail
      refine HD.out.mono ?_
      rintro e w4 ⟨rfl, hb4⟩
      have X4 := Lib.hid (X3.out.on hb4)
      clear hb4
      go_wp2_with fail
      go_ret
      exact ⟨by rw [HTX.out]; rfl, X4.out.b⟩
end Go.Proofs.YtljbnnpmnoejeaaGreatDoor.nn
namespace Go.Proofs.YtljbnnpmnoejeaaGreatDoor.nn
open Go.RowKit

theorem vl_succ (k : IntKind) (f : Nat → Nat) (n : Nat) : vl k f (n + 1) = vl k f n ++ [.int k (f n : Int)] := by
  unfold vl
  rw [List.range_succ, List.map_append]
  rfl
theorem OwnM.form {w : World} {base : Nat} {e : TypeId} {v : Value} {n : Nat} {xs : List Value} (h : OwnM w base e v n xs) : ∃ A c, v = .slice A n c := by
  rcases h.2 with ⟨h1, h2⟩ | ⟨g, cap, cur, fz, h1, _⟩
  · subst h2; exact ⟨_, _, h1⟩
  · exact ⟨_, _, h1⟩
/-- the bytes of 64 bits, the highest first -/
def b8 (N i : Nat) : Nat := N / 256 ^ (7 - i) % 256
theorem be_b8 {N : Nat} (h : N < 18446744073709551616) : be (b8 N) 8 = N := by
  have key : ∀ i, i ≤ 8 → be (b8 N) i = N / 256 ^ (8 - i) := by
    intro i
    induction i with
    | zero =>
      intro _
      show 0 = _
      exact (Nat.div_eq_of_lt (Nat.lt_of_lt_of_le h (by decide +kernel))).symm
    | succ i ih =>
      intro hi
      rw [be, ih (by omega)]
      unfold b8
      have := div256 N (7 - i)
      rw [show 7 - i + 1 = 8 - i by omega] at this
      rw [show 8 - (i + 1) = 7 - i by omega]
      exact this.symm
  have := key 8 (Nat.le_refl _)
  rwa [Nat.sub_self, Nat.pow_zero, Nat.div_one] at this
set_option maxRecDepth 100000 in
set_option maxHeartbeats 8000000 in
theorem ndigits_four (t : VT) (C : Value) (w : World) (hk : t.k = 4) (hs : t.s.size = 0) (hn : t.n < 18446744073709551616) :
    Calls Tryz.prog 25 #[vv t C] w fun e w' => e = .returned (.string (decT t.g (amt t))) ∧ Below w.heap.size w w' := by
  obtain ⟨i0, hi, hz0, hz1, hz2⟩ := info_parts info_u8
  have HB0 := Lib.hid (Box.new w t C 25)
  have hX : amt t = t.n := by unfold amt; rw [if_pos hk]
  rw [hX]
  obtain ⟨G, hG⟩ : ∃ g, t.g = g := ⟨_, rfl⟩
  obtain ⟨N, hN⟩ : ∃ n, t.n = n := ⟨_, rfl⟩
  have hS : t.s = ⟨#[]⟩ := nil_of hs
  have HR : Hid (∀ W, Box w t C W → W.cell? ⟨w.heap.size, 0, none⟩ = some (.int .i64 4) ∧ W.cell? ⟨w.heap.size, 1, none⟩ = some (.bool G) ∧ W.cell? ⟨w.heap.size, 2, none⟩ = some (.int .u64 (N : Int))) := Lib.hid fun W h => ⟨by rw [← hk]; exact h.r.k, by rw [← hG]; exact h.r.g, by rw [← hN]; exact h.r.n⟩
  unfold vv
  rw [hN] at hn
  rw [hk, hG, hN] at HB0 ⊢
  rw [hS] at HB0 ⊢
  have HTX : Hid (decT G N = sgT G ++ nT (if G = true then N + 1 else N)) := Lib.hid rfl
  have kc := Lib.run_convert_string_bytes (P := Tryz.prog) (w.alloc (.cells #[.int .i64 4, .bool G, .int .u64 (N : Int), .string ⟨#[]⟩, C] 25)) 9 41 5 ⟨#[]⟩ Tryz.underlying9 Tryz.underlying41 Tryz.underlying5
  have hO := OwnM.bytes (w.alloc (.cells #[.int .i64 4, .bool G, .int .u64 (N : Int), .string ⟨#[]⟩, C] 25)) 5 ⟨#[]⟩ (by decide)
  have HBx := Lib.hid (HB0.out.on (below_bytes _ 5 ⟨#[]⟩))
  generalize Lib.bytesWorld (w.alloc (.cells #[.int .i64 4, .bool G, .int .u64 (N : Int), .string ⟨#[]⟩, C] 25)) 5 ⟨#[]⟩ = W1 at kc hO HBx
  have hzz : (w.alloc (.cells #[.int .i64 4, .bool G, .int .u64 (N : Int), .string ⟨#[]⟩, C] 25)).heap.size = w.heap.size + 1 := hsz _ _
  generalize grownCap (w.alloc (.cells #[.int .i64 4, .bool G, .int .u64 (N : Int), .string ⟨#[]⟩, C] 25)) (ByteArray.size ⟨#[]⟩) 0 5 = c1 at kc hO
  rw [hzz] at kc hO
  have HOM := Lib.hid hO
  have e0s : ByteArray.size ⟨#[]⟩ = 0 := rfl
  rw [e0s] at kc
  clear hO hzz hX hk hG hN hS hs HB0
  go_enter Tryz.func25, Tryz.ntmps25
  go_wp2_with fail
  clear kc
  go_loopw [3, 4] (fun s3 s4 wr => ∃ (i : Nat) (v : Value), i ≤ 8 ∧ s3 = v ∧ s4 = .int .i64 (56 - 8 * (i : Int)) ∧ (∃ A c, v = .slice A i c) ∧ Hid (OwnM wr (w.heap.size + 1) 5 v i (vl .u8 (b8 N) i)) ∧ Hid (Box w t C wr)) (fun _ s4 _ => ((intOf s4) + 8).toNat)
  case atStart => exact ⟨0, _, Nat.zero_le _, rfl, rfl, ⟨_, _, rfl⟩, HOM, HBx⟩
  case round =>
    obtain ⟨i, v, hi8, rfl, rfl, ⟨A, c, rfl⟩, hO, hBx⟩ := hrel
    obtain ⟨q0, q1, q2⟩ := HR.out _ hBx.out
    by_cases hlt : i < 8
    · have h8 : i = 0 ∨ i = 1 ∨ i = 2 ∨ i = 3 ∨ i = 4 ∨ i = 5 ∨ i = 6 ∨ i = 7 := by omega
      have hbs : w.heap.size + 1 ≤ wr.heap.size := hBx.out.z
      rcases h8 with rfl | rfl | rfl | rfl | rfl | rfl | rfl | rfl
      · obtain ⟨d, hd⟩ : ∃ d, b8 N 0 = d := ⟨_, rfl⟩
        have hd256 : d < 256 := by rw [← hd]; exact Nat.mod_lt _ (by decide)
        have u0 : N / 72057594037927936 % 256 = d := by rw [← hd]; rfl
        have u1 : IntKind.u8.wrap ((N : Int) / 72057594037927936) = (d : Int) := by rw [IntKind.wrap_u8]; omega
        have hvl : vl .u8 (b8 N) (0 + 1) = vl .u8 (b8 N) 0 ++ [.int .u8 (d : Int)] := by rw [← hd]; exact vl_succ _ _ _
        have HVL := Lib.hid hvl
        have hkk : (56 : Int) - 8 * ((0 : Nat) : Int) = 56 := by omega
        rw [hkk]
        have HN1 := Lib.hid (((Below.refl wr.heap.size wr).alloc (Nat.le_refl _) (.cells #[.int .u8 (d : Int)] 5)))
        have HO1 := Lib.hid (hO.out.keep HN1.out (Nat.le_refl _))
        have HX1 := Lib.hid (hBx.out.on HN1.out)
        have HNW : Hid (∀ j u, [Value.int .u8 (d : Int)][j]? = some u → (wr.alloc (.cells #[.int .u8 (d : Int)] 5)).cell? ((⟨wr.heap.size, 0, none⟩ : Addr).add j) = some u) := Lib.hid fun j u hu => by
          rcases j with _ | j
          · injection hu with hu
            subst hu
            have := (rd_one wr .u8 d 5) (by decide)
            obtain ⟨bb, off, e, _, hc⟩ := this
            injection e with e
            injection e with e1 e2
            subst e1 e2
            have h := hc 0 (by decide)
            rwa [show (⟨wr.heap.size, 0, none⟩ : Addr).add 0 = ⟨wr.heap.size, 0, none⟩ from by unfold Addr.add; split <;> simp_all]
          · cases hu
        have hz9 : w.heap.size + 1 ≤ (wr.alloc (.cells #[.int .u8 (d : Int)] 5)).heap.size := by rw [hsz]; omega
        clear hd u0 hvl hkk hO hBx
        go_wp2_with (at_builtin; refine wpList_appM rfl (.tmp 23) (.tmp 29) _ rfl (w.heap.size + 1) 5 i0 _ 1 Tryz.underlying41 hi hz0 hz1 hz2 rfl _ 0 _ rfl HO1.out _ 1 1 [Value.int .u8 (d : Int)] rfl rfl HNW.out (by intro u hu; simp at hu; subst hu; rfl) (by simp [maxLen]) (by omega) hz9 ?_; intro v1 w1 hown1 hb1)
        have HO2 := Lib.hid hown1
        have HB2 := Lib.hid hb1
        have HX2 := Lib.hid (HX1.out.low HB2.out)
        obtain ⟨A1, c1, rfl⟩ := hown1.form
        clear hown1 hb1 HO1 HN1 HNW q0 q1 q2
        go_wp2_with fail
        go_roundw
        case rel => exact ⟨0 + 1, _, by omega, rfl, congrArg (Value.int .i64) (by omega), ⟨_, _, rfl⟩, by rw [HVL.out]; exact HO2, HX2⟩
        case measure => simp [intOf]
      · obtain ⟨d, hd⟩ : ∃ d, b8 N 1 = d := ⟨_, rfl⟩
        have hd256 : d < 256 := by rw [← hd]; exact Nat.mod_lt _ (by decide)
        have u0 : N / 281474976710656 % 256 = d := by rw [← hd]; rfl
        have u1 : IntKind.u8.wrap ((N : Int) / 281474976710656) = (d : Int) := by rw [IntKind.wrap_u8]; omega
        have hvl : vl .u8 (b8 N) (1 + 1) = vl .u8 (b8 N) 1 ++ [.int .u8 (d : Int)] := by rw [← hd]; exact vl_succ _ _ _
        have HVL := Lib.hid hvl
        have hkk : (56 : Int) - 8 * ((1 : Nat) : Int) = 48 := by omega
        rw [hkk]
        have HN1 := Lib.hid (((Below.refl wr.heap.size wr).alloc (Nat.le_refl _) (.cells #[.int .u8 (d : Int)] 5)))
        have HO1 := Lib.hid (hO.out.keep HN1.out (Nat.le_refl _))
        have HX1 := Lib.hid (hBx.out.on HN1.out)
        have HNW : Hid (∀ j u, [Value.int .u8 (d : Int)][j]? = some u → (wr.alloc (.cells #[.int .u8 (d : Int)] 5)).cell? ((⟨wr.heap.size, 0, none⟩ : Addr).add j) = some u) := Lib.hid fun j u hu => by
          rcases j with _ | j
          · injection hu with hu
            subst hu
            have := (rd_one wr .u8 d 5) (by decide)
            obtain ⟨bb, off, e, _, hc⟩ := this
            injection e with e
            injection e with e1 e2
            subst e1 e2
            have h := hc 0 (by decide)
            rwa [show (⟨wr.heap.size, 0, none⟩ : Addr).add 0 = ⟨wr.heap.size, 0, none⟩ from by unfold Addr.add; split <;> simp_all]
          · cases hu
        have hz9 : w.heap.size + 1 ≤ (wr.alloc (.cells #[.int .u8 (d : Int)] 5)).heap.size := by rw [hsz]; omega
        clear hd u0 hvl hkk hO hBx
        go_wp2_with (at_builtin; refine wpList_appM rfl (.tmp 23) (.tmp 29) _ rfl (w.heap.size + 1) 5 i0 _ 1 Tryz.underlying41 hi hz0 hz1 hz2 rfl _ 1 _ rfl HO1.out _ 1 1 [Value.int .u8 (d : Int)] rfl rfl HNW.out (by intro u hu; simp at hu; subst hu; rfl) (by simp [maxLen]) (by omega) hz9 ?_; intro v1 w1 hown1 hb1)
        have HO2 := Lib.hid hown1
        have HB2 := Lib.hid hb1
        have HX2 := Lib.hid (HX1.out.low HB2.out)
        obtain ⟨A1, c1, rfl⟩ := hown1.form
        clear hown1 hb1 HO1 HN1 HNW q0 q1 q2
        go_wp2_with fail
        go_roundw
        case rel => exact ⟨1 + 1, _, by omega, rfl, congrArg (Value.int .i64) (by omega), ⟨_, _, rfl⟩, by rw [HVL.out]; exact HO2, HX2⟩
        case measure => simp [intOf]
      · obtain ⟨d, hd⟩ : ∃ d, b8 N 2 = d := ⟨_, rfl⟩
        have hd256 : d < 256 := by rw [← hd]; exact Nat.mod_lt _ (by decide)
        have u0 : N / 1099511627776 % 256 = d := by rw [← hd]; rfl
        have u1 : IntKind.u8.wrap ((N : Int) / 1099511627776) = (d : Int) := by rw [IntKind.wrap_u8]; omega
        have hvl : vl .u8 (b8 N) (2 + 1) = vl .u8 (b8 N) 2 ++ [.int .u8 (d : Int)] := by rw [← hd]; exact vl_succ _ _ _
        have HVL := Lib.hid hvl
        have hkk : (56 : Int) - 8 * ((2 : Nat) : Int) = 40 := by omega
        rw [hkk]
        have HN1 := Lib.hid (((Below.refl wr.heap.size wr).alloc (Nat.le_refl _) (.cells #[.int .u8 (d : Int)] 5)))
        have HO1 := Lib.hid (hO.out.keep HN1.out (Nat.le_refl _))
        have HX1 := Lib.hid (hBx.out.on HN1.out)
        have HNW : Hid (∀ j u, [Value.int .u8 (d : Int)][j]? = some u → (wr.alloc (.cells #[.int .u8 (d : Int)] 5)).cell? ((⟨wr.heap.size, 0, none⟩ : Addr).add j) = some u) := Lib.hid fun j u hu => by
          rcases j with _ | j
          · injection hu with hu
            subst hu
            have := (rd_one wr .u8 d 5) (by decide)
            obtain ⟨bb, off, e, _, hc⟩ := this
            injection e with e
            injection e with e1 e2
            subst e1 e2
            have h := hc 0 (by decide)
            rwa [show (⟨wr.heap.size, 0, none⟩ : Addr).add 0 = ⟨wr.heap.size, 0, none⟩ from by unfold Addr.add; split <;> simp_all]
          · cases hu
        have hz9 : w.heap.size + 1 ≤ (wr.alloc (.cells #[.int .u8 (d : Int)] 5)).heap.size := by rw [hsz]; omega
        clear hd u0 hvl hkk hO hBx
        go_wp2_with (at_builtin; refine wpList_appM rfl (.tmp 23) (.tmp 29) _ rfl (w.heap.size + 1) 5 i0 _ 1 Tryz.underlying41 hi hz0 hz1 hz2 rfl _ 2 _ rfl HO1.out _ 1 1 [Value.int .u8 (d : Int)] rfl rfl HNW.out (by intro u hu; simp at hu; subst hu; rfl) (by simp [maxLen]) (by omega) hz9 ?_; intro v1 w1 hown1 hb1)
        have HO2 := Lib.hid hown1
        have HB2 := Lib.hid hb1
        have HX2 := Lib.hid (HX1.out.low HB2.out)
        obtain ⟨A1, c1, rfl⟩ := hown1.form
        clear hown1 hb1 HO1 HN1 HNW q0 q1 q2
        go_wp2_with fail
        go_roundw
        case rel => exact ⟨2 + 1, _, by omega, rfl, congrArg (Value.int .i64) (by omega), ⟨_, _, rfl⟩, by rw [HVL.out]; exact HO2, HX2⟩
        case measure => simp [intOf]
      · obtain ⟨d, hd⟩ : ∃ d, b8 N 3 = d := ⟨_, rfl⟩
        have hd256 : d < 256 := by rw [← hd]; exact Nat.mod_lt _ (by decide)
        have u0 : N / 4294967296 % 256 = d := by rw [← hd]; rfl
        have u1 : IntKind.u8.wrap ((N : Int) / 4294967296) = (d : Int) := by rw [IntKind.wrap_u8]; omega
        have hvl : vl .u8 (b8 N) (3 + 1) = vl .u8 (b8 N) 3 ++ [.int .u8 (d : Int)] := by rw [← hd]; exact vl_succ _ _ _
        have HVL := Lib.hid hvl
        have hkk : (56 : Int) - 8 * ((3 : Nat) : Int) = 32 := by omega
        rw [hkk]
        have HN1 := Lib.hid (((Below.refl wr.heap.size wr).alloc (Nat.le_refl _) (.cells #[.int .u8 (d : Int)] 5)))
        have HO1 := Lib.hid (hO.out.keep HN1.out (Nat.le_refl _))
        have HX1 := Lib.hid (hBx.out.on HN1.out)
        have HNW : Hid (∀ j u, [Value.int .u8 (d : Int)][j]? = some u → (wr.alloc (.cells #[.int .u8 (d : Int)] 5)).cell? ((⟨wr.heap.size, 0, none⟩ : Addr).add j) = some u) := Lib.hid fun j u hu => by
          rcases j with _ | j
          · injection hu with hu
            subst hu
            have := (rd_one wr .u8 d 5) (by decide)
            obtain ⟨bb, off, e, _, hc⟩ := this
            injection e with e
            injection e with e1 e2
            subst e1 e2
            have h := hc 0 (by decide)
            rwa [show (⟨wr.heap.size, 0, none⟩ : Addr).add 0 = ⟨wr.heap.size, 0, none⟩ from by unfold Addr.add; split <;> simp_all]
          · cases hu
        have hz9 : w.heap.size + 1 ≤ (wr.alloc (.cells #[.int .u8 (d : Int)] 5)).heap.size := by rw [hsz]; omega
        clear hd u0 hvl hkk hO hBx
        go_wp2_with (at_builtin; refine wpList_appM rfl (.tmp 23) (.tmp 29) _ rfl (w.heap.size + 1) 5 i0 _ 1 Tryz.underlying41 hi hz0 hz1 hz2 rfl _ 3 _ rfl HO1.out _ 1 1 [Value.int .u8 (d : Int)] rfl rfl HNW.out (by intro u hu; simp at hu; subst hu; rfl) (by simp [maxLen]) (by omega) hz9 ?_; intro v1 w1 hown1 hb1)
        have HO2 := Lib.hid hown1
        have HB2 := Lib.hid hb1
        have HX2 := Lib.hid (HX1.out.low HB2.out)
        obtain ⟨A1, c1, rfl⟩ := hown1.form
        clear hown1 hb1 HO1 HN1 HNW q0 q1 q2
        go_wp2_with fail
        go_roundw
        case rel => exact ⟨3 + 1, _, by omega, rfl, congrArg (Value.int .i64) (by omega), ⟨_, _, rfl⟩, by rw [HVL.out]; exact HO2, HX2⟩
        case measure => simp [intOf]
      · obtain ⟨d, hd⟩ : ∃ d, b8 N 4 = d := ⟨_, rfl⟩
        have hd256 : d < 256 := by rw [← hd]; exact Nat.mod_lt _ (by decide)
        have u0 : N / 16777216 % 256 = d := by rw [← hd]; rfl
        have u1 : IntKind.u8.wrap ((N : Int) / 16777216) = (d : Int) := by rw [IntKind.wrap_u8]; omega
        have hvl : vl .u8 (b8 N) (4 + 1) = vl .u8 (b8 N) 4 ++ [.int .u8 (d : Int)] := by rw [← hd]; exact vl_succ _ _ _
        have HVL := Lib.hid hvl
        have hkk : (56 : Int) - 8 * ((4 : Nat) : Int) = 24 := by omega
        rw [hkk]
        have HN1 := Lib.hid (((Below.refl wr.heap.size wr).alloc (Nat.le_refl _) (.cells #[.int .u8 (d : Int)] 5)))
        have HO1 := Lib.hid (hO.out.keep HN1.out (Nat.le_refl _))
        have HX1 := Lib.hid (hBx.out.on HN1.out)
        have HNW : Hid (∀ j u, [Value.int .u8 (d : Int)][j]? = some u → (wr.alloc (.cells #[.int .u8 (d : Int)] 5)).cell? ((⟨wr.heap.size, 0, none⟩ : Addr).add j) = some u) := Lib.hid fun j u hu => by
          rcases j with _ | j
          · injection hu with hu
            subst hu
            have := (rd_one wr .u8 d 5) (by decide)
            obtain ⟨bb, off, e, _, hc⟩ := this
            injection e with e
            injection e with e1 e2
            subst e1 e2
            have h := hc 0 (by decide)
            rwa [show (⟨wr.heap.size, 0, none⟩ : Addr).add 0 = ⟨wr.heap.size, 0, none⟩ from by unfold Addr.add; split <;> simp_all]
          · cases hu
        have hz9 : w.heap.size + 1 ≤ (wr.alloc (.cells #[.int .u8 (d : Int)] 5)).heap.size := by rw [hsz]; omega
        clear hd u0 hvl hkk hO hBx
        go_wp2_with (at_builtin; refine wpList_appM rfl (.tmp 23) (.tmp 29) _ rfl (w.heap.size + 1) 5 i0 _ 1 Tryz.underlying41 hi hz0 hz1 hz2 rfl _ 4 _ rfl HO1.out _ 1 1 [Value.int .u8 (d : Int)] rfl rfl HNW.out (by intro u hu; simp at hu; subst hu; rfl) (by simp [maxLen]) (by omega) hz9 ?_; intro v1 w1 hown1 hb1)
        have HO2 := Lib.hid hown1
        have HB2 := Lib.hid hb1
        have HX2 := Lib.hid (HX1.out.low HB2.out)
        obtain ⟨A1, c1, rfl⟩ := hown1.form
        clear hown1 hb1 HO1 HN1 HNW q0 q1 q2
        go_wp2_with fail
        go_roundw
        case rel => exact ⟨4 + 1, _, by omega, rfl, congrArg (Value.int .i64) (by omega), ⟨_, _, rfl⟩, by rw [HVL.out]; exact HO2, HX2⟩
        case measure => simp [intOf]
      · obtain ⟨d, hd⟩ : ∃ d, b8 N 5 = d := ⟨_, rfl⟩
        have hd256 : d < 256 := by rw [← hd]; exact Nat.mod_lt _ (by decide)
        have u0 : N / 65536 % 256 = d := by rw [← hd]; rfl
        have u1 : IntKind.u8.wrap ((N : Int) / 65536) = (d : Int) := by rw [IntKind.wrap_u8]; omega
        have hvl : vl .u8 (b8 N) (5 + 1) = vl .u8 (b8 N) 5 ++ [.int .u8 (d : Int)] := by rw [← hd]; exact vl_succ _ _ _
        have HVL := Lib.hid hvl
        have hkk : (56 : Int) - 8 * ((5 : Nat) : Int) = 16 := by omega
        rw [hkk]
        have HN1 := Lib.hid (((Below.refl wr.heap.size wr).alloc (Nat.le_refl _) (.cells #[.int .u8 (d : Int)] 5)))
        have HO1 := Lib.hid (hO.out.keep HN1.out (Nat.le_refl _))
        have HX1 := Lib.hid (hBx.out.on HN1.out)
        have HNW : Hid (∀ j u, [Value.int .u8 (d : Int)][j]? = some u → (wr.alloc (.cells #[.int .u8 (d : Int)] 5)).cell? ((⟨wr.heap.size, 0, none⟩ : Addr).add j) = some u) := Lib.hid fun j u hu => by
          rcases j with _ | j
          · injection hu with hu
            subst hu
            have := (rd_one wr .u8 d 5) (by decide)
            obtain ⟨bb, off, e, _, hc⟩ := this
            injection e with e
            injection e with e1 e2
            subst e1 e2
            have h := hc 0 (by decide)
            rwa [show (⟨wr.heap.size, 0, none⟩ : Addr).add 0 = ⟨wr.heap.size, 0, none⟩ from by unfold Addr.add; split <;> simp_all]
          · cases hu
        have hz9 : w.heap.size + 1 ≤ (wr.alloc (.cells #[.int .u8 (d : Int)] 5)).heap.size := by rw [hsz]; omega
        clear hd u0 hvl hkk hO hBx
        go_wp2_with (at_builtin; refine wpList_appM rfl (.tmp 23) (.tmp 29) _ rfl (w.heap.size + 1) 5 i0 _ 1 Tryz.underlying41 hi hz0 hz1 hz2 rfl _ 5 _ rfl HO1.out _ 1 1 [Value.int .u8 (d : Int)] rfl rfl HNW.out (by intro u hu; simp at hu; subst hu; rfl) (by simp [maxLen]) (by omega) hz9 ?_; intro v1 w1 hown1 hb1)
        have HO2 := Lib.hid hown1
        have HB2 := Lib.hid hb1
        have HX2 := Lib.hid (HX1.out.low HB2.out)
        obtain ⟨A1, c1, rfl⟩ := hown1.form
        clear hown1 hb1 HO1 HN1 HNW q0 q1 q2
        go_wp2_with fail
        go_roundw
        case rel => exact ⟨5 + 1, _, by omega, rfl, congrArg (Value.int .i64) (by omega), ⟨_, _, rfl⟩, by rw [HVL.out]; exact HO2, HX2⟩
        case measure => simp [intOf]
      · obtain ⟨d, hd⟩ : ∃ d, b8 N 6 = d := ⟨_, rfl⟩
        have hd256 : d < 256 := by rw [← hd]; exact Nat.mod_lt _ (by decide)
        have u0 : N / 256 % 256 = d := by rw [← hd]; rfl
        have u1 : IntKind.u8.wrap ((N : Int) / 256) = (d : Int) := by rw [IntKind.wrap_u8]; omega
        have hvl : vl .u8 (b8 N) (6 + 1) = vl .u8 (b8 N) 6 ++ [.int .u8 (d : Int)] := by rw [← hd]; exact vl_succ _ _ _
        have HVL := Lib.hid hvl
        have hkk : (56 : Int) - 8 * ((6 : Nat) : Int) = 8 := by omega
        rw [hkk]
        have HN1 := Lib.hid (((Below.refl wr.heap.size wr).alloc (Nat.le_refl _) (.cells #[.int .u8 (d : Int)] 5)))
        have HO1 := Lib.hid (hO.out.keep HN1.out (Nat.le_refl _))
        have HX1 := Lib.hid (hBx.out.on HN1.out)
        have HNW : Hid (∀ j u, [Value.int .u8 (d : Int)][j]? = some u → (wr.alloc (.cells #[.int .u8 (d : Int)] 5)).cell? ((⟨wr.heap.size, 0, none⟩ : Addr).add j) = some u) := Lib.hid fun j u hu => by
          rcases j with _ | j
          · injection hu with hu
            subst hu
            have := (rd_one wr .u8 d 5) (by decide)
            obtain ⟨bb, off, e, _, hc⟩ := this
            injection e with e
            injection e with e1 e2
            subst e1 e2
            have h := hc 0 (by decide)
            rwa [show (⟨wr.heap.size, 0, none⟩ : Addr).add 0 = ⟨wr.heap.size, 0, none⟩ from by unfold Addr.add; split <;> simp_all]
          · cases hu
        have hz9 : w.heap.size + 1 ≤ (wr.alloc (.cells #[.int .u8 (d : Int)] 5)).heap.size := by rw [hsz]; omega
        clear hd u0 hvl hkk hO hBx
        go_wp2_with (at_builtin; refine wpList_appM rfl (.tmp 23) (.tmp 29) _ rfl (w.heap.size + 1) 5 i0 _ 1 Tryz.underlying41 hi hz0 hz1 hz2 rfl _ 6 _ rfl HO1.out _ 1 1 [Value.int .u8 (d : Int)] rfl rfl HNW.out (by intro u hu; simp at hu; subst hu; rfl) (by simp [maxLen]) (by omega) hz9 ?_; intro v1 w1 hown1 hb1)
        have HO2 := Lib.hid hown1
        have HB2 := Lib.hid hb1
        have HX2 := Lib.hid (HX1.out.low HB2.out)
        obtain ⟨A1, c1, rfl⟩ := hown1.form
        clear hown1 hb1 HO1 HN1 HNW q0 q1 q2
        go_wp2_with fail
        go_roundw
        case rel => exact ⟨6 + 1, _, by omega, rfl, congrArg (Value.int .i64) (by omega), ⟨_, _, rfl⟩, by rw [HVL.out]; exact HO2, HX2⟩
        case measure => simp [intOf]
      · obtain ⟨d, hd⟩ : ∃ d, b8 N 7 = d := ⟨_, rfl⟩
        have hd256 : d < 256 := by rw [← hd]; exact Nat.mod_lt _ (by decide)
        have u0 : N / 1 % 256 = d := by rw [← hd]; rfl
        have u1 : IntKind.u8.wrap (N : Int) = (d : Int) := by rw [IntKind.wrap_u8]; omega
        have hvl : vl .u8 (b8 N) (7 + 1) = vl .u8 (b8 N) 7 ++ [.int .u8 (d : Int)] := by rw [← hd]; exact vl_succ _ _ _
        have HVL := Lib.hid hvl
        have hkk : (56 : Int) - 8 * ((7 : Nat) : Int) = 0 := by omega
        rw [hkk]
        have HN1 := Lib.hid (((Below.refl wr.heap.size wr).alloc (Nat.le_refl _) (.cells #[.int .u8 (d : Int)] 5)))
        have HO1 := Lib.hid (hO.out.keep HN1.out (Nat.le_refl _))
        have HX1 := Lib.hid (hBx.out.on HN1.out)
        have HNW : Hid (∀ j u, [Value.int .u8 (d : Int)][j]? = some u → (wr.alloc (.cells #[.int .u8 (d : Int)] 5)).cell? ((⟨wr.heap.size, 0, none⟩ : Addr).add j) = some u) := Lib.hid fun j u hu => by
          rcases j with _ | j
          · injection hu with hu
            subst hu
            have := (rd_one wr .u8 d 5) (by decide)
            obtain ⟨bb, off, e, _, hc⟩ := this
            injection e with e
            injection e with e1 e2
            subst e1 e2
            have h := hc 0 (by decide)
            rwa [show (⟨wr.heap.size, 0, none⟩ : Addr).add 0 = ⟨wr.heap.size, 0, none⟩ from by unfold Addr.add; split <;> simp_all]
          · cases hu
        have hz9 : w.heap.size + 1 ≤ (wr.alloc (.cells #[.int .u8 (d : Int)] 5)).heap.size := by rw [hsz]; omega
        clear hd u0 hvl hkk hO hBx
        go_wp2_with (at_builtin; refine wpList_appM rfl (.tmp 23) (.tmp 29) _ rfl (w.heap.size + 1) 5 i0 _ 1 Tryz.underlying41 hi hz0 hz1 hz2 rfl _ 7 _ rfl HO1.out _ 1 1 [Value.int .u8 (d : Int)] rfl rfl HNW.out (by intro u hu; simp at hu; subst hu; rfl) (by simp [maxLen]) (by omega) hz9 ?_; intro v1 w1 hown1 hb1)
        have HO2 := Lib.hid hown1
        have HB2 := Lib.hid hb1
        have HX2 := Lib.hid (HX1.out.low HB2.out)
        obtain ⟨A1, c1, rfl⟩ := hown1.form
        clear hown1 hb1 HO1 HN1 HNW q0 q1 q2
        go_wp2_with fail
        go_roundw
        case rel => exact ⟨7 + 1, _, by omega, rfl, congrArg (Value.int .i64) (by omega), ⟨_, _, rfl⟩, by rw [HVL.out]; exact HO2, HX2⟩
        case measure => simp [intOf]
    · obtain rfl : i = 8 := by omega
      have HBx := hBx
      have HAm : Hid (Am wr A 8 c N) := Lib.hid (by
        have hcm : 8 ≤ c ∧ c ≤ maxLen ∧ ∃ bb off, A = some ⟨bb, off, none⟩ := by
          rcases hO.out.2 with ⟨h, h0⟩ | ⟨g, cap, cur, fz, h, _, _, _, h1, h2, _⟩
          · omega
          · injection h with h0 _ h3
            subst h3
            exact ⟨h1, h2, g, 0, h0⟩
        obtain ⟨h1, h2, bb, off, rfl⟩ := hcm
        have hoff : off = 0 := by
          rcases hO.out.2 with ⟨h, h0⟩ | ⟨g, cap, cur, fz, h, _⟩
          · omega
          · injection h with h0
            injection h0 with h0
            injection h0
        subst hoff
        refine ⟨⟨b8 N, fun _ => ⟨bb, 0, rfl, (hO.out.lt bb rfl).2, fun j hj => ?_⟩, fun j _ => Nat.mod_lt _ (by decide), be_b8 hn⟩, .inr ⟨_, _, rfl⟩, h1, h2, by omega⟩
        have h := hO.out.cells (g := bb) rfl j _ (vl_at .u8 (b8 N) hj)
        rw [Nat.zero_add]
        rwa [show (⟨bb, 0, none⟩ : Addr).add j = ⟨bb, j, none⟩ from by unfold Addr.add; split <;> simp_all] at h)
      have hq : (56 : Int) - 8 * ((8 : Nat) : Int) = -8 := by omega
      rw [hq]
      clear hO hq
      -- all bytes are there
      have HF := Lib.hid (fromBytes_am _ _ _ _ _ HAm.out)
      clear HAm
      go_wp2_with fail
      refine HF.out.mono ?_
      rintro e w2 ⟨A2, n2, c2, f2, rfl, hn2, hX2, hb2⟩
      have N2 := Lib.hid hn2
      have X2 := Lib.hid (HBx.out.on hb2)
      have q1 : w2.cell? ⟨w.heap.size, 1, none⟩ = some (.bool G) := (HR.out _ X2.out).2.1
      clear hn2 hb2 HF HBx
      cases G with
      | false =>
        have HD := Lib.hid (rdigits_num A2 n2 c2 f2 _ w2 N2.out (by omega))
        go_wp2_with fail
        refine HD.out.mono ?_
        rintro e w3 ⟨rfl, hb3⟩
        have X3 := Lib.hid (X2.out.on hb3)
        clear hb3 q1 hX2
        go_wp2_with fail
        go_ret
        exact ⟨by rw [HTX.out]; rfl, X3.out.b⟩
      | true =>
        have HA1 := Lib.hid (add_one_any A2 n2 c2 f2 _ w2.heap.size 48 (w2.alloc (.cells #[.int .u32 1] 72)) (Num.al N2.out _) hX2 (rd_one w2 .u32 1 72))
        rw [hsz] at HA1
        have HDD := Lib.hid (fun A n c f W (hN : Num W A n c f (N + 1)) => rdigits_num A n c f _ W hN hX2)
        have hsz2 := nT_big hX2
        have hb9 : ¬ 9223372036854775807 < 1 + (nT (N + 1)).size := by omega
        clear hX2
        go_wp2_with fail
        refine HA1.out.mono ?_
        rintro e w3 ⟨A3, n3, c3, f3, rfl, hn3, hb3⟩
        have X3 := Lib.hid ((X2.out.on ((Below.refl _ _).alloc (Nat.le_refl _) (.cells #[.int .u32 1] 72))).on (by rw [hsz]; exact hb3))
        have HD := Lib.hid (HDD.out A3 n3 c3 f3 w3 hn3)
        clear hn3 hb3 HA1 HDD q1
        go_wp2_with fail
        refine HD.out.mono ?_
        rintro e w4 ⟨rfl, hb4⟩
        have X4 := Lib.hid (X3.out.on hb4)
        clear hb4
        go_wp2_with fail
        go_ret
        exact ⟨by rw [HTX.out]; rfl, X4.out.b⟩
end Go.Proofs.YtljbnnpmnoejeaaGreatDoor.nn
