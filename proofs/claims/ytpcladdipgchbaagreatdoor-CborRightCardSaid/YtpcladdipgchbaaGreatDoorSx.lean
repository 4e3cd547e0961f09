/- Joined texts, what is wanted of them: DrA, DrB, DrC, DrD, DrE, DrF, DrG. -/
import Derived.Deep.QuietTactic
import Derived.BigQuiet
import Derived.Laws.Slices
import Derived.Deep.RegionWith
import Derived.Lib.MinMax
import Derived.Deep.LoopGhost
import Derived.Test.YtpcladdipgchbaaGreatDoorProg
import Derived.WalkKit
import Derived.Lib.Hide
import Derived.WalkSpells
import Derived.Deep.RegionHeld3
import Derived.Laws.BitsAllLaws
import Derived.Test.YtpcladdipgchbaaGreatDoorShelf
import Derived.IntWalk
import Derived.Deep.CutBlock
import Derived.StillTailTactics
import Derived.Test.YtpcladdipgchbaaGreatDoorSi
import Derived.Test.YtpcladdipgchbaaGreatDoorSd
import Derived.Test.YtpcladdipgchbaaGreatDoorSv
import Derived.Test.YtpcladdipgchbaaGreatDoorSe
import Derived.Test.YtpcladdipgchbaaGreatDoorSa
import Derived.Test.YtpcladdipgchbaaGreatDoorSh
import Derived.Test.YtpcladdipgchbaaGreatDoorSc
import Derived.Test.YtpcladdipgchbaaGreatDoorSj
import Derived.Test.YtpcladdipgchbaaGreatDoorSg
import Derived.Test.YtpcladdipgchbaaGreatDoorSo
import Derived.Test.YtpcladdipgchbaaGreatDoorSb
import Derived.Test.YtpcladdipgchbaaGreatDoorSf
import Derived.Test.YtpcladdipgchbaaGreatDoorSw
import Derived.Test.YtpcladdipgchbaaGreatDoorSt
import Derived.Test.YtpcladdipgchbaaGreatDoorSs
import Derived.Test.YtpcladdipgchbaaGreatDoorSp
import Derived.Test.YtpcladdipgchbaaGreatDoorSr
import Derived.Test.YtpcladdipgchbaaGreatDoorSq
import Derived.Test.YtpcladdipgchbaaGreatDoorSu
namespace Go.Proofs.YtpcladdipgchbaaGreatDoor.nn
open Go.RowKit

/-- where a slice of bytes begins that is cut at its front -/
def slA (A : Option Addr) (i c : Nat) : Option Addr := if c = i then A else A.map (·.add (i * 1))
theorem sl_lo (A : Option Addr) (n c i : Nat) (W : World) (h : i ≤ n) : (Instr.slice 28 (.slice A n c) (some (.int .i64 (i : Int))) none none).run Tryz.prog W = .ok (.slice (slA A i c) (n - i) (c - i)) W := by
  have hs : ∀ W, (sizeOf (Tryz.prog.elem 28)).run Tryz.prog W = .ok 1 W := fun W => by kernel_rfl
  rw [run_slice_l (w := W) (ht := by kernel_rfl) (h0 := by omega) (h1 := by omega), hs]
  show Result.ok (sliced A (i : Int).toNat n c 1) W = _
  rw [Int.toNat_natCast]
  rfl
theorem sl_lh (A : Option Addr) (n c i h : Nat) (W : World) (hi : i ≤ h) (hc : h ≤ c) : (Instr.slice 28 (.slice A n c) (some (.int .i64 (i : Int))) (some (.int .i64 (h : Int))) none).run Tryz.prog W = .ok (.slice (slA A i c) (h - i) (c - i)) W := by
  have hs : ∀ W, (sizeOf (Tryz.prog.elem 28)).run Tryz.prog W = .ok 1 W := fun W => by kernel_rfl
  rw [run_slice_lh (w := W) (ht := by kernel_rfl) (h0 := by omega) (h1 := by omega) (h2 := by omega), hs]
  show Result.ok (sliced A (i : Int).toNat (h : Int).toNat c 1) W = _
  rw [Int.toNat_natCast, Int.toNat_natCast]
  rfl
theorem rd_sl {w : World} {k : IntKind} {A : Option Addr} {n c i h : Nat} {f : Nat → Nat} (hr : Rd w k A n f) (_ : i ≤ h) (hn : h ≤ n) (hc : n ≤ c) : Rd w k (slA A i c) (h - i) (sh f i) := fun h0 => by
  obtain ⟨b, off, e, hb, hcell⟩ := hr (by omega)
  refine ⟨b, off + i, ?_, hb, fun j hj => ?_⟩
  · unfold slA
    rw [if_neg (by omega), e]
    simp [Addr.add]
  · have := hcell (i + j) (by omega)
    rw [Nat.add_assoc]
    exact this
/-- what a refusal tells of what is too short, where there is more behind -/
def adj (mo : Bool) (e : Nat) : Nat := if e = 3 ∧ mo = true then 8 else e
/-- how a reader's block lies: the bytes that may be looked at, the place, the size, is there more, the build -/
structure Rdb (W : World) (q : Nat) (A : Option Addr) (n c : Nat) (f : Nat → Nat) (size : Nat) (mo : Bool) (G : Value) (i : Nat) : Prop where
  b : Bk W q 70 #[.slice A n c, .int .i64 (i : Int), .int .i64 (size : Int), .bool mo, G]
  a : Rd W .u8 A n f
  x : ∀ b off, 0 < n → A = some ⟨b, off, none⟩ → b ≠ q
  nc : n ≤ c ∧ c ≤ maxLen
  sz : n ≤ size ∧ size ≤ 1048576
  i : i ≤ n
  hf : ∀ j, f j < 256
theorem dnB {B : Nat} {w w' : World} (h : Below B w w') (j : Nat) : Below B w (w'.drewN j) := ⟨h.os, h.tape, h.output, h.size, h.block⟩
/-- a step that turns the reader's block alone -/
theorem mvB {E O : Nat → Prop} {w W : World} (h : Below w.heap.size w W) : Mv E O w O W := ⟨h.os, h.tape, h.output, h.size, fun _ h => h, fun _ h => .inl h, fun b hb _ _ => h.block b hb⟩
def Stp (q : Nat) (W W' : World) : Prop := Mv (fun b => b = q) No W No W'
section
variable {W W' : World} {q : Nat} {A : Option Addr} {n c : Nat} {f : Nat → Nat} {size : Nat} {mo : Bool} {G : Value} {i i' : Nat}
theorem Stp.refl (q : Nat) (W : World) : Stp q W W := Mv.refl _ _ _
theorem Stp.of_below (h : Below W.heap.size W W') : Stp q W W' := mvB h
theorem Stp.trans {W2 : World} (h : Stp q W W') (k : Stp q W' W2) : Stp q W W2 := Mv.trans h k
theorem Stp.set (q j : Nat) (W : World) (v : Value) : Stp q W (W.setCell ⟨q, j, none⟩ v) :=
  ⟨rfl, rfl, rfl, by rw [setCell_sz]; exact Nat.le_refl _, fun _ h => h, fun _ h => .inl h, fun b _ _ hb => Below.heap_setCell _ _ _ _ (fun e => hb e)⟩
theorem Stp.block (h : Stp q W W') {b : Nat} (hb : b < W.heap.size) (hq : b ≠ q) : W'.heap[b]? = W.heap[b]? := h.kept b hb (fun h => h) hq
theorem Rd.stp {k : IntKind} {m : Nat} (h : Rd W k A m f) (hs : Stp q W W') (hx : ∀ b off, 0 < m → A = some ⟨b, off, none⟩ → b ≠ q) : Rd W' k A m f := fun h0 => by
  obtain ⟨b, off, e, hb, hc⟩ := h h0
  have hk := hs.block hb (hx b off h0 e)
  refine ⟨b, off, e, Nat.lt_of_lt_of_le hb hs.size, fun j hj => ?_⟩
  rw [← hc j hj]
  simp only [World.cell?, hk]
theorem Rdb.stp (h : Rdb W q A n c f size mo G i) (hs : Stp q W W') (hb : Bk W' q 70 #[.slice A n c, .int .i64 (i' : Int), .int .i64 (size : Int), .bool mo, G]) (hi : i' ≤ n) : Rdb W' q A n c f size mo G i' :=
  ⟨hb, h.a.stp hs h.x, h.x, h.nc, h.sz, hi, h.hf⟩
theorem Rdb.below (h : Rdb W q A n c f size mo G i) (hB : Below W.heap.size W W') : Rdb W' q A n c f size mo G i := h.stp (.of_below hB) (h.b.below hB h.b.lt) h.i
theorem Rdb.set (h : Rdb W q A n c f size mo G i) (hi : i' ≤ n) : Rdb (W.setCell ⟨q, 1, none⟩ (.int .i64 (i' : Int))) q A n c f size mo G i' := h.stp (.set q 1 W _) (h.b.set_ 1 _) hi
theorem Rdb.drew (h : Rdb W q A n c f size mo G i) : Rdb W.drew q A n c f size mo G i := h.below (Below.drew (Below.refl _ _))
/-- byte j of the bytes -/
theorem Rdb.byte (h : Rdb W q A n c f size mo G i) {j : Nat} (hj : j < n) : ∃ b off, A = some ⟨b, off, none⟩ ∧ W.cell? ⟨b, off + j, none⟩ = some (.int .u8 (f j : Int)) ∧ b ≠ q := by
  obtain ⟨b, off, e, _, hc⟩ := h.a (by omega)
  exact ⟨b, off, e, hc j hj, h.x b off (by omega) e⟩
end
set_option maxRecDepth 100000 in
set_option maxHeartbeats 1000000 in
theorem refuse_any {W : World} {q : Nat} {A : Option Addr} {n c : Nat} {f : Nat → Nat} {size : Nat} {mo : Bool} {G : Value} {i : Nat} (h : Rdb W q A n c f size mo G i) (p e : Nat) :
    Calls Tryz.prog 70 #[.pointer (some ⟨q, 0, none⟩), .int .i64 (p : Int), .int .i64 (e : Int)] W fun r w' => r = .panicked [{ v := rfV (p : Int) (adj mo e : Int), recovered := false }] ∧ w' = W := by
  have c3 := h.b.c5.2.2.2.1
  unfold rfV
  by_cases he : e = 3
  · subst he
    clear h
    cases mo
    · have e1 : adj false 3 = 3 := rfl
      rw [e1]
      clear e1
      go_enter Tryz.func70, Tryz.ntmps70
      go_wp2_with fail
      exact ⟨rfl, rfl, rfl⟩
    · have e1 : adj true 3 = 8 := rfl
      rw [e1]
      clear e1
      go_enter Tryz.func70, Tryz.ntmps70
      go_wp2_with fail
      exact ⟨rfl, rfl, rfl⟩
  · have e1 : ((e : Int) == 3) = false := by simp; omega
    have e2 : adj mo e = e := by unfold adj; rw [if_neg (fun h => he h.1)]
    rw [e2]
    clear h e2 he
    go_enter Tryz.func70, Tryz.ntmps70
    go_wp2_with fail
    exact ⟨rfl, rfl, rfl⟩
/-- a head as a value -/
def stV (s : Hdr) : Value := .agg #[.int .i64 (s.p : Int), .int .i64 (s.M : Int), .int .i64 (s.x : Int), .int .u64 (s.v : Int)]
set_option maxRecDepth 100000 in
set_option maxHeartbeats 1000000 in
theorem bound_any {W : World} {q : Nat} {A : Option Addr} {n c : Nat} {f : Nat → Nat} {size : Nat} {mo : Bool} {G : Value} {i : Nat} (h : Rdb W q A n c f size mo G i) (s : Hdr) (w : Nat) (hw : w = 1 ∨ w = 2) (hv : s.v < 18446744073709551616) :
    Calls Tryz.prog 150 #[.pointer (some ⟨q, 0, none⟩), stV s, .int .i64 (w : Int)] W fun r w' => Below W.heap.size W w' ∧ ((s.v ≤ (size - i) / w ∧ r = .returned (.tuple #[])) ∨ ((size - i) / w < s.v ∧ r = .panicked [{ v := rfV (s.p : Int) 8, recovered := false }])) := by
  have hi := h.i
  have hsz := h.sz
  obtain ⟨p, M, x, v⟩ := s
  unfold stV
  dsimp only at hv ⊢
  obtain ⟨W1, hW1⟩ : ∃ W1, W.alloc (.cells #[.int .i64 (p : Int), .int .i64 (M : Int), .int .i64 (x : Int), .int .u64 (v : Int)] 156) = W1 := ⟨_, rfl⟩
  have hb1 : Below W.heap.size W W1 := by rw [← hW1]; exact (Below.refl _ _).alloc (Nat.le_refl _) _
  have hk1 : Bk W1 W.heap.size 156 #[.int .i64 (p : Int), .int .i64 (M : Int), .int .i64 (x : Int), .int .u64 (v : Int)] := by rw [← hW1]; exact heap_alloc_last _ _
  have h1 := h.below hb1
  have HB := Lib.hid hb1
  have HR : Hid (∀ W', Below W1.heap.size W1 W' → Calls Tryz.prog 70 #[.pointer (some ⟨q, 0, none⟩), .int .i64 (p : Int), .int .i64 8] W' fun r w' => r = .panicked [{ v := rfV (p : Int) 8, recovered := false }] ∧ w' = W') := Lib.hid fun W' hb => by
    have := refuse_any (h1.below hb) p 8
    have e8 : adj mo 8 = 8 := by unfold adj; rw [if_neg (by omega)]
    rw [e8] at this
    exact this
  have HD : Hid (∀ k, Below W1.heap.size W1 (W1.drewN k)) := Lib.hid fun k => dnB (Below.refl _ _) k
  obtain ⟨d0, d1, d2, d3⟩ := hk1.c4
  have r1 := h1.b.c5.2.1
  have r2 := h1.b.c5.2.2.1
  obtain ⟨D, hD⟩ : ∃ D, size - i = D := ⟨_, rfl⟩
  have hs1 : IntKind.i64.wrap ((size : Int) - (i : Int)) = (D : Int) := by rw [IntWalk.i64_in _ ⟨by omega, by omega⟩]; omega
  have hs2 : (size : Int) - (i : Int) = (D : Int) := by omega
  rw [hD]
  have hD2 : D ≤ 1048576 := by omega
  clear h h1 hk1 hb1 hsz hi hD
  rcases hw with rfl | rfl
  · have hq : (D : Int).tdiv 1 = (D : Int) := Int.tdiv_one _
    have hu : IntKind.u64.wrap (D : Int) = (D : Int) := by rw [IntKind.wrap_u64]; omega
    rw [Nat.div_one]
    by_cases hvD : v ≤ D
    · have e1 : decide ((D : Int) < (v : Int)) = false := decide_eq_false (by omega)
      go_enter Tryz.func150, Tryz.ntmps150
      go_upto_region 1 with fail
      first | rw [hW1] | skip
      clear hW1
      go_quiet (fail)
      go_wp2_with fail
      go_end0
      exact ⟨HB.out.trans ((HD.out _).mono HB.out.size), .inl ⟨hvD, rfl⟩⟩
    · have e1 : decide ((D : Int) < (v : Int)) = true := decide_eq_true (by omega)
      go_enter Tryz.func150, Tryz.ntmps150
      go_upto_region 1 with fail
      first | rw [hW1] | skip
      clear hW1
      go_quiet (fail)
      go_wp2_with fail
      refine (HR.out _ (HD.out _)).mono ?_
      rintro r w' ⟨rfl, rfl⟩
      go_wp2_with fail
      exact ⟨rfl, HB.out.trans ((HD.out _).mono HB.out.size), .inr ⟨by omega, rfl⟩⟩
  · have hq : (D : Int).tdiv 2 = ((D / 2 : Nat) : Int) := by rw [Int.tdiv_eq_ediv_of_nonneg (by omega)]; omega
    obtain ⟨D2, hD22⟩ : ∃ D2, D / 2 = D2 := ⟨_, rfl⟩
    rw [hD22] at hq ⊢
    have hu : IntKind.u64.wrap (D2 : Int) = (D2 : Int) := by rw [IntKind.wrap_u64]; omega
    by_cases hvD : v ≤ D2
    · have e1 : decide ((D2 : Int) < (v : Int)) = false := decide_eq_false (by omega)
      go_enter Tryz.func150, Tryz.ntmps150
      go_upto_region 1 with fail
      first | rw [hW1] | skip
      clear hW1
      go_quiet (fail)
      go_wp2_with fail
      go_end0
      exact ⟨HB.out.trans ((HD.out _).mono HB.out.size), .inl ⟨hvD, rfl⟩⟩
    · have e1 : decide ((D2 : Int) < (v : Int)) = true := decide_eq_true (by omega)
      go_enter Tryz.func150, Tryz.ntmps150
      go_upto_region 1 with fail
      first | rw [hW1] | skip
      clear hW1
      go_quiet (fail)
      go_wp2_with fail
      refine (HR.out _ (HD.out _)).mono ?_
      rintro r w' ⟨rfl, rfl⟩
      go_wp2_with fail
      exact ⟨rfl, HB.out.trans ((HD.out _).mono HB.out.size), .inr ⟨by omega, rfl⟩⟩
end Go.Proofs.YtpcladdipgchbaaGreatDoor.nn
namespace Go.Proofs.YtpcladdipgchbaaGreatDoor.nn
open Go.RowKit

/-- what a part of the reader that turns its block alone answers: what is read, or a refusal -/
def RAns {α : Type} (q : Nat) (A : Option Addr) (n c : Nat) (f : Nat → Nat) (size : Nat) (mo : Bool) (G : Value) (val : α → Value) (R : Rs α) (W : World) (r : Ending) (W' : World) : Prop :=
  Stp q W W' ∧ ((∃ a k, R = .ok a k ∧ r = .returned (val a) ∧ Rdb W' q A n c f size mo G k) ∨ (∃ p e, R = .no p e ∧ r = .panicked [{ v := rfV (p : Int) (adj mo e : Int), recovered := false }]))
/-- one cell more of a new block -/
theorem RAns.put {α : Type} {W W' : World} {q : Nat} {A : Option Addr} {n c : Nat} {f : Nat → Nat} {size : Nat} {mo : Bool} {G : Value} {i0 : Nat} {val : α → Value} {R : Rs α} {r : Ending} (h0 : Rdb W q A n c f size mo G i0) (h : RAns q A n c f size mo G val R W r W') (j : Nat) (v : Value) : RAns q A n c f size mo G val R W r (W'.setCell ⟨W.heap.size, j, none⟩ v) := by
  have hq := h0.b.lt
  have hk : ∀ b, b < W.heap.size → (W'.setCell ⟨W.heap.size, j, none⟩ v).heap[b]? = W'.heap[b]? := fun b hb => Below.heap_setCell _ _ _ _ (by show b ≠ W.heap.size; omega)
  obtain ⟨h1, h2⟩ := h
  refine ⟨⟨h1.os, h1.tape, h1.output, by rw [setCell_sz]; exact h1.size, h1.more, fun b hb => hb.elim, fun b hb ho he => (hk b hb).trans (h1.kept b hb ho he)⟩, ?_⟩
  rcases h2 with ⟨a, k, e1, e2, e3⟩ | h2
  · refine .inl ⟨a, k, e1, e2, (hk q hq).trans e3.b, fun hn => ?_, e3.x, e3.nc, e3.sz, e3.i, e3.hf⟩
    obtain ⟨b, off, ea, hb, _⟩ := h0.a hn
    obtain ⟨b', off', ea', hb', hc'⟩ := e3.a hn
    rw [ea] at ea'
    injection ea' with ea'
    injection ea' with ea' eo
    subst ea' eo
    refine ⟨b, off, ea, by rw [setCell_sz]; exact hb', fun j hj => ?_⟩
    rw [← hc' j hj]
    simp only [World.cell?, hk b hb]
  · exact .inr h2
section
variable {W : World} {q : Nat} {A : Option Addr} {n c : Nat} {f : Nat → Nat} {size : Nat} {mo : Bool} {G : Value} {i : Nat}
set_option maxRecDepth 100000 in
set_option maxHeartbeats 2000000 in
theorem ends_any (h : Rdb W q A n c f size mo G i) :
    Calls Tryz.prog 147 #[.pointer (some ⟨q, 0, none⟩)] W fun r w' => Stp q W w' ∧ ((i < n ∧ f i = 255 ∧ r = .returned (.bool true) ∧ Rdb w' q A n c f size mo G (i + 1)) ∨ (¬ (i < n ∧ f i = 255) ∧ r = .returned (.bool false) ∧ Rdb w' q A n c f size mo G i)) := by
  obtain ⟨b0, b1, b2, b3, b4⟩ := h.b.c5
  have f1 := h.b.frozen 1
  have hi := h.i
  have hsz := h.sz
  have HN : Hid (∀ k, Stp q W (W.drewN k) ∧ Rdb (W.drewN k) q A n c f size mo G i) := Lib.hid fun k => ⟨.of_below (dnB (Below.refl _ _) k), h.below (dnB (Below.refl _ _) k)⟩
  by_cases hlt : i < n
  · obtain ⟨b, off, rfl, hc, hbq⟩ := h.byte hlt
    have hc' : W.cell? ⟨b, off + i, none⟩ = some (.int .u8 (f i : Int)) := hc
    have hd : decide (i < n) = true := decide_eq_true hlt
    have h8 := h.hf i
    by_cases hf : f i = 255
    · have HE : Hid (∀ k, Stp q W ((W.drewN k).setCell ⟨q, 1, none⟩ (.int .i64 ((i : Int) + 1))) ∧ Rdb ((W.drewN k).setCell ⟨q, 1, none⟩ (.int .i64 ((i : Int) + 1))) q (some ⟨b, off, none⟩) n c f size mo G (i + 1)) := Lib.hid fun k => by
        have e : (i : Int) + 1 = ((i + 1 : Nat) : Int) := by omega
        rw [e]
        exact ⟨((HN.out k).1).trans (.set _ _ _ _), (HN.out k).2.set (by omega)⟩
      have hw : IntKind.i64.wrap ((i : Int) + 1) = (i : Int) + 1 := IntWalk.i64_in _ ⟨by omega, by omega⟩
      rw [hf] at hc'
      have HA := Lib.hid (And.intro hlt hf)
      have hlt2 : (i : Int) < (n : Int) := by omega
      clear h HN hc hf h8
      go_enter Tryz.func147, Tryz.ntmps147
      go_wp2_with fail
      go_quiet (fail)
      go_wp2_with fail
      go_ret
      exact ⟨(HE.out _).1, .inl ⟨HA.out.1, HA.out.2, rfl, (HE.out _).2⟩⟩
    · have e1 : ((f i : Int) == 255) = false := by simp; omega
      have HA : Hid (¬ (i < n ∧ f i = 255)) := Lib.hid fun h => hf h.2
      obtain ⟨x, hx⟩ : ∃ x, f i = x := ⟨_, rfl⟩
      rw [hx] at hc' e1
      have hlt2 : (i : Int) < (n : Int) := by omega
      clear h hc hf h8 hx
      go_enter Tryz.func147, Tryz.ntmps147
      go_wp2_with fail
      go_quiet (fail)
      go_wp2_with fail
      go_ret
      exact ⟨(HN.out _).1, .inr ⟨HA.out, rfl, (HN.out _).2⟩⟩
  · have hd : decide (i < n) = false := decide_eq_false hlt
    have HA : Hid (¬ (i < n ∧ f i = 255)) := Lib.hid fun h => hlt h.1
    clear h hlt
    go_enter Tryz.func147, Tryz.ntmps147
    go_wp2_with fail
    go_quiet (fail)
    go_wp2_with fail
    go_ret
    exact ⟨(HN.out _).1, .inr ⟨HA.out, rfl, (HN.out _).2⟩⟩
set_option maxRecDepth 100000 in
set_option maxHeartbeats 2000000 in
theorem begins_any (h : Rdb W q A n c f size mo G i) (M : Nat) (hM : M = 2 ∨ M = 3) :
    Calls Tryz.prog 148 #[.pointer (some ⟨q, 0, none⟩), .int .i64 (M : Int)] W fun r w' => (Stp q W w' ∧ Rdb w' q A n c f size mo G i) ∧ (((i < n → M * 32 ≤ f i ∧ f i < M * 32 + 31) ∧ r = .returned (.tuple #[])) ∨ (i < n ∧ ¬ (M * 32 ≤ f i ∧ f i < M * 32 + 31) ∧ r = .panicked [{ v := rfV (i : Int) 4, recovered := false }])) := by
  obtain ⟨b0, b1, b2, b3, b4⟩ := h.b.c5
  have hi := h.i
  have hsz := h.sz
  have HN : Hid (∀ W', Below W.heap.size W W' → Stp q W W' ∧ Rdb W' q A n c f size mo G i) := Lib.hid fun W' hb => ⟨.of_below hb, h.below hb⟩
  have HD : Hid (∀ k, Below W.heap.size W (W.drewN k)) := Lib.hid fun k => dnB (Below.refl _ _) k
  have HR : Hid (∀ W', Below W.heap.size W W' → Calls Tryz.prog 70 #[.pointer (some ⟨q, 0, none⟩), .int .i64 (i : Int), .int .i64 4] W' fun r w' => r = .panicked [{ v := rfV (i : Int) 4, recovered := false }] ∧ w' = W') := Lib.hid fun W' hb => by
    have := refuse_any (h.below hb) i 4
    have e8 : adj mo 4 = 4 := by unfold adj; rw [if_neg (by omega)]
    rw [e8] at this
    exact this
  by_cases hlt : i < n
  · obtain ⟨b, off, rfl, hc, hbq⟩ := h.byte hlt
    have hne : ((i : Int) == (n : Int)) = false := by simp; omega
    have h8 := h.hf i
    obtain ⟨x, hx⟩ : ∃ x, f i = x := ⟨_, rfl⟩
    rw [hx] at hc h8
    have hwx : IntKind.i64.wrap (x : Int) = (x : Int) := IntWalk.i64_in _ ⟨by omega, by omega⟩
    rw [hx]
    clear h hx
    rcases hM with rfl | rfl
    · by_cases h1 : x < 64
      · have d1 : decide ((x : Int) < 64) = true := decide_eq_true (by omega)
        go_enter Tryz.func148, Tryz.ntmps148
        go_wp2_with fail
        go_quiet (fail)
        go_wp2_with fail
        go_quiet (fail)
        go_wp2_with fail
        refine (HR.out _ (HD.out _)).mono ?_
        rintro r w' ⟨rfl, rfl⟩
        go_wp2_with fail
        exact ⟨rfl, HN.out _ (HD.out _), .inr ⟨hlt, by omega, rfl⟩⟩
      · have d1 : decide ((x : Int) < 64) = false := decide_eq_false (by omega)
        by_cases h2 : x < 95
        · have d2 : decide ((95 : Int) ≤ (x : Int)) = false := decide_eq_false (by omega)
          go_enter Tryz.func148, Tryz.ntmps148
          go_wp2_with fail
          go_quiet (fail)
          go_wp2_with fail
          go_quiet (fail)
          go_wp2_with fail
          go_end0
          exact ⟨HN.out _ (HD.out _), .inl ⟨fun _ => by omega, rfl⟩⟩
        · have d2 : decide ((95 : Int) ≤ (x : Int)) = true := decide_eq_true (by omega)
          go_enter Tryz.func148, Tryz.ntmps148
          go_wp2_with fail
          go_quiet (fail)
          go_wp2_with fail
          go_quiet (fail)
          go_wp2_with fail
          refine (HR.out _ (HD.out _)).mono ?_
          rintro r w' ⟨rfl, rfl⟩
          go_wp2_with fail
          exact ⟨rfl, HN.out _ (HD.out _), .inr ⟨hlt, by omega, rfl⟩⟩
    · by_cases h1 : x < 96
      · have d1 : decide ((x : Int) < 96) = true := decide_eq_true (by omega)
        go_enter Tryz.func148, Tryz.ntmps148
        go_wp2_with fail
        go_quiet (fail)
        go_wp2_with fail
        go_quiet (fail)
        go_wp2_with fail
        refine (HR.out _ (HD.out _)).mono ?_
        rintro r w' ⟨rfl, rfl⟩
        go_wp2_with fail
        exact ⟨rfl, HN.out _ (HD.out _), .inr ⟨hlt, by omega, rfl⟩⟩
      · have d1 : decide ((x : Int) < 96) = false := decide_eq_false (by omega)
        by_cases h2 : x < 127
        · have d2 : decide ((127 : Int) ≤ (x : Int)) = false := decide_eq_false (by omega)
          go_enter Tryz.func148, Tryz.ntmps148
          go_wp2_with fail
          go_quiet (fail)
          go_wp2_with fail
          go_quiet (fail)
          go_wp2_with fail
          go_end0
          exact ⟨HN.out _ (HD.out _), .inl ⟨fun _ => by omega, rfl⟩⟩
        · have d2 : decide ((127 : Int) ≤ (x : Int)) = true := decide_eq_true (by omega)
          go_enter Tryz.func148, Tryz.ntmps148
          go_wp2_with fail
          go_quiet (fail)
          go_wp2_with fail
          go_quiet (fail)
          go_wp2_with fail
          refine (HR.out _ (HD.out _)).mono ?_
          rintro r w' ⟨rfl, rfl⟩
          go_wp2_with fail
          exact ⟨rfl, HN.out _ (HD.out _), .inr ⟨hlt, by omega, rfl⟩⟩
  · have hne : ((i : Int) == (n : Int)) = true := by simp; omega
    have HA := Lib.hid hlt
    clear h hlt HR
    go_enter Tryz.func148, Tryz.ntmps148
    go_wp2_with fail
    go_quiet (fail)
    go_wp2_with fail
    exact bodyPost_ret (by simp [results, Tryz.results148, go_sem]) rfl ⟨HN.out _ (HD.out _), .inl ⟨fun h => absurd h HA.out, rfl⟩⟩
theorem gt_le (f : Nat → Nat) (m : Nat) : (gtR f m).2.2.2.1 ≤ m := by
  rcases gt_errs (f := f) (m := m) with h | h | h
  · exact (gt_first h).2.2.2.2.2
  · exact Nat.le_of_eq (gt_short h).1
  · exact Nat.le_of_lt (gt_form h rfl).2.1
set_option maxRecDepth 100000 in
set_option maxHeartbeats 4000000 in
theorem start_any (h : Rdb W q A n c f size mo G i) : Calls Tryz.prog 109 #[.pointer (some ⟨q, 0, none⟩)] W (RAns q A n c f size mo G stV (hdr f n i) W) := by
  have hi := h.i
  have hsz := h.sz
  have hnc := h.nc
  have hl := fun W => sl_lo A n c i W hi
  obtain ⟨W1, hW1⟩ : ∃ W1, W.alloc (.cells #[.int .i64 0, .int .i64 0, .int .i64 0, .int .u64 0] 156) = W1 := ⟨_, rfl⟩
  have hb1 : Below W.heap.size W W1 := by rw [← hW1]; exact (Below.refl _ _).alloc (Nat.le_refl _) _
  have hk1 : Bk W1 W.heap.size 156 #[.int .i64 0, .int .i64 0, .int .i64 0, .int .u64 0] := by rw [← hW1]; exact heap_alloc_last _ _
  have h1 := h.below hb1
  obtain ⟨b0, b1, b2, b3, b4⟩ := h1.b.c5
  have hgt := gt_le (sh f i) (n - i)
  have hge := gt_errs (f := sh f i) (m := n - i)
  have hH : hdr f n i = if (gtR (sh f i) (n - i)).2.2.2.2 = 0 then .ok ⟨i, (gtR (sh f i) (n - i)).1, (gtR (sh f i) (n - i)).2.1, (gtR (sh f i) (n - i)).2.2.1⟩ (i + (gtR (sh f i) (n - i)).2.2.2.1) else .no (i + (gtR (sh f i) (n - i)).2.2.2.1) (gtR (sh f i) (n - i)).2.2.2.2 := rfl
  have HG : Hid (∀ W', Below W1.heap.size W1 W' → Calls Tryz.prog 53 #[.slice (slA A i c) (n - i) (c - i)] W' (GtAns (sh f i) (n - i) W')) := Lib.hid fun W' hb => hdget_any _ _ _ _ W' (rd_sl (h1.below hb).a hi (Nat.le_refl _) hnc.1) (fun j _ => h.hf _) (by omega) (by omega)
  unfold GtAns gtV at HG
  obtain ⟨⟨M, x, v, k, e⟩, hr⟩ : ∃ r, gtR (sh f i) (n - i) = r := ⟨_, rfl⟩
  rw [hr] at HG hgt hge hH
  dsimp only at HG hgt hge hH
  have HB := Lib.hid hb1
  have HK : Hid (∀ W', Below W1.heap.size W1 W' → Bk W' W.heap.size 156 #[.int .i64 0, .int .i64 0, .int .i64 0, .int .u64 0] ∧ Rdb W' q A n c f size mo G i) := Lib.hid fun W' hb => ⟨hk1.below hb hk1.lt, h1.below hb⟩
  have HD : Hid (∀ j, Below W1.heap.size W1 (W1.drewN j)) := Lib.hid fun j => dnB (Below.refl _ _) j
  have HD1 : Hid (Below W1.heap.size W1 W1.drew) := Lib.hid (Below.drew (Below.refl _ _))
  have hki : IntKind.i64.wrap ((i : Int) + (k : Int)) = (i : Int) + (k : Int) := IntWalk.i64_in _ ⟨by omega, by omega⟩
  have hqz := h.b.lt
  have H0 := Lib.hid h
  rw [hH]
  clear h h1 hk1 hb1 hr hH
  by_cases he : e = 0
  · subst he
    have HS : Hid (∀ (W' : World), Below W1.heap.size W1 W' → RAns q A n c f size mo G stV (if (0 : Nat) = 0 then .ok ⟨i, M, x, v⟩ (i + k) else .no (i + k) 0) W (.returned (stV ⟨i, M, x, v⟩)) (((W'.alloc (.cells #[.int .i64 (i : Int), .int .i64 (M : Int), .int .i64 (x : Int), .int .u64 (v : Int)] 156)).setCell ⟨q, 1, none⟩ (.int .i64 ((i : Int) + (k : Int)))))) := Lib.hid fun W' hb => by
      have e : (i : Int) + (k : Int) = ((i + k : Nat) : Int) := by omega
      rw [e]
      obtain ⟨_, h2⟩ := HK.out W' hb
      have h3 : Below W'.heap.size W' (W'.alloc (.cells #[.int .i64 (i : Int), .int .i64 (M : Int), .int .i64 (x : Int), .int .u64 (v : Int)] 156)) := (Below.refl _ _).alloc (Nat.le_refl _) _
      refine ⟨((Stp.of_below (HB.out.trans (hb.mono HB.out.size))).trans (.of_below (h3.mono (Nat.le_refl _)))).trans (.set _ _ _ _), .inl ⟨⟨i, M, x, v⟩, i + k, rfl, rfl, (h2.below h3).set (by omega)⟩⟩
    go_enter Tryz.func109, Tryz.ntmps109
    go_upto_region 1 with fail
    first | rw [hW1] | skip
    clear hW1
    first
      | go_region_with (go_at_call 53; (with_reducible refine (HG.out _ HD1.out).mono ?_); rintro r w2 ⟨rfl, hb2⟩)
      | done
    all_goals
      obtain ⟨k2, h2⟩ := HK.out _ (HD1.out.trans hb2)
      have HZ := Lib.hid (HS.out w2 (HD1.out.trans hb2))
      clear HS HK HG
      obtain ⟨W3, hW3⟩ : ∃ W3, w2.alloc (.cells #[.int .i64 (i : Int), .int .i64 (M : Int), .int .i64 (x : Int), .int .u64 (v : Int)] 156) = W3 := ⟨_, rfl⟩
      have hb3 : Below w2.heap.size w2 W3 := by rw [← hW3]; exact (Below.refl _ _).alloc (Nat.le_refl _) _
      have h3 := h2.below hb3
      have k3 := k2.below hb3 k2.lt
      have k5 : Bk W3 w2.heap.size 156 #[.int .i64 (i : Int), .int .i64 (M : Int), .int .i64 (x : Int), .int .u64 (v : Int)] := by rw [← hW3]; exact heap_alloc_last _ _
      have hne1 : w2.heap.size ≠ q := fun e => by have := h2.b.lt; omega
      have hne2 : W.heap.size ≠ q := fun e => by omega
      rw [hW3] at HZ
      obtain ⟨e0, e1, e2, e3, e4⟩ := h3.b.c5
      have ef := h3.b.frozen 1
      obtain ⟨b0', b1', _, _, _⟩ := h2.b.c5
      go_upto_region 5 with fail
      first | rw [hW3] | skip
      clear hW3
      go_upto_region 6 with fail
      obtain ⟨W4, hW4⟩ : ∃ W4, W3.setCell ⟨q, 1, none⟩ (.int .i64 ((i : Int) + (k : Int))) = W4 := ⟨_, rfl⟩
      have k6 : Bk W4 w2.heap.size 156 #[.int .i64 (i : Int), .int .i64 (M : Int), .int .i64 (x : Int), .int .u64 (v : Int)] := by rw [← hW4]; exact (Below.heap_setCell _ _ _ _ hne1).trans k5
      have k7 : Bk W4 W.heap.size 156 #[.int .i64 0, .int .i64 0, .int .i64 0, .int .u64 0] := by rw [← hW4]; exact (Below.heap_setCell _ _ _ _ hne2).trans k3
      rw [hW4] at HZ ⊢
      obtain ⟨m0, m1, m2, m3⟩ := k6.c4
      obtain ⟨y0, y1, y2, y3⟩ := k7.c4
      have z0 := k7.frozen 0
      have z1 := k7.frozen 1
      have z2 := k7.frozen 2
      have z3 := k7.frozen 3
      have HF := Lib.hid ((((HZ.out.put H0.out 0 (.int .i64 (i : Int))).put H0.out 1 (.int .i64 (M : Int))).put H0.out 2 (.int .i64 (x : Int))).put H0.out 3 (.int .u64 (v : Int)))
      clear hW4 k6 k7 HZ
      go_wp2_with fail
      exact bodyPost_ret (v := stV ⟨i, M, x, v⟩) (by simp [results, Tryz.results109, go_sem, y0, y1, y2, y3, stV]) rfl HF.out
  · have he1 : ((e : Int) != 0) = true := by simp; omega
    have HR : Hid (∀ W', Below W1.heap.size W1 W' → Calls Tryz.prog 70 #[.pointer (some ⟨q, 0, none⟩), .int .i64 ((i : Int) + (k : Int)), .int .i64 (e : Int)] W' fun r w' => r = .panicked [{ v := rfV ((i : Int) + (k : Int)) (adj mo e : Int), recovered := false }] ∧ w' = W') := Lib.hid fun W' hb => by
      have e2 : (i : Int) + (k : Int) = ((i + k : Nat) : Int) := by omega
      rw [e2]
      exact refuse_any (HK.out W' hb).2 (i + k) e
    have HS : Hid (∀ W', Below W1.heap.size W1 W' → RAns q A n c f size mo G stV (.no (i + k) e) W (.panicked [{ v := rfV ((i : Int) + (k : Int)) (adj mo e : Int), recovered := false }]) W') := Lib.hid fun W' hb => by
      have e2 : (i : Int) + (k : Int) = ((i + k : Nat) : Int) := by omega
      rw [e2]
      exact ⟨.of_below (HB.out.trans (hb.mono HB.out.size)), .inr ⟨i + k, e, rfl, rfl⟩⟩
    rw [if_neg he]
    go_enter Tryz.func109, Tryz.ntmps109
    go_upto_region 1 with fail
    first | rw [hW1] | skip
    clear hW1
    first
      | go_region_with (go_at_call 53; (with_reducible refine (HG.out _ HD1.out).mono ?_); rintro r w2 ⟨rfl, hb2⟩)
      | done
    all_goals
      have hb3 := HD1.out.trans hb2
      obtain ⟨k2, h2⟩ := HK.out _ hb3
      obtain ⟨e0', e1', _, _, _⟩ := h2.b.c5
      go_wp2_with fail
      refine (HR.out _ hb3).mono ?_
      rintro r w' ⟨rfl, rfl⟩
      go_wp2_with fail
      exact ⟨rfl, HS.out _ hb3⟩
end
end Go.Proofs.YtpcladdipgchbaaGreatDoor.nn
namespace Go.Proofs.YtpcladdipgchbaaGreatDoor.nn
open Go.RowKit

section
variable {W : World} {q : Nat} {A : Option Addr} {n c : Nat} {f : Nat → Nat} {size : Nat} {mo : Bool} {G : Value} {i : Nat}
/-- bytes or a text behind their head -/
def pcR (size : Nat) (s : Hdr) : Prs ByteArray := (bnd size s.p s.v 1).bind fun _ => byt s.M s.v
theorem bt_sh {f : Nat → Nat} {n i : Nat} (hf : ∀ j, f j < 256) : ∀ j, j < n → bt (pc (sh f i) n) j = sh f i j := fun _ hj => bt_pc hj (hf _)
set_option maxRecDepth 100000 in
set_option maxHeartbeats 4000000 in
theorem piece_any (h : Rdb W q A n c f size mo G i) (s : Hdr) (hp : s.p ≤ i) (hM : s.M = 2 ∨ s.M = 3) (hv : s.v < 18446744073709551616) :
    Calls Tryz.prog 146 #[.pointer (some ⟨q, 0, none⟩), stV s] W (RAns q A n c f size mo G (fun b => .string b) (pcR size s f n i) W) := by
  have hi := h.i
  have hsz := h.sz
  have hnc := h.nc
  obtain ⟨W1, hW1⟩ : ∃ W1, W.alloc (.cells #[.int .i64 (s.p : Int), .int .i64 (s.M : Int), .int .i64 (s.x : Int), .int .u64 (s.v : Int)] 156) = W1 := ⟨_, rfl⟩
  have hb1 : Below W.heap.size W W1 := by rw [← hW1]; exact (Below.refl _ _).alloc (Nat.le_refl _) _
  have hk1 : Bk W1 W.heap.size 156 #[.int .i64 (s.p : Int), .int .i64 (s.M : Int), .int .i64 (s.x : Int), .int .u64 (s.v : Int)] := by rw [← hW1]; exact heap_alloc_last _ _
  have h1 := h.below hb1
  have HBD := Lib.hid (bound_any h1 s 1 (.inl rfl) hv)
  have HK : Hid (∀ W', Below W1.heap.size W1 W' → Bk W' W.heap.size 156 #[.int .i64 (s.p : Int), .int .i64 (s.M : Int), .int .i64 (s.x : Int), .int .u64 (s.v : Int)] ∧ Rdb W' q A n c f size mo G i ∧ Stp q W W') := Lib.hid fun W' hb => ⟨hk1.below hb hk1.lt, h1.below hb, .of_below (hb1.trans (hb.mono hb1.size))⟩
  have hpc : pcR size s f n i = if (size - i) / 1 < s.v then .no s.p 8 else byt s.M s.v f n i := by
    unfold pcR Prs.bind bnd
    by_cases h0 : (size - i) / 1 < s.v
    · rw [if_pos h0, if_pos h0, Nat.min_eq_left hp]
    · rw [if_neg h0, if_neg h0]
  have hqz := h.b.lt
  have hf := h.hf
  obtain ⟨p, M, x, v⟩ := s
  unfold stV at HBD ⊢
  dsimp only at hpc hp hM hv HK HBD hW1 ⊢
  have HR : Hid (∀ W' (j p e : Nat), Rdb W' q A n c f size mo G j → Calls Tryz.prog 70 #[.pointer (some ⟨q, 0, none⟩), .int .i64 (p : Int), .int .i64 (e : Int)] W' fun r w' => r = .panicked [{ v := rfV (p : Int) (adj mo e : Int), recovered := false }] ∧ w' = W') := Lib.hid fun W' j p e hb => refuse_any hb p e
  obtain ⟨R, hR⟩ : ∃ R, pcR size ⟨p, M, x, v⟩ f n i = R := ⟨_, rfl⟩
  rw [hR] at hpc ⊢
  have HPC := Lib.hid hpc
  clear hR
  obtain ⟨o0, o1, o2, o3⟩ := hk1.c4
  have HBD : Hid (Calls Tryz.prog 150 #[.pointer (some ⟨q, 0, none⟩), .agg #[.int .i64 (p : Int), .int .i64 (M : Int), .int .i64 (x : Int), .int .u64 (v : Int)], .int .i64 1] W1 fun r w' => Below W1.heap.size W1 w' ∧ ((v ≤ (size - i) / 1 ∧ r = .returned (.tuple #[])) ∨ ((size - i) / 1 < v ∧ r = .panicked [{ v := rfV (p : Int) 8, recovered := false }]))) := HBD
  clear hpc h h1 hk1 hb1
  go_enter Tryz.func146, Tryz.ntmps146
  go_upto_region 1 with fail
  first | rw [hW1] | skip
  clear hW1
  go_wp2_with fail
  refine HBD.out.mono ?_
  rintro r w2 ⟨hb2, ⟨hle, rfl⟩ | ⟨hlt, rfl⟩⟩
  · -- the length is within bounds
    rw [Nat.div_one] at hle
    have hpc : R = byt M v f n i := by rw [HPC.out, Nat.div_one, if_neg (by omega)]
    have HPC2 := Lib.hid hpc
    clear hpc
    obtain ⟨k2, h2, s2⟩ := HK.out w2 hb2
    obtain ⟨d0, d1, d2, d3⟩ := k2.c4
    obtain ⟨b0, b1, b2, b3, b4⟩ := h2.b.c5
    have hvw : IntKind.i64.wrap (v : Int) = (v : Int) := IntWalk.i64_in _ ⟨by omega, by omega⟩
    have hiv : IntKind.i64.wrap ((i : Int) + (v : Int)) = (i : Int) + (v : Int) := IntWalk.i64_in _ ⟨by omega, by omega⟩
    obtain ⟨m, hm⟩ : ∃ m, min v (n - i) = m := ⟨_, rfl⟩
    obtain ⟨H, hH⟩ : ∃ H, i + m = H := ⟨_, rfl⟩
    have hmn : min ((i : Int) + (v : Int)) (n : Int) = (H : Int) := by omega
    have hsl := fun W => sl_lh A n c i H W (by omega) (by omega)
    have hHm : H - i = m := by omega
    rw [hHm] at hsl
    have hcv : ∀ W', Below w2.heap.size w2 W' → (convert 28 9 (.slice (slA A i c) m (c - i))).run Tryz.prog W' = .ok (.string (pc (sh f i) m)) W' := fun W' hb => by
      have hr := rd_sl (h2.below hb).a (show i ≤ H by omega) (by omega) hnc.1
      rw [hHm] at hr
      exact conv_row _ _ _ _ W' hr
    have hcv1 := fun j => hcv (w2.drewN j) (dnB (Below.refl _ _) j)
    have hcv2 := hcv w2.drew (Below.drew (Below.refl _ _))
    have hcv0 := hcv w2 (Below.refl _ _)
    clear hcv
    obtain ⟨T, hT⟩ : ∃ T, pc (sh f i) m = T := ⟨_, rfl⟩
    rw [hT] at hcv0 hcv1 hcv2
    have hTs : T.size = m := by rw [← hT, pc_size]
    have hcg : ∀ j, j < m → bt T j = sh f i j := fun j hj => by rw [← hT]; exact bt_sh hf j hj
    have HK2 : Hid (∀ W', Below w2.heap.size w2 W' → Rdb W' q A n c f size mo G i ∧ Stp q W W') := Lib.hid fun W' hb => ⟨h2.below hb, s2.trans (.of_below hb)⟩
    have hws : IntKind.i64.wrap ((i : Int) + (m : Int)) = (i : Int) + (m : Int) := IntWalk.i64_in _ ⟨by omega, by omega⟩
    -- the end: the place goes on, and the bytes are told, if all are there
    have HE : Hid (∀ W', Below w2.heap.size w2 W' → (M = 3 → wE (sh f i) (v : Int) m = 0) → ¬ m < v → RAns q A n c f size mo G (fun b => .string b) R W (.returned (.string T)) (W'.setCell ⟨q, 1, none⟩ (.int .i64 ((i : Int) + (m : Int))))) := Lib.hid fun W' hb hE hmv => by
      have e1 : (i : Int) + (m : Int) = ((i + v : Nat) : Int) := by omega
      have hmv2 : m = v := by omega
      rw [e1]
      refine ⟨(HK2.out W' hb).2.trans (.set _ _ _ _), .inl ⟨T, i + v, ?_, rfl, (HK2.out W' hb).1.set (by omega)⟩⟩
      rw [HPC2.out, byt_yes (by omega) (by rw [← hmv2]; rw [hmv2] at hE ⊢; exact hE), ← hT, hmv2]
    have HS : Hid (∀ W', Below w2.heap.size w2 W' → (M = 3 → wE (sh f i) (v : Int) m = 0) → m < v → Calls Tryz.prog 70 #[.pointer (some ⟨q, 0, none⟩), .int .i64 ((i : Int) + (m : Int)), .int .i64 3] (W'.setCell ⟨q, 1, none⟩ (.int .i64 ((i : Int) + (m : Int)))) fun r w' => (∃ ch, r = .panicked ch) ∧ RAns q A n c f size mo G (fun b => .string b) R W r w') := Lib.hid fun W' hb hE hmv => by
      have e1 : (i : Int) + (m : Int) = (n : Int) := by omega
      have hR2 : R = .no n 3 := by
        rw [HPC2.out]
        unfold byt
        rw [hm, if_neg (fun h => h.2 (hE h.1)), if_pos (by omega)]
      rw [e1]
      refine (refuse_any ((HK2.out W' hb).1.set (i' := n) (Nat.le_refl _)) n 3).mono fun r w' ⟨hr, hw⟩ => ?_
      subst hr hw
      exact ⟨⟨_, rfl⟩, (HK2.out W' hb).2.trans (.set _ _ _ _), .inr ⟨n, 3, hR2, rfl⟩⟩
    have HC : Hid (∀ W', Below w2.heap.size w2 W' → W'.cell? ⟨q, 1, none⟩ = some (.int .i64 (i : Int)) ∧ W'.frozen? ⟨q, 1, none⟩ = false ∧ W'.cell? ⟨W.heap.size, 1, none⟩ = some (.int .i64 (M : Int)) ∧ W'.cell? ⟨W.heap.size, 3, none⟩ = some (.int .u64 (v : Int))) := Lib.hid fun W' hb => ⟨(HK2.out W' hb).1.b.cell 1, (HK2.out W' hb).1.b.frozen 1, (k2.below hb k2.lt).cell 1, (k2.below hb k2.lt).cell 3⟩
    rcases hM with rfl | rfl
    · clear HR HK HBD hcg hT
      have HE2 : Hid (∀ W', Below w2.heap.size w2 W' → ¬ m < v → RAns q A n c f size mo G (fun b => .string b) R W (.returned (.string T)) (W'.setCell ⟨q, 1, none⟩ (.int .i64 ((i : Int) + (m : Int))))) := Lib.hid fun W' hb => HE.out W' hb (fun h => absurd h (by decide))
      have HS2 := Lib.hid (fun W' hb => HS.out W' hb (fun h => absurd h (by decide)))
      clear HE HS
      go_upto_region 3 with fail
      go_quiet (fail)
      obtain ⟨w5, hw5⟩ : ∃ w5, w2.drewN nq = w5 := ⟨_, rfl⟩
      have hb5 : Below w2.heap.size w2 w5 := by rw [← hw5]; exact dnB (Below.refl _ _) _
      rw [hw5]
      clear hw5
      obtain ⟨z1, z2, z3, z4⟩ := HC.out _ hb5
      by_cases hmv : m < v
      · have dm : decide (m < v) = true := decide_eq_true (by omega)
        go_wp2_with fail
        with_reducible refine (HS2.out _ hb5 hmv).mono ?_
        rintro r w' ⟨⟨ch, rfl⟩, hr⟩
        go_wp2_with fail
        exact ⟨rfl, hr⟩
      · have dm : decide (m < v) = false := decide_eq_false (by omega)
        go_wp2_with fail
        go_ret
        exact HE2.out _ hb5 hmv
    · have HW : Hid (∀ W', Calls Tryz.prog 188 #[.string T, .int .i64 (v : Int)] W' fun r w' => r = .returned (.tuple #[.int .i64 (spw (sh f i) (v : Int) m : Int), .int .i64 (wE (sh f i) (v : Int) m : Int)]) ∧ Below W'.heap.size W' w') := Lib.hid fun W' => by
        have h9 := within_any T (v : Int) W' (by unfold maxLen; omega) (by omega) (by unfold maxLen; omega) v m (by omega) (by omega)
        rw [spw_congr hcg, wE_congr hcg] at h9
        exact h9
      have hpl : spw (sh f i) (v : Int) m ≤ m := spw_le
      have hwc := wE_cases (sh f i) (v : Int) m
      have HB2 : Hid (wE (sh f i) (v : Int) m ≠ 0 → R = .no (i + spw (sh f i) (v : Int) m) (wE (sh f i) (v : Int) m)) := Lib.hid fun h => by
        rw [HPC2.out]
        unfold byt
        rw [hm, if_pos ⟨rfl, h⟩]
      obtain ⟨P, hP⟩ : ∃ P, spw (sh f i) (v : Int) m = P := ⟨_, rfl⟩
      obtain ⟨E, hE⟩ : ∃ E, wE (sh f i) (v : Int) m = E := ⟨_, rfl⟩
      rw [hP] at hpl HB2 HW
      rw [hE] at hwc HB2 HW HE HS
      have hwp : IntKind.i64.wrap ((i : Int) + (P : Int)) = (i : Int) + (P : Int) := IntWalk.i64_in _ ⟨by omega, by omega⟩
      have HT : Hid (∀ W', Below w2.heap.size w2 W' → E ≠ 0 → Calls Tryz.prog 70 #[.pointer (some ⟨q, 0, none⟩), .int .i64 ((i : Int) + (P : Int)), .int .i64 (E : Int)] W' fun r w' => (∃ ch, r = .panicked ch) ∧ RAns q A n c f size mo G (fun b => .string b) R W r w') := Lib.hid fun W' hb h0 => by
        have e1 : (i : Int) + (P : Int) = ((i + P : Nat) : Int) := by omega
        rw [e1]
        refine (refuse_any (HK2.out W' hb).1 (i + P) E).mono fun r w' ⟨hr, hw⟩ => ?_
        subst hr hw
        exact ⟨⟨_, rfl⟩, (HK2.out w' hb).2, .inr ⟨i + P, E, HB2.out h0, rfl⟩⟩
      clear HR HK HBD hcg hT hP hE HB2
      go_upto_region 3 with fail
      go_quiet (fail)
      obtain ⟨w4, hw4⟩ : ∃ w4, w2.drewN nq = w4 := ⟨_, rfl⟩
      have hb4 : Below w2.heap.size w2 w4 := by rw [← hw4]; exact dnB (Below.refl _ _) _
      rw [hw4]
      clear hw4
      obtain ⟨_, _, z3, _⟩ := HC.out _ hb4
      go_wp2_with fail
      with_reducible refine (HW.out _).mono ?_
      rintro r w5 ⟨rfl, hb45⟩
      have hb5 := hb4.trans (hb45.mono hb4.size)
      obtain ⟨z1, z2, z3', z4⟩ := HC.out _ hb5
      by_cases hE0 : E = 0
      · subst hE0
        by_cases hmv : m < v
        · have dm : decide (m < v) = true := decide_eq_true (by omega)
          go_wp2_with fail
          with_reducible refine (HS.out _ hb5 (by simp) hmv).mono ?_
          rintro r w' ⟨⟨ch, rfl⟩, hr⟩
          go_wp2_with fail
          exact ⟨rfl, hr⟩
        · have dm : decide (m < v) = false := decide_eq_false (by omega)
          go_wp2_with fail
          go_ret
          exact HE.out _ hb5 (by simp) hmv
      · have hne : ((E : Int) != 0) = true := by simp; omega
        go_wp2_with fail
        with_reducible refine (HT.out _ hb5 hE0).mono ?_
        rintro r w' ⟨⟨ch, rfl⟩, hr⟩
        go_wp2_with fail
        exact ⟨rfl, hr⟩
  · have hpc : R = .no p 8 := by rw [HPC.out, if_pos hlt]
    have HPC2 := Lib.hid hpc
    clear hpc
    obtain ⟨_, h2, s2⟩ := HK.out w2 hb2
    have HS := Lib.hid s2
    clear h2 s2 HR HK
    go_wp2_with fail
    refine ⟨rfl, HS.out, .inr ⟨p, 8, HPC2.out, ?_⟩⟩
    unfold adj
    rw [if_neg (by omega)]
    rfl
end
end Go.Proofs.YtpcladdipgchbaaGreatDoor.nn
namespace Go.Proofs.YtpcladdipgchbaaGreatDoor.nn
open Go.RowKit

section
variable {W : World} {q : Nat} {A : Option Addr} {n c : Nat} {f : Nat → Nat} {size : Nat} {mo : Bool} {G : Value} {i : Nat}
theorem RAns.from_ {α : Type} {W1 W' : World} {val : α → Value} {R : Rs α} {r : Ending} (hs : Stp q W W1) (h : RAns q A n c f size mo G val R W1 r W') : RAns q A n c f size mo G val R W r W' := ⟨hs.trans h.1, h.2⟩
/-- the slice of what has been read of what is open -/
structure Sow (w : World) (q : Nat) (v : Value) (acc : ByteArray) (W : World) : Prop where
  o : W.ownsRow w.heap.size 5 1 v acc.size (Lib.byteCells acc.data.toList)
theorem Sow.stp {w : World} {v : Value} {acc : ByteArray} {W' : World} (h : Sow w q v acc W) (hs : Stp q W W') (hq : q < w.heap.size) : Sow w q v acc W' := by
  refine ⟨h.o.1, ?_⟩
  rcases h.o.2 with h5 | ⟨g, cap, cur, e, hb, hg, h6⟩
  · exact .inl h5
  · exact .inr ⟨g, cap, cur, e, hb, (hs.block (Array.getElem?_eq_some_iff.1 hg).1 (by omega)).trans hg, h6⟩
set_option maxRecDepth 100000 in
set_option maxHeartbeats 4000000 in
theorem stretch_len (h : Rdb W q A n c f size mo G i) (s : Hdr) (hp : s.p ≤ i) (hM : s.M = 2 ∨ s.M = 3) (hv : s.v < 18446744073709551616) (hx : s.x ≠ 31) (hx2 : s.x < 100) :
    Calls Tryz.prog 111 #[.pointer (some ⟨q, 0, none⟩), stV s] W (RAns q A n c f size mo G (fun b => .string b) (str size s f n i) W) := by
  have hR : str size s = pcR size s := by unfold str; rw [if_neg hx]; rfl
  rw [hR]
  obtain ⟨W1, hW1⟩ : ∃ W1, W.alloc (.cells #[.int .i64 (s.p : Int), .int .i64 (s.M : Int), .int .i64 (s.x : Int), .int .u64 (s.v : Int)] 156) = W1 := ⟨_, rfl⟩
  have hb1 : Below W.heap.size W W1 := by rw [← hW1]; exact (Below.refl _ _).alloc (Nat.le_refl _) _
  have hk1 : Bk W1 W.heap.size 156 #[.int .i64 (s.p : Int), .int .i64 (s.M : Int), .int .i64 (s.x : Int), .int .u64 (s.v : Int)] := by rw [← hW1]; exact heap_alloc_last _ _
  have H1 := Lib.hid (piece_any (h.below hb1) s hp hM hv)
  have HS := Lib.hid (Stp.of_below (q := q) hb1)
  obtain ⟨o0, o1, o2, o3⟩ := hk1.c4
  obtain ⟨p, M, x, v⟩ := s
  unfold stV at H1 ⊢
  dsimp only at hx hx2 H1 hW1 o0 o1 o2 o3 ⊢
  obtain ⟨R, hRR⟩ : ∃ R, pcR size ⟨p, M, x, v⟩ f n i = R := ⟨_, rfl⟩
  rw [hRR] at H1 ⊢
  have hne : ((x : Int) != 31) = true := by simp; omega
  clear hRR hR h hb1 hk1
  go_enter Tryz.func111, Tryz.ntmps111
  go_upto_region 1 with fail
  first | rw [hW1] | skip
  clear hW1
  go_wp2_with fail
  refine H1.out.mono ?_
  rintro r w2 ⟨hs2, ⟨a, k, rfl, rfl, h2⟩ | ⟨p', e', rfl, rfl⟩⟩
  · have HF := Lib.hid (And.intro hs2 h2)
    clear hs2 h2 H1
    go_wp2_with fail
    go_ret
    exact ⟨HS.out.trans HF.out.1, .inl ⟨a, k, rfl, rfl, HF.out.2⟩⟩
  · have HF := Lib.hid hs2
    clear hs2 H1
    go_wp2_with fail
    exact ⟨rfl, HS.out.trans HF.out, .inr ⟨p', e', rfl, rfl⟩⟩
/-! what a round does, plain -/
theorem open_end {M : Nat} {acc : ByteArray} {j : Nat} (h : j < n) (hb : f j = 255) : lp (fun acc => pk (pcb size M acc)) acc f n j = .ok acc (j + 1) := by
  refine lp_out (bdy_pcs size M) (Nat.le_of_lt h) ?_
  rw [pk_lt h, hb]
  unfold pcb
  rw [if_pos rfl]
  unfold adv
  rw [if_pos h]
theorem open_bad {M : Nat} {acc : ByteArray} {j : Nat} (h : j < n) (hb : f j ≠ 255) (hr : ¬ (M * 32 ≤ f j ∧ f j < M * 32 + 31)) : lp (fun acc => pk (pcb size M acc)) acc f n j = .no j 4 := by
  refine lp_err (bdy_pcs size M) (Nat.le_of_lt h) ?_
  rw [pk_lt h]
  unfold pcb
  rw [if_neg hb, if_neg hr]
  unfold bad_
  rw [if_pos h]
theorem open_pce {M : Nat} {acc : ByteArray} {j : Nat} (hj : j ≤ n) (hb : ¬ (j < n ∧ f j = 255)) (hr : j < n → M * 32 ≤ f j ∧ f j < M * 32 + 31) :
    (∀ p e, pce size M f n j = .no p e → lp (fun acc => pk (pcb size M acc)) acc f n j = .no p e) ∧ (∀ b k, pce size M f n j = .ok b k → lp (fun acc => pk (pcb size M acc)) acc f n j = lp (fun acc => pk (pcb size M acc)) (acc ++ b) f n k) := by
  by_cases h : j < n
  · have e1 : pk (pcb size M acc) f n j = ((pce size M).bind fun s => ret (.inl (acc ++ s))) f n j := by
      rw [pk_lt h]
      unfold pcb
      rw [if_neg (fun h2 => hb ⟨h, h2⟩), if_pos (hr h)]
    refine ⟨fun p e he => ?_, fun b k he => ?_⟩
    · refine lp_err (bdy_pcs size M) hj ?_
      rw [e1]
      exact bind_no he
    · refine lp_in (bdy_pcs size M) hj ?_
      rw [e1, bind_ok he]
      rfl
  · obtain rfl : j = n := by omega
    refine ⟨fun p e he => ?_, fun b k he => ?_⟩
    · rw [pce_end] at he
      injection he with h1 h2
      subst h1 h2
      exact lp_err (bdy_pcs size M) hj (pk_end h)
    · rw [pce_end] at he
      cases he
set_option maxRecDepth 100000 in
set_option maxHeartbeats 4000000 in
theorem stretch_open (h : Rdb W q A n c f size mo G i) (s : Hdr) (hM : s.M = 2 ∨ s.M = 3) (hx : s.x = 31) :
    Calls Tryz.prog 111 #[.pointer (some ⟨q, 0, none⟩), stV s] W (RAns q A n c f size mo G (fun b => .string b) (str size s f n i) W) := by
  have hR : str size s = lp (fun acc => pk (pcb size s.M acc)) ⟨#[]⟩ := by unfold str; rw [if_pos hx]
  rw [hR]
  have hsz := h.sz
  have hnn := h.nc
  obtain ⟨W1, hW1⟩ : ∃ W1, W.alloc (.cells #[.int .i64 (s.p : Int), .int .i64 (s.M : Int), .int .i64 (s.x : Int), .int .u64 (s.v : Int)] 156) = W1 := ⟨_, rfl⟩
  have hb1 : Below W.heap.size W W1 := by rw [← hW1]; exact (Below.refl _ _).alloc (Nat.le_refl _) _
  have hk1 : Bk W1 W.heap.size 156 #[.int .i64 (s.p : Int), .int .i64 (s.M : Int), .int .i64 (s.x : Int), .int .u64 (s.v : Int)] := by rw [← hW1]; exact heap_alloc_last _ _
  have hq := h.b.lt
  have h1 := h.below hb1
  have HS := Lib.hid (Stp.of_below (q := q) hb1)
  obtain ⟨o0, o1, o2, o3⟩ := hk1.c4
  obtain ⟨p, M, x, v⟩ := s
  unfold stV
  dsimp only at hx hM hW1 o0 o1 o2 o3 hk1 ⊢
  subst hx
  have hW1 : W.alloc (.cells #[.int .i64 (p : Int), .int .i64 (M : Int), .int .i64 31, .int .u64 (v : Int)] 156) = W1 := hW1
  -- the start's box and the slice are kept
  have HK : Hid (∀ W', Stp q W1 W' → Bk W' W.heap.size 156 #[.int .i64 (p : Int), .int .i64 (M : Int), .int .i64 ((31 : Nat) : Int), .int .u64 (v : Int)]) := Lib.hid fun W' hs => (hs.block hk1.lt (by omega)).trans hk1
  have C1 : Hid (∀ W' j, Rdb W' q A n c f size mo G j → Calls Tryz.prog 147 #[.pointer (some ⟨q, 0, none⟩)] W' fun r w' => Stp q W' w' ∧ ((j < n ∧ f j = 255 ∧ r = .returned (.bool true) ∧ Rdb w' q A n c f size mo G (j + 1)) ∨ (¬ (j < n ∧ f j = 255) ∧ r = .returned (.bool false) ∧ Rdb w' q A n c f size mo G j))) := Lib.hid fun W' j hh => ends_any hh
  have C2 : Hid (∀ W' j, Rdb W' q A n c f size mo G j → Calls Tryz.prog 148 #[.pointer (some ⟨q, 0, none⟩), .int .i64 (M : Int)] W' fun r w' => (Stp q W' w' ∧ Rdb w' q A n c f size mo G j) ∧ (((j < n → M * 32 ≤ f j ∧ f j < M * 32 + 31) ∧ r = .returned (.tuple #[])) ∨ (j < n ∧ ¬ (M * 32 ≤ f j ∧ f j < M * 32 + 31) ∧ r = .panicked [{ v := rfV (j : Int) 4, recovered := false }]))) := Lib.hid fun W' j hh => begins_any hh M hM
  have C3 : Hid (∀ W' j, Rdb W' q A n c f size mo G j → Calls Tryz.prog 109 #[.pointer (some ⟨q, 0, none⟩)] W' (RAns q A n c f size mo G stV (hdr f n j) W')) := Lib.hid fun W' j hh => start_any hh
  have C4 : Hid (∀ W' j s2, Rdb W' q A n c f size mo G j → s2.p ≤ j → (s2.M = 2 ∨ s2.M = 3) → s2.v < 18446744073709551616 → Calls Tryz.prog 146 #[.pointer (some ⟨q, 0, none⟩), stV s2] W' (RAns q A n c f size mo G (fun b => .string b) (pcR size s2 f n j) W')) := Lib.hid fun W' j s2 hh h1 h2 h3 => piece_any hh s2 h1 h2 h3
  have HH : Hid (∀ j s2 k, hdr f n j = .ok s2 k → s2.p = j ∧ j < k ∧ k ≤ n ∧ j < n ∧ s2.M = f j / 32 ∧ s2.v < 18446744073709551616) := Lib.hid fun j s2 k hh => by
    obtain ⟨_, _, a1, a2, _, _, a3, a4, a5, _⟩ := hdr_ok hh
    exact ⟨a1, a4, a5, a3, a2, (hdr_num (fun j _ => h.hf j) hh).2.1⟩
  have HP : Hid (∀ j s2 k, hdr f n j = .ok s2 k → s2.M = M → pce size M f n j = pcR size s2 f n k) := Lib.hid fun j s2 k hh hM2 => by
    unfold pce pcR
    rw [bind_ok hh, hM2]
  have HPN : Hid (∀ j p e, hdr f n j = .no p e → pce size M f n j = .no p e) := Lib.hid fun j p e hh => bind_no hh
  have HKN : Hid (∀ k s2 b k3, k ≤ n → pcR size s2 f n k = .ok b k3 → k ≤ k3 ∧ k3 ≤ n ∧ b.size + k = k3) := Lib.hid fun k s2 b k3 hk hh => by
    unfold pcR at hh
    obtain ⟨u, k', d1, d2⟩ := bind_to hh
    obtain ⟨_, rfl⟩ := bnd_ok d1
    obtain ⟨e1, e2, e3, _⟩ := byt_ok hk d2
    rw [e2, pc_size]
    omega
  have HOE : Hid (∀ acc j, j < n → f j = 255 → lp (fun acc => pk (pcb size M acc)) acc f n j = .ok acc (j + 1)) := Lib.hid fun acc j h1 h2 => open_end h1 h2
  have HOB : Hid (∀ acc j, j < n → f j ≠ 255 → ¬ (M * 32 ≤ f j ∧ f j < M * 32 + 31) → lp (fun acc => pk (pcb size M acc)) acc f n j = .no j 4) := Lib.hid fun acc j h1 h2 h3 => open_bad h1 h2 h3
  have HOP : Hid (∀ acc j, j ≤ n → ¬ (j < n ∧ f j = 255) → (j < n → M * 32 ≤ f j ∧ f j < M * 32 + 31) → (∀ p e, pce size M f n j = .no p e → lp (fun acc => pk (pcb size M acc)) acc f n j = .no p e) ∧ (∀ b k, pce size M f n j = .ok b k → lp (fun acc => pk (pcb size M acc)) acc f n j = lp (fun acc => pk (pcb size M acc)) (acc ++ b) f n k)) := Lib.hid fun acc j h1 h2 h3 => open_pce h1 h2 h3
  obtain ⟨i0, hi0, hz0, hz1, hz2⟩ := info_parts infoW8
  have hi := h.i
  obtain ⟨L, hL⟩ : ∃ L : ByteArray → Nat → Rs ByteArray, L = fun acc j => lp (fun acc => pk (pcb size M acc)) acc f n j := ⟨_, rfl⟩
  have eL : ∀ acc j, lp (fun acc => pk (pcb size M acc)) acc f n j = L acc j := fun acc j => by rw [hL]
  simp only [eL] at HOE HOB HOP ⊢
  have HI : Hid (Stp q W W1 ∧ Rdb W1 q A n c f size mo G i) := Lib.hid ⟨HS.out, h1⟩
  have HO0 : Hid (Sow W1 q (.slice none 0 0) ⟨#[]⟩ W1) := Lib.hid ⟨World.ownsRow_nil _ _ _ _⟩
  have hne : (((31 : Nat) : Int) != 31) = false := by decide
  have HADJ : Hid (adj mo 4 = 4) := Lib.hid (by unfold adj; rw [if_neg (by omega)])
  have HAP : Hid (∀ (w5 w6 : World) (T : ByteArray) (A6 : Option Addr) (c6 k3 : Nat), Stp q W w5 → Stp q W1 w5 → Rdb w5 q A n c f size mo G k3 → Below W1.heap.size w5 w6 → w6.ownsRow W1.heap.size 5 1 (.slice A6 T.size c6) T.size (Lib.byteCells T.data.toList) → L ⟨#[]⟩ i = L T k3 → Sow W1 q (.slice A6 T.size c6) T w6 ∧ Stp q W w6 ∧ Stp q W1 w6 ∧ Rdb w6 q A n c f size mo G k3 ∧ L ⟨#[]⟩ i = L T k3) := Lib.hid fun w5 w6 T A6 c6 k3 g1 g2 g3 g4 g5 g6 => by
    have g7 : Stp q W1 w6 := ⟨g4.os.trans g2.os, g4.tape.trans g2.tape, g4.output.trans g2.output, Nat.le_trans g2.size g4.size, fun _ h => h, fun _ h => h.elim, fun b hb ho he => (g4.block b hb).trans (g2.kept b hb ho he)⟩
    have g8 : q < W1.heap.size := HI.out.2.b.lt
    refine ⟨⟨g5⟩, HI.out.1.trans g7, g7, ⟨(g4.block q g8).trans g3.b, fun hn => ?_, g3.x, g3.nc, g3.sz, g3.i, g3.hf⟩, g6⟩
    obtain ⟨b, off, e, hb, _⟩ := HI.out.2.a hn
    obtain ⟨b', off', e', hb', hc'⟩ := g3.a hn
    rw [e] at e'
    injection e' with e'
    injection e' with e' eo
    subst e' eo
    refine ⟨b, off, e, Nat.lt_of_lt_of_le hb' g4.size, fun j hj => ?_⟩
    rw [← hc' j hj]
    exact g4.cell (p := ⟨b, off + j, none⟩) hb
  have HQ1 : Hid (q < W1.heap.size) := Lib.hid h1.b.lt
  have HWS := Lib.hid hb1.size
  clear h h1 hb1 hk1 hR hL eL HS
  go_enter Tryz.func111, Tryz.ntmps111
  go_upto_region 1 with fail
  first | rw [hW1] | skip
  clear hW1
  go_wp2_with fail
  go_loopg [5] (n - i) (fun k s5 wr => ∃ (acc : ByteArray) (j : Nat) (Av : Option Addr) (cv : Nat), s5 = .slice Av acc.size cv ∧ k = n - j ∧ j ≤ n ∧ acc.size ≤ j ∧ Hid (Sow W1 q (.slice Av acc.size cv) acc wr ∧ Stp q W wr ∧ Stp q W1 wr ∧ Rdb wr q A n c f size mo G j ∧ L ⟨#[]⟩ i = L acc j))
  case atStart => exact ⟨⟨#[]⟩, i, none, 0, rfl, rfl, hi, Nat.zero_le _, Lib.hid ⟨HO0.out, HI.out.1, .refl _ _, HI.out.2, rfl⟩⟩
  case round =>
    obtain ⟨acc, j, Av, cv, rfl, hg, hj, haj, hI⟩ := hrel
    have k1 := (HK.out wr hI.out.2.2.1).c4
    go_wp2_with fail
    with_reducible refine (C1.out wr j hI.out.2.2.2.1).mono ?_
    rintro r w2 ⟨hs2, ⟨hlt, h255, rfl, h2⟩ | ⟨hno, rfl, h2⟩⟩
    · -- the end
      have hcv := conv_list (L := acc.data.toList) (n := acc.size) (ba_len acc).symm (hI.out.1.stp hs2 HQ1.out).o
      have hacc : (⟨acc.data.toList.toArray⟩ : ByteArray) = acc := rfl
      rw [hacc] at hcv
      have HF := Lib.hid (And.intro (hI.out.2.1.trans hs2) (And.intro h2 (hI.out.2.2.2.2.trans (HOE.out acc j hlt h255))))
      clear hs2 h2 k1
      go_wp2_with fail
      go_ret
      exact ⟨HF.out.1, .inl ⟨acc, j + 1, HF.out.2.2, rfl, HF.out.2.1⟩⟩
    · have s2W := hI.out.2.2.1.trans hs2
      have k2 := (HK.out w2 s2W).c4
      have HA := Lib.hid (And.intro (hI.out.2.1.trans hs2) (And.intro s2W (And.intro h2 (hI.out.1.stp hs2 HQ1.out))))
      have HNO := Lib.hid hno
      clear hs2 h2 k1 s2W hno
      go_wp2_with fail
      with_reducible refine (C2.out w2 j HA.out.2.2.1).mono ?_
      rintro r w3 ⟨⟨hs3, h3⟩, ⟨hr3, rfl⟩ | ⟨hlt, hno3, rfl⟩⟩
      · have HA3 := Lib.hid (And.intro (HA.out.1.trans hs3) (And.intro (HA.out.2.1.trans hs3) (And.intro h3 (HA.out.2.2.2.stp hs3 HQ1.out))))
        have HR3 := Lib.hid (HOP.out acc j hj HNO.out hr3)
        have HRM := Lib.hid hr3
        clear hs3 h3 k2 HA hr3
        go_wp2_with fail
        with_reducible refine (C3.out w3 j HA3.out.2.2.1).mono ?_
        rintro r w4 ⟨hs4, ⟨s2, k2, hh, rfl, h4⟩ | ⟨p', e', hh, rfl⟩⟩
        · obtain ⟨a1, a2, a3, a4, a5, a6⟩ := HH.out j s2 k2 hh
          have hM2 : s2.M = M := by have := HRM.out a4; omega
          have hpe := HP.out j s2 k2 hh hM2
          have HA4 := Lib.hid (And.intro (HA3.out.1.trans hs4) (And.intro (HA3.out.2.1.trans hs4) (And.intro h4 (HA3.out.2.2.2.stp hs4 HQ1.out))))
          have H4 := Lib.hid (C4.out w4 k2 s2 h4 (by omega) (by rw [hM2]; exact hM) a6)
          have HPE := Lib.hid hpe
          obtain ⟨sv, hsv⟩ : ∃ sv, stV s2 = sv := ⟨_, rfl⟩
          rw [hsv] at H4 ⊢
          clear hs4 h4 HA3 hpe hsv
          go_wp2_with fail
          with_reducible refine H4.out.mono ?_
          rintro r w5 ⟨hs5, ⟨b, k3, hb5, rfl, h5⟩ | ⟨p', e', hb5, rfl⟩⟩
          · obtain ⟨c1, c2, c3⟩ := HKN.out k2 s2 b k3 a3 hb5
            have hown := (HA4.out.2.2.2.stp hs5 HQ1.out).o
            have hsz1 : W1.heap.size ≤ w5.heap.size := (HA4.out.2.1.trans hs5).size
            have HLE := Lib.hid (hI.out.2.2.2.2.trans (HR3.out.2 b k3 (HPE.out.trans hb5)))
            have HA5 := Lib.hid (And.intro (HA4.out.1.trans hs5) (And.intro (HA4.out.2.1.trans hs5) h5))
            clear hs5 h5 HA4 H4
            go_wp2_with (at_builtin; refine wpList_appS rfl (.tmp 19) (.tmp 23) _ _ rfl W1.heap.size 5 i0 Tryz.underlying28 Tryz.underlying9 hi0 hz0 hz1 hz2 _ acc.size acc.data.toList rfl hown b rfl (by omega) hsz1 ?_; intro v6 w6 hown6 hb6)
            obtain ⟨A6, c6, rfl, _, _, _⟩ := rd_list (L := acc.data.toList ++ b.data.toList) (n := acc.size + b.size) (by rw [List.length_append, ba_len, ba_len]) hown6
            have hsz2 : acc.size + b.size = (acc ++ b).size := by rw [ByteArray.size_append]
            have hcat : acc.data.toList ++ b.data.toList = (acc ++ b).data.toList := by rw [ByteArray.data_append, Array.toList_append]
            rw [hsz2, hcat] at hown6
            have HA6 : Hid (Sow W1 q (.slice A6 (acc ++ b).size c6) (acc ++ b) w6 ∧ Stp q W w6 ∧ Stp q W1 w6 ∧ Rdb w6 q A n c f size mo G k3 ∧ L ⟨#[]⟩ i = L (acc ++ b) k3) := Lib.hid (HAP.out w5 w6 (acc ++ b) A6 c6 k3 HA5.out.1 HA5.out.2.1 HA5.out.2.2 hb6 hown6 HLE.out)
            clear hown hown6 hb6 HA5 HLE
            go_wp2_with fail
            go_roundg (n - k3)
            case measure => omega
            case rel => exact ⟨acc ++ b, k3, A6, c6, by rw [hsz2], rfl, c2, by rw [← hsz2]; omega, HA6⟩
          · have HF := Lib.hid (And.intro (HA4.out.1.trans hs5) (hI.out.2.2.2.2.trans (HR3.out.1 p' e' (HPE.out.trans hb5))))
            clear hs5 HA4 H4
            go_wp2_with fail
            exact ⟨rfl, HF.out.1, .inr ⟨p', e', HF.out.2, rfl⟩⟩
        · have HF := Lib.hid (And.intro (HA3.out.1.trans hs4) (hI.out.2.2.2.2.trans (HR3.out.1 p' e' (HPN.out j p' e' hh))))
          clear hs4 HA3
          go_wp2_with fail
          exact ⟨rfl, HF.out.1, .inr ⟨p', e', HF.out.2, rfl⟩⟩
      · have HF := Lib.hid (And.intro (HA.out.1.trans hs3) (hI.out.2.2.2.2.trans (HOB.out acc j hlt (fun h => HNO.out ⟨hlt, h⟩) hno3)))
        clear hs3 h3 k2 HA hno3 hlt
        go_wp2_with fail
        refine ⟨rfl, HF.out.1, .inr ⟨j, 4, HF.out.2, ?_⟩⟩
        rw [HADJ.out]
        rfl
theorem stretch_any (h : Rdb W q A n c f size mo G i) (s : Hdr) (hp : s.p ≤ i) (hM : s.M = 2 ∨ s.M = 3) (hv : s.v < 18446744073709551616) (hx : s.x ≤ 27 ∨ s.x = 31) :
    Calls Tryz.prog 111 #[.pointer (some ⟨q, 0, none⟩), stV s] W (RAns q A n c f size mo G (fun b => .string b) (str size s f n i) W) := by
  rcases hx with hx | hx
  · exact stretch_len h s hp hM hv (by omega) (by omega)
  · exact stretch_open h s hM hx
end
end Go.Proofs.YtpcladdipgchbaaGreatDoor.nn
namespace Go.Proofs.YtpcladdipgchbaaGreatDoor.nn
open Go.RowKit

set_option maxRecDepth 100000 in
set_option maxHeartbeats 2000000 in
theorem caught_big (c1 c2 : Value) (Q : World → Prop) (Q' : Int → Int → World → Prop) (w : World) (hw : Calls Tryz.prog 189 #[c1, c2] (ctW w) (WkAns Q Q')) (hQ : ∀ W, Q W → ctK w W) (hQ' : ∀ p n W, Q' p n W → ctK w W) :
    Calls Tryz.prog 34 #[.func (.func 189) #[] #[c1, c2]] w (CtAns Q Q' w) := by
  have hmf : ∀ (fn : Fn) (first cap : Array Value) (w : World), (Instr.makeFunc fn first cap).run Tryz.prog w = .ok (.func fn first cap) w := fun _ _ _ _ => rfl
  have HW := Lib.hid hw
  have HQ := Lib.hid hQ
  have HQ' := Lib.hid hQ'
  unfold ctW at HW
  clear hw hQ hQ'
  go_enter_defers Tryz.func34, Tryz.ntmps34
  go_wp2_with fail
  refine HW.out.mono ?_
  rintro e W (⟨rfl, hq⟩ | ⟨p, n, rfl, hq⟩)
  · obtain ⟨k0, k1, _⟩ := HQ.out _ hq
    have c0 : W.cell? ⟨w.heap.size, 0, none⟩ = some (.int .i64 0) := cell_of_row _ _ 0 _ _ _ k0
    have c1' : W.cell? ⟨w.heap.size + 1, 0, none⟩ = some (.int .i64 0) := cell_of_row _ _ 0 _ _ _ k1
    have f0 : W.frozen? ⟨w.heap.size, 0, none⟩ = false := by simp [World.frozen?, k0]
    have f1 : W.frozen? ⟨w.heap.size + 1, 0, none⟩ = false := by simp [World.frozen?, k1]
    have HH := Lib.hid hq
    clear hq k0 k1
    go_wp2_with fail
    refine leaves_cons (f := 56) (args := #[.pointer (some ⟨w.heap.size, 0, none⟩), .pointer (some ⟨w.heap.size + 1, 0, none⟩)]) (by simp) (by simp [go_sem]) ?_
    refine (caught_idle w.heap.size _).mono ?_
    rintro e u' w'' ⟨rfl, rfl, rfl⟩
    simp [Leaves, settle, results, Tryz.results34, go_sem, c0, c1']
    exact ⟨0, 0, W, W, rfl, .inl ⟨HH.out, rfl, rfl, rfl⟩, rfl⟩
  · obtain ⟨k0, k1, kl⟩ := HQ'.out _ _ _ hq
    have c0 : W.cell? ⟨w.heap.size, 0, none⟩ = some (.int .i64 0) := cell_of_row _ _ 0 _ _ _ k0
    have c1' : W.cell? ⟨w.heap.size + 1, 0, none⟩ = some (.int .i64 0) := cell_of_row _ _ 0 _ _ _ k1
    have f0 : W.frozen? ⟨w.heap.size, 0, none⟩ = false := by simp [World.frozen?, k0]
    have f1 : W.frozen? ⟨w.heap.size + 1, 0, none⟩ = false := by simp [World.frozen?, k1]
    go_wp2_with fail
    refine leaves_cons (f := 56) (args := #[.pointer (some ⟨w.heap.size, 0, none⟩), .pointer (some ⟨w.heap.size + 1, 0, none⟩)]) (by simp) (by simp [go_sem]) ?_
    refine (caught_rec w.heap.size p n _ _ [] W kl c0 c1' f0 f1).mono ?_
    rintro e u' w'' ⟨rfl, rfl, w1, hb, rfl⟩
    have d0 : w1.cell? ⟨w.heap.size, 0, none⟩ = some (.int .i64 0) := (hb.cell (p := ⟨w.heap.size, 0, none⟩) (lt_of_block k0)).trans c0
    have d1 : w1.cell? ⟨w.heap.size + 1, 0, none⟩ = some (.int .i64 0) := (hb.cell (p := ⟨w.heap.size + 1, 0, none⟩) (lt_of_block k1)).trans c1'
    simp [Leaves, settle, results, Tryz.results34, go_sem, d0, d1]
    exact ⟨p, n, W, w1, rfl, .inr ⟨hq, hb⟩, rfl⟩
set_option maxRecDepth 100000 in
set_option maxHeartbeats 2000000 in
theorem caught_whole (c1 : Value) (Q : World → Prop) (Q' : Int → Int → World → Prop) (w : World) (hw : Calls Tryz.prog 40 #[c1] (ctW w) (WkAns Q Q')) (hQ : ∀ W, Q W → ctK w W) (hQ' : ∀ p n W, Q' p n W → ctK w W) :
    Calls Tryz.prog 34 #[.func (.func 40) #[c1] #[]] w (CtAns Q Q' w) := by
  have hmf : ∀ (fn : Fn) (first cap : Array Value) (w : World), (Instr.makeFunc fn first cap).run Tryz.prog w = .ok (.func fn first cap) w := fun _ _ _ _ => rfl
  have HW := Lib.hid hw
  have HQ := Lib.hid hQ
  have HQ' := Lib.hid hQ'
  unfold ctW at HW
  clear hw hQ hQ'
  go_enter_defers Tryz.func34, Tryz.ntmps34
  go_wp2_with fail
  refine HW.out.mono ?_
  rintro e W (⟨rfl, hq⟩ | ⟨p, n, rfl, hq⟩)
  · obtain ⟨k0, k1, _⟩ := HQ.out _ hq
    have c0 : W.cell? ⟨w.heap.size, 0, none⟩ = some (.int .i64 0) := cell_of_row _ _ 0 _ _ _ k0
    have c1' : W.cell? ⟨w.heap.size + 1, 0, none⟩ = some (.int .i64 0) := cell_of_row _ _ 0 _ _ _ k1
    have f0 : W.frozen? ⟨w.heap.size, 0, none⟩ = false := by simp [World.frozen?, k0]
    have f1 : W.frozen? ⟨w.heap.size + 1, 0, none⟩ = false := by simp [World.frozen?, k1]
    have HH := Lib.hid hq
    clear hq k0 k1
    go_wp2_with fail
    refine leaves_cons (f := 56) (args := #[.pointer (some ⟨w.heap.size, 0, none⟩), .pointer (some ⟨w.heap.size + 1, 0, none⟩)]) (by simp) (by simp [go_sem]) ?_
    refine (caught_idle w.heap.size _).mono ?_
    rintro e u' w'' ⟨rfl, rfl, rfl⟩
    simp [Leaves, settle, results, Tryz.results34, go_sem, c0, c1']
    exact ⟨0, 0, W, W, rfl, .inl ⟨HH.out, rfl, rfl, rfl⟩, rfl⟩
  · obtain ⟨k0, k1, kl⟩ := HQ'.out _ _ _ hq
    have c0 : W.cell? ⟨w.heap.size, 0, none⟩ = some (.int .i64 0) := cell_of_row _ _ 0 _ _ _ k0
    have c1' : W.cell? ⟨w.heap.size + 1, 0, none⟩ = some (.int .i64 0) := cell_of_row _ _ 0 _ _ _ k1
    have f0 : W.frozen? ⟨w.heap.size, 0, none⟩ = false := by simp [World.frozen?, k0]
    have f1 : W.frozen? ⟨w.heap.size + 1, 0, none⟩ = false := by simp [World.frozen?, k1]
    go_wp2_with fail
    refine leaves_cons (f := 56) (args := #[.pointer (some ⟨w.heap.size, 0, none⟩), .pointer (some ⟨w.heap.size + 1, 0, none⟩)]) (by simp) (by simp [go_sem]) ?_
    refine (caught_rec w.heap.size p n _ _ [] W kl c0 c1' f0 f1).mono ?_
    rintro e u' w'' ⟨rfl, rfl, w1, hb, rfl⟩
    have d0 : w1.cell? ⟨w.heap.size, 0, none⟩ = some (.int .i64 0) := (hb.cell (p := ⟨w.heap.size, 0, none⟩) (lt_of_block k0)).trans c0
    have d1 : w1.cell? ⟨w.heap.size + 1, 0, none⟩ = some (.int .i64 0) := (hb.cell (p := ⟨w.heap.size + 1, 0, none⟩) (lt_of_block k1)).trans c1'
    simp [Leaves, settle, results, Tryz.results34, go_sem, d0, d1]
    exact ⟨p, n, W, w1, rfl, .inr ⟨hq, hb⟩, rfl⟩
end Go.Proofs.YtpcladdipgchbaaGreatDoor.nn
namespace Go.Proofs.YtpcladdipgchbaaGreatDoor.nn
open Go.RowKit

/-- what is read ahead: a great number's bytes, and the place behind them -/
def lkR (size : Nat) (f : Nat → Nat) (n i : Nat) : Option (ByteArray × Nat) :=
  if i < n ∧ f i / 32 = 2 then (match byi size f n i with | .ok s k => if big s = true then some (s, k) else none | .no _ _ => none) else none
theorem lk_none {α : Type} {size : Nat} {f : Nat → Nat} {n i : Nat} (B : ByteArray → α) (T : Prs α) (h : lkR size f n i = none) : bgo size B T f n i = T f n i := by
  refine bgo_not fun h1 h2 s k hb => ?_
  unfold lkR at h
  rw [if_pos ⟨h1, h2⟩, hb] at h
  dsimp only at h
  cases hs : big s with
  | false => rfl
  | true => rw [if_pos hs] at h; cases h
theorem lk_some {α : Type} {size : Nat} {f : Nat → Nat} {n i k : Nat} {s : ByteArray} (B : ByteArray → α) (T : Prs α) (h : lkR size f n i = some (s, k)) : bgo size B T f n i = .ok (B s) k ∧ big s = true ∧ k ≤ n ∧ i ≤ k := by
  unfold lkR at h
  by_cases h0 : i < n ∧ f i / 32 = 2
  · rw [if_pos h0] at h
    cases hb : byi size f n i with
    | no q e => rw [hb] at h; cases h
    | ok s' k' =>
      rw [hb] at h
      dsimp only at h
      by_cases hs : big s' = true
      · rw [if_pos hs] at h
        injection h with h
        injection h with h1 h2
        subst h1 h2
        obtain ⟨b1, b2, _⟩ := (dt_byi size).ok (Nat.le_of_lt h0.1) hb
        exact ⟨bgo_big h0 hb hs, hs, b2, b1⟩
      · rw [if_neg hs] at h; cases h
  · rw [if_neg h0] at h; cases h
theorem lk_not {size : Nat} {f : Nat → Nat} {n i : Nat} (h : lkR size f n i = none) : i < n → f i / 32 = 2 → ∀ b k, byi size f n i = .ok b k → big b = false := fun h1 h2 b k hb => by
  unfold lkR at h
  rw [if_pos ⟨h1, h2⟩, hb] at h
  dsimp only at h
  cases hs : big b with
  | false => rfl
  | true => rw [if_pos hs] at h; cases h
theorem Laid.mv {W W' : World} {E O O' : Nat → Prop} (h : Laid W) (hm : Mv E O W O' W') (h0 : ¬ O 0) (hE : ¬ E 0) : Laid W' := by
  have hlt : 0 < W.heap.size := by
    rcases Nat.eq_zero_or_pos W.heap.size with h0 | h1
    · simp [Laid, World.cell?, h0] at h
    · exact h1
  have := hm.kept 0 hlt h0 hE
  unfold Laid at h ⊢
  rw [← h]
  simp only [World.cell?, this]
section
variable {W : World} {q : Nat} {A : Option Addr} {n c : Nat} {f : Nat → Nat} {size : Nat} {mo : Bool} {G : Value} {i : Nat}
/-- what the work of reading ahead answers; gb: the block of the bytes -/
def B1Ans (q gb : Nat) (A : Option Addr) (n c : Nat) (f : Nat → Nat) (size : Nat) (mo : Bool) (G : Value) (i : Nat) (W : World) (e : Ending) (W' : World) : Prop :=
  Mv (fun b => b = q ∨ b = gb) No W No W' ∧ ((∃ b k, e = .returned (.tuple #[]) ∧ Rdb W' q A n c f size mo G k ∧ Bk W' gb 9 #[.string b] ∧ ((i < n ∧ f i / 32 = 2 ∧ byi size f n i = .ok b k) ∨ (b = ⟨#[]⟩ ∧ ¬ (i < n ∧ f i / 32 = 2)))) ∨
    (∃ (p er : Nat), e = .panicked [{ v := rfV (p : Int) (er : Int), recovered := false }] ∧ er ≠ 0 ∧ (¬ (i < n ∧ f i / 32 = 2) ∨ ∃ p' e', byi size f n i = .no p' e')))
theorem adj_ne {mo : Bool} {e : Nat} (h : e ≠ 0) : adj mo e ≠ 0 := by unfold adj; split <;> omega
set_option maxRecDepth 100000 in
set_option maxHeartbeats 4000000 in
theorem big1_any (h : Rdb W q A n c f size mo G i) (gb : Nat) (hg : Bk W gb 9 #[.string ⟨#[]⟩]) (hne : gb ≠ q) (hx : ∀ b off, 0 < n → A = some ⟨b, off, none⟩ → b ≠ gb) :
    Calls Tryz.prog 189 #[.pointer (some ⟨q, 0, none⟩), .pointer (some ⟨gb, 0, none⟩)] W (B1Ans q gb A n c f size mo G i W) := by
  have HST := Lib.hid (start_any h)
  have HH : Hid (∀ s2 k, hdr f n i = .ok s2 k → s2.p = i ∧ i < k ∧ k ≤ n ∧ i < n ∧ s2.M = f i / 32 ∧ s2.v < 18446744073709551616 ∧ (s2.x ≤ 27 ∨ s2.x = 31) ∧ byi size f n i = str size s2 f n k) := Lib.hid fun s2 k hh => by
    obtain ⟨_, _, a1, a2, _, _, a3, a4, a5, a6⟩ := hdr_ok hh
    refine ⟨a1, a4, a5, a3, a2, (hdr_num (fun j _ => h.hf j) hh).2.1, a6, ?_⟩
    unfold byi
    exact bind_ok hh
  have HN : Hid (∀ p e, hdr f n i = .no p e → byi size f n i = .no p e ∧ e ≠ 0) := Lib.hid fun p e hh => ⟨bind_no hh, by have := (dt_hdr).err h.i hh; omega⟩
  have HS2 : Hid (∀ s2 p e k, k ≤ n → str size s2 f n k = .no p e → e ≠ 0) := Lib.hid fun s2 p e k hk hh => by have := (dt_str size s2).err hk hh; omega
  have hgl := hg.lt
  have hql := h.b.lt
  have HG : Hid (∀ W', Stp q W W' → Bk W' gb 9 #[.string ⟨#[]⟩]) := Lib.hid fun W' hs => (hs.block hgl hne).trans hg
  have HM : Hid (∀ W', Stp q W W' → Mv (fun b => b = q ∨ b = gb) No W No W') := Lib.hid fun W' hs => Mv.weak hs fun b hb => .inl hb
  -- the bytes are laid down
  have HP : Hid (∀ W' b k, Stp q W W' → Rdb W' q A n c f size mo G k → Mv (fun b => b = q ∨ b = gb) No W No (W'.setCell ⟨gb, 0, none⟩ (.string b)) ∧ Rdb (W'.setCell ⟨gb, 0, none⟩ (.string b)) q A n c f size mo G k ∧ Bk (W'.setCell ⟨gb, 0, none⟩ (.string b)) gb 9 #[.string b]) := Lib.hid fun W' b k hs hr => by
    have hk : ∀ b2, b2 ≠ gb → (W'.setCell ⟨gb, 0, none⟩ (.string b)).heap[b2]? = W'.heap[b2]? := fun b2 h2 => Below.heap_setCell _ _ _ _ h2
    refine ⟨⟨hs.os, hs.tape, hs.output, by rw [setCell_sz]; exact hs.size, fun _ h => h, fun _ h => h.elim, fun b2 hb2 ho he => (hk b2 (fun e => he (.inr e))).trans (hs.kept b2 hb2 ho (fun e => he (.inl e)))⟩, ⟨(hk q (fun e => hne e.symm)).trans hr.b, fun hn => ?_, hr.x, hr.nc, hr.sz, hr.i, hr.hf⟩, (HG.out W' hs).set_ 0 _⟩
    obtain ⟨b', off', e', hb', hc'⟩ := hr.a hn
    refine ⟨b', off', e', by rw [setCell_sz]; exact hb', fun j hj => ?_⟩
    rw [← hc' j hj]
    simp only [World.cell?, hk b' (hx b' off' hn e')]
  clear h hg
  go_enter Tryz.func189, Tryz.ntmps189
  go_wp2_with fail
  with_reducible refine HST.out.mono ?_
  rintro r w2 ⟨hs2, ⟨s2, k2, hh, rfl, h2⟩ | ⟨p', e', hh, rfl⟩⟩
  · obtain ⟨a1, a2, a3, a4, a5, a6, a7, a8⟩ := HH.out s2 k2 hh
    have HSE := Lib.hid (HS2.out s2)
    have hgs := hs2.size
    obtain ⟨W3, hW3⟩ : ∃ W3, w2.alloc (.cells #[.int .i64 (s2.p : Int), .int .i64 (s2.M : Int), .int .i64 (s2.x : Int), .int .u64 (s2.v : Int)] 156) = W3 := ⟨_, rfl⟩
    have hb3 : Below w2.heap.size w2 W3 := by rw [← hW3]; exact (Below.refl _ _).alloc (Nat.le_refl _) _
    have k5 : Bk W3 w2.heap.size 156 #[.int .i64 (s2.p : Int), .int .i64 (s2.M : Int), .int .i64 (s2.x : Int), .int .u64 (s2.v : Int)] := by rw [← hW3]; exact heap_alloc_last _ _
    have h3 := h2.below hb3
    have s3 := hs2.trans (.of_below hb3)
    have H4 : Hid (s2.M = 2 → Calls Tryz.prog 111 #[.pointer (some ⟨q, 0, none⟩), stV s2] W3 (RAns q A n c f size mo G (fun b => .string b) (str size s2 f n k2) W3)) := Lib.hid fun hM => stretch_any h3 s2 (by omega) (.inl hM) a6 a7
    obtain ⟨o0, o1, o2, o3⟩ := k5.c4
    obtain ⟨p, M, x, v⟩ := s2
    unfold stV at H4 ⊢
    dsimp only at a5 a8 hW3 H4 o0 o1 o2 o3 ⊢
    have H3 := Lib.hid (And.intro s3 h3)
    have HBY := Lib.hid a8
    have HA := Lib.hid (And.intro a4 a5)
    clear hs2 h2 hb3 k5 h3 s3 hh HST a8 a1 a5 a4 a7
    by_cases hM : M = 2
    · have H9 := Lib.hid (H4.out hM)
      have hne2 : ((M : Int) == 2) = true := by simp; omega
      have HM2 := Lib.hid hM
      clear H4 hM
      go_upto_region 1 with fail
      first | rw [hW3] | skip
      clear hW3
      go_wp2_with fail
      with_reducible refine H9.out.mono ?_
      rintro r w5 ⟨hs5, ⟨b, k3, hb5, rfl, h5⟩ | ⟨p', e', hb5, rfl⟩⟩
      · obtain ⟨hp1, hp2, hp3⟩ := HP.out w5 b k3 (H3.out.1.trans hs5) h5
        have hgk := (HG.out w5 (H3.out.1.trans hs5))
        have gc := hgk.cell 0
        have gf := hgk.frozen 0
        have HF := Lib.hid (And.intro hp1 (And.intro hp2 (And.intro hp3 (HBY.out.trans hb5))))
        clear hs5 h5 hp1 hp2 hp3 hgk
        go_wp2_with fail
        go_end0
        exact ⟨HF.out.1, .inl ⟨b, k3, rfl, HF.out.2.1, HF.out.2.2.1, .inl ⟨HA.out.1, HA.out.2.symm.trans HM2.out, HF.out.2.2.2⟩⟩⟩
      · have HF := Lib.hid (And.intro (HM.out w5 (H3.out.1.trans hs5)) (And.intro (adj_ne (mo := mo) (HSE.out p' e' k2 a3 hb5)) (HBY.out.trans hb5)))
        clear hs5
        go_wp2_with fail
        exact ⟨rfl, HF.out.1, .inr ⟨p', adj mo e', rfl, HF.out.2.1, .inr ⟨p', e', HF.out.2.2⟩⟩⟩
    · have hne2 : ((M : Int) == 2) = false := by simp; omega
      have hno : ¬ (i < n ∧ f i / 32 = 2) := fun h => hM (HA.out.2.trans h.2)
      have HF := Lib.hid (And.intro (HM.out _ H3.out.1) (And.intro H3.out.2 (And.intro (HG.out _ H3.out.1) hno)))
      clear hno H4
      go_upto_region 1 with fail
      first | rw [hW3] | skip
      clear hW3
      go_wp2_with fail
      go_end0
      exact ⟨HF.out.1, .inl ⟨⟨#[]⟩, k2, rfl, HF.out.2.1, HF.out.2.2.1, .inr ⟨rfl, HF.out.2.2.2⟩⟩⟩
  · obtain ⟨b1, b2⟩ := HN.out p' e' hh
    have HF := Lib.hid (And.intro (HM.out w2 hs2) (And.intro (adj_ne (mo := mo) b2) b1))
    clear hs2 hh b1
    go_wp2_with fail
    exact ⟨rfl, HF.out.1, .inr ⟨p', adj mo e', rfl, HF.out.2.1, .inr ⟨p', e', HF.out.2.2⟩⟩⟩
end
end Go.Proofs.YtpcladdipgchbaaGreatDoor.nn
namespace Go.Proofs.YtpcladdipgchbaaGreatDoor.nn
open Go.RowKit

section
variable {W : World} {q : Nat} {A : Option Addr} {n c : Nat} {f : Nat → Nat} {size : Nat} {mo : Bool} {g : Nat} {i : Nat}
/-- what caught leaves of the work of reading ahead; the copy in block a, the bytes in block a + 1 -/
def CbAns (W : World) (A : Option Addr) (n c : Nat) (f : Nat → Nat) (size : Nat) (mo : Bool) (g i : Nat) (e : Ending) (w' : World) : Prop :=
  Below W.heap.size W w' ∧ ((∃ b k, e = .returned (.tuple #[.int .i64 0, .int .i64 0]) ∧ k ≤ n ∧ Bk w' W.heap.size 70 #[.slice A n c, .int .i64 (k : Int), .int .i64 (size : Int), .bool mo, .pointer (some ⟨g, 0, none⟩)] ∧ Bk w' (W.heap.size + 1) 9 #[.string b] ∧ ((i < n ∧ f i / 32 = 2 ∧ byi size f n i = .ok b k) ∨ (b = ⟨#[]⟩ ∧ ¬ (i < n ∧ f i / 32 = 2)))) ∨
    (∃ (p er : Int), e = .returned (.tuple #[.int .i64 p, .int .i64 er]) ∧ er ≠ 0 ∧ (¬ (i < n ∧ f i / 32 = 2) ∨ ∃ p' e', byi size f n i = .no p' e')))
theorem caught_b1 (h : Rdb W q A n c f size mo (.pointer (some ⟨g, 0, none⟩)) i) (hl : Laid W) :
    Calls Tryz.prog 34 #[.func (.func 189) #[] #[.pointer (some ⟨W.heap.size, 0, none⟩), .pointer (some ⟨W.heap.size + 1, 0, none⟩)]] ((W.alloc (.cells #[.slice A n c, .int .i64 (i : Int), .int .i64 (size : Int), .bool mo, .pointer (some ⟨g, 0, none⟩)] 70)).alloc (.cells #[.string ⟨#[]⟩] 9)) (CbAns W A n c f size mo g i) := by
  obtain ⟨W0, hW0⟩ : ∃ W0, W.alloc (.cells #[.slice A n c, .int .i64 (i : Int), .int .i64 (size : Int), .bool mo, .pointer (some ⟨g, 0, none⟩)] 70) = W0 := ⟨_, rfl⟩
  obtain ⟨W1, hW1⟩ : ∃ W1, W0.alloc (.cells #[.string ⟨#[]⟩] 9) = W1 := ⟨_, rfl⟩
  have hb0 : Below W.heap.size W W0 := by rw [← hW0]; exact (Below.refl _ _).alloc (Nat.le_refl _) _
  have hz0 : W0.heap.size = W.heap.size + 1 := by rw [← hW0]; simp
  have hk0 : Bk W0 W.heap.size 70 #[.slice A n c, .int .i64 (i : Int), .int .i64 (size : Int), .bool mo, .pointer (some ⟨g, 0, none⟩)] := by rw [← hW0]; exact heap_alloc_last _ _
  have hb1 : Below W0.heap.size W0 W1 := by rw [← hW1]; exact (Below.refl _ _).alloc (Nat.le_refl _) _
  have hz1 : W1.heap.size = W.heap.size + 2 := by rw [← hW1]; simp; omega
  have hk1 : Bk W1 (W.heap.size + 1) 9 #[.string ⟨#[]⟩] := by rw [← hz0, ← hW1]; exact heap_alloc_last _ _
  have hb2 : Below W1.heap.size W1 (ctW W1) := ((Below.refl _ _).alloc (Nat.le_refl _) _).alloc (by simp) _
  have hbW : Below W.heap.size W (ctW W1) := (hb0.trans (hb1.mono hb0.size)).trans (hb2.mono (by omega))
  have hz2 : (ctW W1).heap.size = W.heap.size + 4 := by unfold ctW; simp; omega
  rw [hW0, hW1]
  have hr : Rdb (ctW W1) W.heap.size A n c f size mo (.pointer (some ⟨g, 0, none⟩)) i := by
    refine ⟨(hb2.block _ (by omega)).trans ((hb1.block _ (by omega)).trans hk0), h.a.below hbW, fun b off hn e => ?_, h.nc, h.sz, h.i, h.hf⟩
    have := h.a.lt e hn
    omega
  have hs : Bk (ctW W1) (W.heap.size + 1) 9 #[.string ⟨#[]⟩] := (hb2.block _ (by omega)).trans hk1
  have hc0 : (ctW W1).heap[W1.heap.size]? = some (.cells #[.int .i64 0] 3 (0, 0)) := by
    unfold ctW
    rw [Below.heap_alloc _ _ _ (by simp)]
    exact heap_alloc_last _ _
  have hc1 : (ctW W1).heap[W1.heap.size + 1]? = some (.cells #[.int .i64 0] 29 (0, 0)) := by
    unfold ctW
    have := heap_alloc_last (W1.alloc (.cells #[.int .i64 0] 3)) (.cells #[.int .i64 0] 29)
    simpa using this
  have hl2 : Laid (ctW W1) := hl.below hbW
  have h0 : 0 < W.heap.size := by have := h.b.lt; omega
  have key : ∀ W', Mv (fun b => b = W.heap.size ∨ b = W.heap.size + 1) No (ctW W1) No W' → ctK W1 W' ∧ Below W.heap.size W W' := fun W' hm =>
    ⟨⟨(hm.kept _ (by omega) (fun h => h) (by omega)).trans hc0, (hm.kept _ (by omega) (fun h => h) (by omega)).trans hc1, hl2.mv hm (fun h => h) (by omega)⟩,
      ⟨hm.os.trans hbW.os, hm.tape.trans hbW.tape, hm.output.trans hbW.output, Nat.le_trans hbW.size hm.size, fun b hb => (hm.kept b (by omega) (fun h => h) (by omega)).trans (hbW.block b hb)⟩⟩
  refine (caught_big _ _ (fun W' => ∃ b k, (Rdb W' W.heap.size A n c f size mo (.pointer (some ⟨g, 0, none⟩)) k ∧ Bk W' (W.heap.size + 1) 9 #[.string b] ∧ ((i < n ∧ f i / 32 = 2 ∧ byi size f n i = .ok b k) ∨ (b = ⟨#[]⟩ ∧ ¬ (i < n ∧ f i / 32 = 2)))) ∧ ctK W1 W' ∧ Below W.heap.size W W')
    (fun _ er W' => (er ≠ 0 ∧ (¬ (i < n ∧ f i / 32 = 2) ∨ ∃ p' e', byi size f n i = .no p' e')) ∧ ctK W1 W' ∧ Below W.heap.size W W') W1 ?_ (fun W' ⟨_, _, _, h2, _⟩ => h2) (fun _ _ W' ⟨_, h2, _⟩ => h2)).mono ?_
  · refine (big1_any hr (W.heap.size + 1) hs (by omega) (fun b off hn e => by have := h.a.lt e hn; omega)).mono fun e W' ⟨hm, ha⟩ => ?_
    have hk := key W' hm
    rcases ha with ⟨b, k, he, a1, a2, a3⟩ | ⟨p, er, he, a1, a2⟩
    · exact .inl ⟨he, b, k, ⟨a1, a2, a3⟩, hk⟩
    · exact .inr ⟨(p : Int), (er : Int), he, ⟨by omega, a2⟩, hk⟩
  · rintro e w' ⟨p, nn, W', w1, he, hh, rfl⟩
    rcases hh with ⟨⟨b, k, ⟨a1, a2, a3⟩, a4, a5⟩, rfl, rfl, rfl⟩ | ⟨⟨⟨a1, a2⟩, a3, a4⟩, a5⟩
    · refine ⟨ct_below a5 (by omega) rfl, .inl ⟨b, k, he, a1.i, ?_, ?_, a3⟩⟩
      · unfold Bk
        rw [ct_block (by omega) (by omega)]
        exact a1.b
      · unfold Bk
        rw [ct_block (by omega) (by omega)]
        exact a2
    · exact ⟨ct_below (a4.trans (a5.mono a4.size)) (by omega) rfl, .inr ⟨p, nn, he, a1, a2⟩⟩
theorem str_size {size : Nat} {s : Hdr} {f : Nat → Nat} {n i k : Nat} {b : ByteArray} (hi : i ≤ n) (h : str size s f n i = .ok b k) : b.size + i ≤ k := by
  unfold str at h
  split at h
  · refine lp_inv6 (bdy_pcs size s.M) (fun a j => a.size + i ≤ j) (fun a j => a.size + i ≤ j) (fun {a j a' l} hj ha h1 => ?_) (fun {a j a' l} hj ha h1 => ?_) hi (by show (⟨#[]⟩ : ByteArray).size + i ≤ i; exact Nat.le_of_eq (Nat.zero_add i)) h
    · rcases pcb_ok h1 with ⟨e, _⟩ | ⟨s', e, h2⟩
      · cases e
      · injection e with e
        subst e
        obtain ⟨s2, j', d1, d2⟩ := bind_to h2
        obtain ⟨u, j2, d3, d4⟩ := bind_to d2
        obtain ⟨_, rfl⟩ := bnd_ok d3
        have hh := hdr_ok d1
        obtain ⟨e1, e2, e3, _⟩ := byt_ok hh.2.2.2.2.2.2.2.2.1 d4
        rw [ByteArray.size_append, e2, pc_size]
        have := hh.2.2.2.2.2.2.2.1
        omega
    · rcases pcb_ok h1 with ⟨e, h2⟩ | ⟨s', e, h2⟩
      · injection e with e
        subst e
        omega
      · cases e
  · obtain ⟨u, j2, d3, d4⟩ := bind_to h
    obtain ⟨_, rfl⟩ := bnd_ok d3
    obtain ⟨e1, e2, e3, _⟩ := byt_ok hi d4
    rw [e2, pc_size]
    omega
theorem byi_size {size : Nat} {f : Nat → Nat} {n i k : Nat} {b : ByteArray} (h : byi size f n i = .ok b k) : b.size ≤ n := by
  obtain ⟨s2, j', d1, d2⟩ := bind_to h
  have hh := hdr_ok d1
  have h1 := str_size hh.2.2.2.2.2.2.2.2.1 d2
  have h2 := ((dt_str size s2).ok hh.2.2.2.2.2.2.2.2.1 d2).2.1
  omega
theorem chk_big (b : ByteArray) : (big b = true → chk (.mk 5 false 0 b []) = 0) ∧ (big b = false → chk (.mk 5 false 0 b []) ≠ 0) := by
  have hd : dep (.mk 5 false 0 b []) = 1 := rfl
  have hc : cnt (.mk 5 false 0 b []) = 1 := rfl
  have hr : rgt (.mk 5 false 0 b []) = big b := by
    show ((true && big b) && (!(lf 5) || true) && true) = big b
    cases big b <;> rfl
  unfold chk
  rw [hd, hc, hr, if_neg (by omega)]
  refine ⟨fun h => by rw [if_pos h], fun h => ?_⟩
  rw [if_neg (by rw [h]; decide)]
  decide
set_option maxRecDepth 100000 in
set_option maxHeartbeats 4000000 in
theorem big_any (h : Rdb W q A n c f size mo (.pointer (some ⟨g, 0, none⟩)) i) (hl : Laid W) :
    Calls Tryz.prog 151 #[.pointer (some ⟨q, 0, none⟩)] W fun r W' => Stp q W W' ∧ ((∃ b k, lkR size f n i = some (b, k) ∧ r = .returned (.tuple #[.string b, .bool true]) ∧ Rdb W' q A n c f size mo (.pointer (some ⟨g, 0, none⟩)) k) ∨ (lkR size f n i = none ∧ r = .returned (.tuple #[.string ⟨#[]⟩, .bool false]) ∧ Rdb W' q A n c f size mo (.pointer (some ⟨g, 0, none⟩)) i)) := by
  have hmf : ∀ (fn : Fn) (first cap : Array Value) (w : World), (Instr.makeFunc fn first cap).run Tryz.prog w = .ok (.func fn first cap) w := fun _ _ _ _ => rfl
  have HC := Lib.hid (caught_b1 h hl)
  have HB : Hid (∀ W', Below W.heap.size W W' → Stp q W W' ∧ Rdb W' q A n c f size mo (.pointer (some ⟨g, 0, none⟩)) i) := Lib.hid fun W' hb => ⟨.of_below hb, h.below hb⟩
  have HLN : Hid ((¬ (i < n ∧ f i / 32 = 2) ∨ ∃ p' e', byi size f n i = .no p' e') → lkR size f n i = none) := Lib.hid fun hh => by
    unfold lkR
    by_cases h0 : i < n ∧ f i / 32 = 2
    · rw [if_pos h0]
      rcases hh with hh | ⟨p', e', hh⟩
      · exact absurd h0 hh
      · rw [hh]
    · rw [if_neg h0]
  have HLS : Hid (∀ b k, ((i < n ∧ f i / 32 = 2 ∧ byi size f n i = .ok b k) ∨ (b = ⟨#[]⟩ ∧ ¬ (i < n ∧ f i / 32 = 2))) → (big b = true → lkR size f n i = some (b, k)) ∧ (big b = false → lkR size f n i = none)) := Lib.hid fun b k hh => by
    unfold lkR
    rcases hh with ⟨a1, a2, a3⟩ | ⟨rfl, a2⟩
    · rw [if_pos ⟨a1, a2⟩, a3]
      dsimp only
      exact ⟨fun hb => by rw [if_pos hb], fun hb => by rw [if_neg (by rw [hb]; decide)]⟩
    · rw [if_neg a2]
      exact ⟨fun hb => absurd hb (by decide), fun _ => rfl⟩
  obtain ⟨R, hR⟩ : ∃ R, lkR size f n i = R := ⟨_, rfl⟩
  rw [hR] at HLN HLS ⊢
  have hsz := h.sz
  have HV : Hid (∀ (b : ByteArray) (k : Nat) (w : World), ((i < n ∧ f i / 32 = 2 ∧ byi size f n i = .ok b k) ∨ (b = ⟨#[]⟩ ∧ ¬ (i < n ∧ f i / 32 = 2))) → Calls Tryz.prog 15 #[.agg #[.int .i64 5, .bool false, .int .u64 0, .string b, .slice none 0 0]] w fun e w' => e = .returned (.int .i64 (chk (.mk 5 false 0 b []) : Int)) ∧ Below w.heap.size w w') := Lib.hid fun b k w hc => by
    have hb : b.size ≤ 1048576 := by
      rcases hc with ⟨_, _, h1⟩ | ⟨rfl, _⟩
      · have := byi_size h1; omega
      · exact Nat.zero_le _
    exact vcheck_any (.mk 5 false 0 b []) (.slice none 0 0) w (by show 0 + 1 ≤ _; omega) (by show max b.size 0 ≤ maxLen; unfold maxLen; omega) .nil_ ⟨by omega, by omega, by omega, trivial⟩
  obtain ⟨b0, b1, b2, b3, b4⟩ := h.b.c5
  have HBL := Lib.hid h.b.lt
  clear h hl hR
  go_enter Tryz.func151, Tryz.ntmps151
  go_wp2_with fail
  refine HC.out.mono ?_
  rintro e w2 ⟨hb2, ⟨b, k, rfl, hkn, ka, kb, hc⟩ | ⟨p, er, rfl, hn, hc⟩⟩
  · have z1 := ka.c5.2.1
    have y0 := kb.cell 0
    have HBB := Lib.hid (HLS.out b k hc)
    have HKB := Lib.hid kb
    have HA := Lib.hid (And.intro hb2 (And.intro ka hkn))
    have hch := chk_big b
    obtain ⟨ck, hck⟩ : ∃ ck, chk (.mk 5 false 0 b []) = ck := ⟨_, rfl⟩
    have H5 := Lib.hid (HV.out b k w2 hc)
    rw [hck] at hch H5
    have HCH := Lib.hid hch
    clear hb2 ka kb hkn hc HC hch hck
    go_wp2_with fail
    refine H5.out.mono ?_
    rintro e w3 ⟨rfl, hb3⟩
    have hb03 := HA.out.1.trans (hb3.mono HA.out.1.size)
    have kA := HA.out.2.1.below hb3 HA.out.2.1.lt
    have HD := Lib.hid (HB.out w3 hb03)
    have z3 := kA.c5.2.1
    have y3 := ((HKB.out).below hb3 HKB.out.lt).cell 0
    have q1 := HD.out.2.b.frozen 1
    have q0 := HD.out.2.b.cell 1
    cases hbb : big b with
    | true =>
      have h0 := HCH.out.1 hbb
      have HS := Lib.hid (HD.out.2.set HA.out.2.2)
      have HS2 := Lib.hid (HBB.out.1 hbb)
      subst h0
      clear hb3 hb03 kA hbb
      go_wp2_with fail
      exact bodyPost_ret (by simp [results, Tryz.results151, go_sem]) rfl ⟨HD.out.1.trans (.set _ _ _ _), .inl ⟨b, k, HS2.out, rfl, HS.out⟩⟩
    | false =>
      have h0 := HCH.out.2 hbb
      have hne : ((ck : Int) != 0) = true := by simp; omega
      have HS2 := Lib.hid (HBB.out.2 hbb)
      clear hb3 hb03 kA hbb h0
      go_wp2_with fail
      exact bodyPost_ret (by simp [results, Tryz.results151, go_sem]) rfl ⟨HD.out.1, .inr ⟨HS2.out, rfl, HD.out.2⟩⟩
  · have HF := Lib.hid (And.intro (HB.out w2 hb2) (HLN.out hc))
    have hne : (er != 0) = true := by simpa using hn
    clear hb2 hc HC
    go_wp2_with fail
    exact bodyPost_ret (by simp [results, Tryz.results151, go_sem]) rfl ⟨HF.out.1.1, .inr ⟨HF.out.2, rfl, HF.out.1.2⟩⟩
end
end Go.Proofs.YtpcladdipgchbaaGreatDoor.nn
