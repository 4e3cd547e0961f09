/- Joined texts, what is wanted of them: EvCuts, EventCutsW. -/
import Derived.Laws.AppendOwn
import Derived.Maps.AppendAt
import Derived.Deep.DeepCutAuto
import Derived.Deep.RegionHeld3
import Derived.Test.YthlpiaoofijfpaaProg
import Derived.WalkKit
import Derived.Lib.Hide
import Derived.Deep.CutBlock
import Derived.Lib.MinMax
import Derived.IntWalk
import Derived.BigQuiet
import Derived.Deep.QuietTactic
import Derived.StillTailTactics
import Derived.Test.YthlpiaoofijfpaaJb
import Derived.Test.YthlpiaoofijfpaaJa
import Derived.Test.YthlpiaoofijfpaaJk
import Derived.Test.YthlpiaoofijfpaaJn
import Derived.Test.YthlpiaoofijfpaaJo
import Derived.Test.YthlpiaoofijfpaaJh
import Derived.Test.YthlpiaoofijfpaaJg
import Derived.Test.YthlpiaoofijfpaaJe
import Derived.Test.YthlpiaoofijfpaaJq
import Derived.Test.YthlpiaoofijfpaaJu
import Derived.Test.YthlpiaoofijfpaaJc
import Derived.Test.YthlpiaoofijfpaaJs
import Derived.Test.YthlpiaoofijfpaaJr
import Derived.Test.YthlpiaoofijfpaaJp
import Derived.Test.YthlpiaoofijfpaaJi
namespace Go.Proofs.Ythlpiaoofijfpaa.nn
open Go.RowKit

theorem cut_tree {t : VT} (h : chk t = 0) {k : Nat} (hk : k < (evs t).length) : treeB ((evs t).take k) = (emp, k, 3) := by
  obtain ⟨h1, h2⟩ := tree_cut h hk
  unfold treeB
  rw [h1, h2, if_neg (by simp), List.length_take, Nat.min_eq_left (by omega)]
theorem more_tree {t : VT} (h : chk t = 0) (e : Ev) : treeB (evs t ++ [e]) = (emp, (evs t).length, 4) := by
  have h1 := tree_more h e
  unfold treeB
  rw [h1, if_pos (by simp)]
theorem RdE.take {w : World} {A : Option Addr} {L : List Ev} (h : RdE w A L) (k : Nat) : RdE w A (L.take k) := fun h0 => by
  obtain ⟨b, off, rfl, hb, hc⟩ := h (fun e => h0 (by rw [e]; simp))
  refine ⟨b, off, rfl, hb, fun j u hu => hc j u ?_⟩
  have e : evL L = evL (L.take k) ++ evL (L.drop k) := by rw [← evL_app, List.take_append_drop]
  rw [e, List.getElem?_append_left (List.getElem?_eq_some_iff.1 hu).1]
  exact hu
/-- a block that is not what v writes to -/
structure Zb (T : TypeId) (bx : Array Value) (W : World) (v : Value) (N : Nat) : Prop where
  b : Bk W N T bx
  n : v.ownBlock ≠ some N
theorem Zb.new {T : TypeId} {bx : Array Value} {X : World} {v : Value} (h : v.ownBlock ≠ some X.heap.size) : Zb T bx (X.alloc (.cells bx T)) v X.heap.size := ⟨Bk.new _ _ _, h⟩
theorem Zb.al {T : TypeId} {bx : Array Value} {W : World} {v : Value} {N : Nat} (h : Zb T bx W v N) (o : Obj) : Zb T bx (W.alloc o) v N := ⟨h.b.al o, h.n⟩
theorem Zb.grown {T : TypeId} {bx : Array Value} {W W' : World} {v v' : Value} {N : Nat} (hg : W.grownBy W' v.ownBlock) (ho : v'.ownBlock = v.ownBlock ∨ v'.ownBlock = some W.heap.size) (h : Zb T bx W v N) : Zb T bx W' v' N :=
  ⟨h.b.grown hg fun e => h.n e.symm, by
    have := h.b.lt
    rcases ho with ho | ho
    · rw [ho]; exact h.n
    · rw [ho]; intro e; injection e with e; omega⟩
/-- a row of one's own that holds events -/
def Ve (B : Nat) (w : World) (v : Value) (L : List Ev) : Prop := w.ownsRow B 47 4 v L.length (evL L)
theorem Ve.al {B : Nat} {w : World} {v : Value} {L : List Ev} (h : Ve B w v L) (o : Obj) : Ve B (w.alloc o) v L := ownE_keep h ((Below.refl _ _).alloc (Nat.le_refl _) o)
theorem Ve.lit0 (B : Nat) (w : World) (h : B ≤ w.heap.size) : Ve B (w.alloc (.cells #[] 47)) (.slice (some ⟨w.heap.size, 0, none⟩) 0 0) [] := World.ownsRow_lit w #[] 0 h (by simp [maxLen]) rfl
theorem rde_one {w : World} {N : Nat} {e : Ev} (h : Bk w N 47 #[.int .i64 e.k, .bool e.g, .int .u64 (e.n : Int), .string e.s]) : RdE w (some ⟨N, 0, none⟩) [e] := fun _ => ⟨N, 0, rfl, h.lt, fun j u hu => by
  rw [Nat.zero_add, h.cell j]
  simpa [evL, evC] using hu⟩
theorem step_evs {ops : Array Oper} {o : Oper} {a : Act} {w : World} {K : Act → World → Prop} {Q : Exit → Act → World → Prop} {E : Prop} (hgd : o.guard = none) (s x : Operand)
    (ho : o.op = .call { callee := .builtin .append, args := #[s, x], argTypes := #[26, 26] })
    (B : Nat) (v : Value) (L M : List Ev) (A : Option Addr) (m c : Nat) (hs : a.eval s = v) (hx : a.eval x = .slice A m c) (hm : m = M.length) (h0 : M ≠ []) (hv : Ve B w v L) (hsrc : RdE w A M) (hB : B ≤ w.heap.size) (hn : L.length + M.length ≤ 1099511627776)
    (h : ∀ v' w', Ve B w' v' (L ++ M) → w.grownBy w' v.ownBlock → (v'.ownBlock = v.ownBlock ∨ v'.ownBlock = some w.heap.size) → Below B w w' → K (a.put o.dst v') w') :
    if Region.wanted o (yielded ops a.tmps) = true then Oper.wp Try.prog o a w K Q else E := by
  have hw : Region.wanted o (yielded ops a.tmps) = true := by simp [Region.wanted, hgd]
  rw [if_pos hw]
  subst hm
  obtain ⟨i0, hi0, hz0, hz1, hz2⟩ := info_ev4
  have hv2 : w.ownsRow B 47 4 v L.length (evL L) := hv
  obtain ⟨b, off, rfl, _, hnews⟩ := hsrc h0
  obtain ⟨v', w', hr, h1, h2, _, h3⟩ := run_append_own_at (P := Try.prog) w B 26 o.type 47 i0 _ 4 40 Try.underlying26 hi0 hz0 hz1 hz2 rfl (by decide) v L.length (evL L) hv ⟨b, off, none⟩ M.length c (evL M) (evL_len M)
    (fun j u hu => by rw [add_cell]; exact hnews j u hu) (evL_one M) (by unfold maxLen; omega) (by omega) hB
  unfold Oper.wp execOp
  simp only [ho, resolve, invoke, builtin, Sem.run_bind, Sem.run_pure, Result.andThen_ok, List.map_toArray, List.map_cons, List.map_nil, hs, hx, hr]
  exact h _ _ (by unfold Ve; rw [List.length_append, evL_app]; exact h1) h2 h3 ((Below.refl _ _).grown h2 hB fun k hk => (hv2.lt k hk).1)
theorem Zb.at_ {T : TypeId} {bx : Array Value} {X : World} {v : Value} {N : Nat} (hN : N = X.heap.size) (h : v.ownBlock ≠ some N) : Zb T bx (X.alloc (.cells bx T)) v N := by
  subst hN
  exact .new h
theorem Ve.at_ {B : Nat} {X : World} {M : Nat} (hM : M = X.heap.size) (h : B ≤ M) : Ve B (X.alloc (.cells #[] 47)) (.slice (some ⟨M, 0, none⟩) 0 0) [] := by
  subst hM
  exact .lit0 _ _ h
theorem Ve.ne2 {B : Nat} {w : World} {v : Value} {L : List Ev} (h : Ve B w v L) {N : Nat} (hN : w.heap.size ≤ N) : v.ownBlock ≠ some N := fun e => by
  have h2 : w.ownsRow B 47 4 v L.length (evL L) := h
  have := h2.lt _ e
  omega
theorem Bk.at_ {T : TypeId} {bx : Array Value} {X : World} {N : Nat} (hN : N = X.heap.size) : Bk (X.alloc (.cells bx T)) N T bx := by
  subst hN
  exact .new _ _ _
theorem bk_al {T : TypeId} {bx : Array Value} {X W' : World} (hb : Below (X.alloc (.cells bx T)).heap.size (X.alloc (.cells bx T)) W') : Bk W' X.heap.size T bx := (Bk.new X bx T).below hb (by simp)
section
variable {T : TypeId} {bx : Array Value} {X : World} {v : Value} {o o' : Obj}
theorem Zb.a2 (h : v.ownBlock ≠ some (X.heap.size + 1)) : Zb T bx ((X.alloc o).alloc (.cells bx T)) v (X.heap.size + 1) := .at_ (by simp) h
theorem Zb.a3 (h : v.ownBlock ≠ some (X.heap.size + 1 + 1)) : Zb T bx (((X.alloc o).alloc o').alloc (.cells bx T)) v (X.heap.size + 1 + 1) := .at_ (by simp) h
theorem Zb.drew {W : World} {N : Nat} (h : Zb T bx W v N) : Zb T bx W.drew v N := ⟨h.b, h.n⟩
theorem Ve.drew {B : Nat} {W : World} {L : List Ev} (h : Ve B W v L) : Ve B W.drew v L := h
theorem Ve.a1 {B : Nat} (h : B ≤ X.heap.size) : Ve B (X.alloc (.cells #[] 47)) (.slice (some ⟨X.heap.size, 0, none⟩) 0 0) [] := .at_ rfl h
theorem Ve.a2 {B : Nat} (h : B ≤ X.heap.size) : Ve B ((X.alloc o).alloc (.cells #[] 47)) (.slice (some ⟨X.heap.size + 1, 0, none⟩) 0 0) [] := .at_ (by simp) (by omega)
theorem Ve.a3 {B : Nat} (h : B ≤ X.heap.size) : Ve B (((X.alloc o).alloc o').alloc (.cells #[] 47)) (.slice (some ⟨X.heap.size + 1 + 1, 0, none⟩) 0 0) [] := .at_ (by simp) (by omega)
theorem Bk.a2 : Bk ((X.alloc o).alloc (.cells bx T)) (X.heap.size + 1) T bx := .at_ (by simp)
theorem lit_ne {M N c : Nat} (h : M ≠ N) : (Value.slice (some ⟨M, 0, none⟩) 0 c).ownBlock ≠ some N := by simp [Value.ownBlock]; exact h
end
theorem held_b {c0 c1 c2 c3 : Prop} {B : Nat} {W0 W : World} (h : c0 ∧ c1 ∧ c2 ∧ c3 ∧ Below B W0 W) : Below B W0 W := h.2.2.2.2
theorem held_sz {c0 c1 c2 c3 : Prop} {B : Nat} {W0 W : World} (h : c0 ∧ c1 ∧ c2 ∧ c3 ∧ Below B W0 W) : W0.heap.size ≤ W.heap.size := h.2.2.2.2.size
theorem held_al {c0 c1 c2 c3 : Prop} {W0 W : World} (h : c0 ∧ c1 ∧ c2 ∧ c3 ∧ Below W0.heap.size W0 W) (o : Obj) : Below W0.heap.size W0 (W.alloc o) := h.2.2.2.2.alloc h.2.2.2.2.size o
theorem held_tr {c0 c1 c2 c3 : Prop} {B : Nat} {W0 W W' : World} (h : c0 ∧ c1 ∧ c2 ∧ c3 ∧ Below B W0 W) (hb : Below B W W') : Below B W0 W' := h.2.2.2.2.trans hb
theorem held_st {c0 c1 c2 c3 : Prop} {B : Nat} {W0 W : World} (h : c0 ∧ c1 ∧ c2 ∧ c3 ∧ Below B W0 W) {N : Nat} (hN : B ≤ N) (x0 x1 x2 x3 x4 : Value) :
    Below B W0 (((((W.setCell ⟨N, 0, none⟩ x0).setCell ⟨N, 1, none⟩ x1).setCell ⟨N, 2, none⟩ x2).setCell ⟨N, 3, none⟩ x3).setCell ⟨N, 4, none⟩ x4) :=
  ((((h.2.2.2.2.setCell (p := ⟨N, 0, none⟩) hN x0).setCell (p := ⟨N, 1, none⟩) hN x1).setCell (p := ⟨N, 2, none⟩) hN x2).setCell (p := ⟨N, 3, none⟩) hN x3).setCell (p := ⟨N, 4, none⟩) hN x4
end Go.Proofs.Ythlpiaoofijfpaa.nn
namespace Go.Proofs.Ythlpiaoofijfpaa.nn
open Go.RowKit

/-- behind the boxes of a tree and of an event -/
structure Cz (w : World) (t : VT) (C : Value) (e : Ev) (W : World) : Prop where
  b : Box w t C W
  e : Bk W (w.heap.size + 1) 47 #[.int .i64 e.k, .bool e.g, .int .u64 (e.n : Int), .string e.s]
theorem Cz.on {w W W' : World} {t : VT} {C : Value} {e : Ev} (h : Cz w t C e W) (hB : Below W.heap.size W W') : Cz w t C e W' := ⟨h.b.on hB, h.e.below hB h.e.lt⟩
theorem Cz.new (w : World) (t : VT) (C : Value) (e : Ev) : Cz w t C e ((w.alloc (.cells #[.int .i64 t.k, .bool t.g, .int .u64 (t.n : Int), .string t.s, C] 25)).alloc (.cells #[.int .i64 e.k, .bool e.g, .int .u64 (e.n : Int), .string e.s] 47)) :=
  ⟨(Box.new w t C _).on ((Below.refl _ _).alloc (Nat.le_refl _) _), by
    have h := Bk.new (w.alloc (.cells #[.int .i64 t.k, .bool t.g, .int .u64 (t.n : Int), .string t.s, C] 25)) #[.int .i64 e.k, .bool e.g, .int .u64 (e.n : Int), .string e.s] 47
    rw [show (w.alloc (.cells #[.int .i64 t.k, .bool t.g, .int .u64 (t.n : Int), .string t.s, C] 25)).heap.size = w.heap.size + 1 by simp] at h
    exact h⟩
theorem evs_ne (t : VT) : evs t ≠ [] := by rw [evs_mk]; simp
set_option maxRecDepth 100000 in
set_option maxHeartbeats 4000000 in
theorem cuts9_any (t : VT) (C : Value) (u : Nat) (hu : u < 65536) (e : Ev) (w : World) (hC : Lst w C t.l) (hB : blk t ≤ 1048576) (hwf : wfT t) (hw : evOk e) (hs : e.s.size ≤ maxLen) :
    Calls Try.prog 7 #[vv t C, .int .u16 (u : Int), evv e] w fun r w' => r = .returned (.bool true) ∧ Below w.heap.size w w' := by
  have hcb := cnt_blk t
  have hsb := smx_blk t
  have hmx : (1048576 : Nat) ≤ maxLen := by simp [maxLen]
  obtain ⟨Ac, mc, cc, rfl⟩ : ∃ A m c, C = .slice A m c := by obtain ⟨a, b, e, _⟩ := hC.out; exact ⟨a, _, b, e⟩
  have HB0 := Lib.hid (Cz.new w t (.slice Ac mc cc) e)
  have C1 : Hid (∀ W, Cz w t (.slice Ac mc cc) e W → Calls Try.prog 10 #[vv t (.slice Ac mc cc)] W fun x w' => ∃ (A : Option Addr) (c : Nat), x = .returned (.tuple #[.slice A (evA t).length c, .int .i64 (chk t : Int)]) ∧ RdE w' A (evA t) ∧ (evA t).length ≤ c ∧ Cz w t (.slice Ac mc cc) e w') := Lib.hid fun W hW =>
    (vevents_any t (.slice Ac mc cc) W (by omega) (by omega) (hC.keep hW.b.b (Nat.le_refl _)) hwf).mono fun x w' ⟨A, c, he, hlc, _, hr, hb⟩ => ⟨A, c, he, hr, hlc, hW.on hb⟩
  have HA : Hid (∀ W, Cz w t (.slice Ac mc cc) e W → Calls Try.prog 13 #[] W fun x w' => x = .returned (.bool true) ∧ Below w.heap.size w w') := Lib.hid fun W hW => (awake9 W).mono fun x w' ⟨he, hb⟩ => ⟨he, (hW.on hb).b.b⟩
  have hwe : wfE e := ⟨hw.1, hw.2.1, hw.2.2, hs⟩
  have hlen := evA_len t
  obtain ⟨L, hL⟩ : ∃ L, evA t = L := ⟨_, rfl⟩
  obtain ⟨ck, hck⟩ : ∃ c, chk t = c := ⟨_, rfl⟩
  by_cases h0 : ck = 0
  · have hLt : L = evs t := by rw [← hL]; unfold evA; rw [if_pos (hck.trans h0)]
    have hwL : ∀ x, x ∈ L → wfE x := by rw [hLt]; exact wf_evs t hwf (by omega)
    have hne : L ≠ [] := by rw [hLt]; exact evs_ne t
    rw [hL] at hlen
    obtain ⟨nl, hnl⟩ : ∃ n, L.length = n := ⟨_, rfl⟩
    have hn1 : 1 ≤ nl := by rw [← hnl]; exact List.length_pos_iff.2 hne
    obtain ⟨k, hk⟩ : ∃ k, u % nl = k := ⟨_, rfl⟩
    have hkn : k < nl := by rw [← hk]; exact Nat.mod_lt _ hn1
    have C2 : Hid (∀ W A c, Cz w t (.slice Ac mc cc) e W → RdE W A L → Calls Try.prog 14 #[.slice A k c] W fun x w' => ∃ A2 c2, x = .returned (.tuple #[.agg #[.int .i64 0, .bool false, .int .u64 0, .string ⟨#[]⟩, .slice A2 0 c2], .int .i64 (k : Int), .int .i64 3]) ∧ Below W.heap.size W w') := Lib.hid fun W A c hW hr => by
      have hlk : (L.take k).length = k := by rw [List.length_take]; omega
      have := tree_any A (L.take k) c W (hr.take k) (fun x hx => hwL x (List.mem_of_mem_take hx)) (by omega)
      rw [hlk] at this
      refine this.mono fun x w' ⟨C2, hx, hl2, hb⟩ => ?_
      have ht : treeB (L.take k) = (emp, k, 3) := by rw [hLt]; exact cut_tree (hck.trans h0) (by rw [← hLt]; omega)
      rw [ht] at hx hl2
      have hl3 : Lst w' C2 ([] : List VT) := hl2
      obtain ⟨A2, c2, rfl, _⟩ := hl3.out
      exact ⟨A2, c2, hx, hb⟩
    have C3 : Hid (∀ W A c, RdE W A (L ++ [e]) → Calls Try.prog 14 #[.slice A (nl + 1) c] W fun x w' => ∃ A2 c2, x = .returned (.tuple #[.agg #[.int .i64 0, .bool false, .int .u64 0, .string ⟨#[]⟩, .slice A2 0 c2], .int .i64 (nl : Int), .int .i64 4]) ∧ Below W.heap.size W w') := Lib.hid fun W A c hr => by
      have hlk : (L ++ [e]).length = nl + 1 := by simp [hnl]
      have := tree_any A (L ++ [e]) c W hr (fun x hx => by
        rcases List.mem_append.1 hx with hx | hx
        · exact hwL x hx
        · rw [List.mem_singleton.1 hx]; exact hwe) (by omega)
      rw [hlk] at this
      refine this.mono fun x w' ⟨C2, hx, hl2, hb⟩ => ?_
      have ht : treeB (L ++ [e]) = (emp, nl, 4) := by rw [← hnl, hLt]; exact more_tree (hck.trans h0) e
      rw [ht] at hx hl2
      have hl3 : Lst w' C2 ([] : List VT) := hl2
      obtain ⟨A2, c2, rfl, _⟩ := hl3.out
      exact ⟨A2, c2, hx, hb⟩
    rw [hL, hck, h0, hnl] at C1
    have hrem : (u : Int).tmod (nl : Int) = (k : Int) := by rw [Int.tmod_eq_emod_of_nonneg (by omega), ← hk]; omega
    have hnz : ((nl : Int) == 0) = false := by simp; omega
    have HN := Lib.hid (And.intro hnl (And.intro hlen hne))
    unfold vv evv at *
    clear hC hB hwf hw hs hcb hsb hmx HA hwe hlen hL hck hLt hwL hne hnl hk h0
    go_enter Try.func7, Try.ntmps7
    go_wp2_with fail
    refine (C1.out _ HB0.out).mono ?_
    rintro x w1 ⟨A1, c1, rfl, r1, hlc, z1⟩
    have HZ1 := Lib.hid z1
    have HR1 := Lib.hid r1
    obtain ⟨b1, off1, rfl, _, _⟩ := r1 HN.out.2.2
    clear r1 z1 C1
    have i1 : (k : Int) ≤ (c1 : Int) := by omega
    have i2 : (0 : Int) ≤ (k : Int) := by omega
    have i3 : k ≤ c1 := by omega
    go_wp2_with fail
    refine (C2.out _ _ _ HZ1.out HR1.out).mono ?_
    rintro x w2 ⟨A2, c2, rfl, b2⟩
    have HZ2 := Lib.hid (HZ1.out.on b2)
    have HR2 := Lib.hid (HR1.out.below b2)
    clear b2 HZ1 HR1 C2
    go_upto_region 6 with fail
    obtain ⟨W0, hW0⟩ : ∃ W0, w2.alloc (.cells #[.int .i64 0, .bool false, .int .u64 0, .string ⟨#[]⟩, .slice A2 0 c2] 25) = W0 := ⟨_, rfl⟩
    rw [hW0]
    have HZ3 : Hid (Cz w t (.slice Ac mc cc) e W0) := Lib.hid (by rw [← hW0]; exact HZ2.out.on ((Below.refl _ _).alloc (Nat.le_refl _) _))
    have HR0 : Hid (RdE W0 (some ⟨b1, off1, none⟩) L) := Lib.hid (by rw [← hW0]; exact HR2.out.below ((Below.refl _ _).alloc (Nat.le_refl _) _))
    have HS : Hid (∀ W', Below W0.heap.size W0 W' → W'.cell? ⟨w.heap.size + 1, 0, none⟩ = some (.int .i64 e.k) ∧ W'.cell? ⟨w.heap.size + 1, 1, none⟩ = some (.bool e.g) ∧ W'.cell? ⟨w.heap.size + 1, 2, none⟩ = some (.int .u64 (e.n : Int)) ∧ W'.cell? ⟨w.heap.size + 1, 3, none⟩ = some (.string e.s) ∧ Below W0.heap.size W0 W') := Lib.hid fun W' hb => by
      have h1 := HZ3.out.e.below hb HZ3.out.e.lt
      exact ⟨h1.cell 0, h1.cell 1, h1.cell 2, h1.cell 3, hb⟩
    have hstart := HS.out W0 (Below.refl _ _)
    clear hW0 HZ2 HR2
    go_cut [14, 15] (fun s14 s15 wx => s14 = .int .i64 (nl : Int) ∧ s15 = .int .i64 4 ∧ Hid (Below W0.heap.size W0 wx))
    case first =>
      go_region_held3 (fun W' => W'.cell? ⟨w.heap.size + 1, 0, none⟩ = some (.int .i64 e.k) ∧ W'.cell? ⟨w.heap.size + 1, 1, none⟩ = some (.bool e.g) ∧ W'.cell? ⟨w.heap.size + 1, 2, none⟩ = some (.int .u64 (e.n : Int)) ∧ W'.cell? ⟨w.heap.size + 1, 3, none⟩ = some (.string e.s) ∧ Below W0.heap.size W0 W')
        (first
          | with_reducible exact HS.out _ (hb6.alloc hb6.size _)
          | with_reducible exact HS.out _ (held_st (And.intro trivial (And.intro trivial (And.intro trivial (And.intro trivial hb6)))) (by first | exact Nat.le_refl _ | omega) _ _ _ _ _)
          | with_reducible exact HS.out _ (Below.drew (Below.refl _ _))
          | with_reducible exact HS.out _ (held_al ‹_› _)
          | with_reducible exact HS.out _ (held_tr ‹_› ‹_›))
        (first
          | (refine step_evs rfl (.tmp 52) (.tmp 53) rfl W0.heap.size (.slice (some ⟨_, 0, none⟩) 0 0) [] L (some ⟨b1, off1, none⟩) nl c1 rfl rfl HN.out.1.symm HN.out.2.2 ?_ (HR0.out.below (held_b ‹_›)) (held_sz ‹_›) ?_ ?_
             (first | with_reducible exact Ve.drew (Ve.a3 (Nat.le_refl _)) | with_reducible exact Ve.drew (Ve.a2 (Nat.le_refl _)) | with_reducible exact Ve.drew ((Ve.a2 (Nat.le_refl _)).al _) | with_reducible exact Ve.drew (Ve.a1 (Nat.le_refl _)) | with_reducible exact Ve.drew ((Ve.a1 (Nat.le_refl _)).al _) | with_reducible exact Ve.drew (((Ve.a1 (Nat.le_refl _)).al _).al _))
             (have := HN.out; simp; omega)
             intro v1 w1 ho1 hg1 hk1 hb1
             replace ho1 : Ve W0.heap.size w1 v1 L := ho1
             have hsz1 : W0.heap.size ≤ w1.heap.size := Nat.le_trans (held_sz ‹_›) hb1.size
             (first
               | with_reducible have hzz1 := Zb.grown (T := 25) (bx := #[.int .i64 0, .bool false, .int .u64 0, .string ⟨#[]⟩, .slice none 0 0]) hg1 hk1 (.drew (.a3 (lit_ne (by omega))))
               | with_reducible have hzz1 := Zb.grown (T := 25) (bx := #[.int .i64 0, .bool false, .int .u64 0, .string ⟨#[]⟩, .slice none 0 0]) hg1 hk1 (.drew (.a2 (lit_ne (by omega))))
               | with_reducible have hzz1 := Zb.grown (T := 25) (bx := #[.int .i64 0, .bool false, .int .u64 0, .string ⟨#[]⟩, .slice none 0 0]) hg1 hk1 (.drew (.al (.a2 (lit_ne (by omega))) _))
               | with_reducible have hzz1 := Zb.grown (T := 25) (bx := #[.int .i64 0, .bool false, .int .u64 0, .string ⟨#[]⟩, .slice none 0 0]) hg1 hk1 (.drew (.new (lit_ne (by omega))))
               | with_reducible have hzz1 := Zb.grown (T := 25) (bx := #[.int .i64 0, .bool false, .int .u64 0, .string ⟨#[]⟩, .slice none 0 0]) hg1 hk1 (.drew (.al (.new (lit_ne (by omega))) _))
               | with_reducible have hzz1 := Zb.grown (T := 25) (bx := #[.int .i64 0, .bool false, .int .u64 0, .string ⟨#[]⟩, .slice none 0 0]) hg1 hk1 (.drew (.al (.al (.new (lit_ne (by omega))) _) _))
               | skip)
             (first
               | with_reducible have hmm1 := Zb.grown (T := 47) (bx := #[.int .i64 e.k, .bool e.g, .int .u64 (e.n : Int), .string e.s]) hg1 hk1 (.drew (.a3 (lit_ne (by omega))))
               | with_reducible have hmm1 := Zb.grown (T := 47) (bx := #[.int .i64 e.k, .bool e.g, .int .u64 (e.n : Int), .string e.s]) hg1 hk1 (.drew (.a2 (lit_ne (by omega))))
               | with_reducible have hmm1 := Zb.grown (T := 47) (bx := #[.int .i64 e.k, .bool e.g, .int .u64 (e.n : Int), .string e.s]) hg1 hk1 (.drew (.al (.a2 (lit_ne (by omega))) _))
               | with_reducible have hmm1 := Zb.grown (T := 47) (bx := #[.int .i64 e.k, .bool e.g, .int .u64 (e.n : Int), .string e.s]) hg1 hk1 (.drew (.new (lit_ne (by omega))))
               | with_reducible have hmm1 := Zb.grown (T := 47) (bx := #[.int .i64 e.k, .bool e.g, .int .u64 (e.n : Int), .string e.s]) hg1 hk1 (.drew (.al (.new (lit_ne (by omega))) _))
               | with_reducible have hmm1 := Zb.grown (T := 47) (bx := #[.int .i64 e.k, .bool e.g, .int .u64 (e.n : Int), .string e.s]) hg1 hk1 (.drew (.al (.al (.new (lit_ne (by omega))) _) _))
               | skip)
             skip)
          | (refine step_evs rfl (.tmp 54) (.tmp 56) rfl W0.heap.size v1 L [e] (some ⟨_, 0, none⟩) 1 1 rfl rfl rfl (by simp; done) ?_ ?_ (held_sz ‹_›) ?_ ?_
             (first | with_reducible exact ho1 | with_reducible exact ho1.al _ | with_reducible exact (ho1.al _).al _)
             (first | with_reducible exact rde_one hmm1.b | with_reducible exact rde_one (hmm1.b.al _) | with_reducible exact rde_one Bk.a2 | with_reducible exact rde_one (Bk.new _ _ _) | with_reducible exact rde_one ((Bk.new _ _ _).al _))
             (have := HN.out; simp; omega)
             intro v2 w2' ho2 hg2 hk2 hb2
             have hsz2 : W0.heap.size ≤ w2'.heap.size := Nat.le_trans (held_sz ‹_›) hb2.size
             (first
               | with_reducible have hzz2 := Zb.grown (T := 25) (bx := #[.int .i64 0, .bool false, .int .u64 0, .string ⟨#[]⟩, .slice none 0 0]) hg2 hk2 hzz1
               | with_reducible have hzz2 := Zb.grown (T := 25) (bx := #[.int .i64 0, .bool false, .int .u64 0, .string ⟨#[]⟩, .slice none 0 0]) hg2 hk2 (hzz1.al _)
               | with_reducible have hzz2 := Zb.grown (T := 25) (bx := #[.int .i64 0, .bool false, .int .u64 0, .string ⟨#[]⟩, .slice none 0 0]) hg2 hk2 (.a2 (ho1.ne2 (by omega)))
               | with_reducible have hzz2 := Zb.grown (T := 25) (bx := #[.int .i64 0, .bool false, .int .u64 0, .string ⟨#[]⟩, .slice none 0 0]) hg2 hk2 (.new (ho1.ne2 (by omega)))
               | with_reducible have hzz2 := Zb.grown (T := 25) (bx := #[.int .i64 0, .bool false, .int .u64 0, .string ⟨#[]⟩, .slice none 0 0]) hg2 hk2 (.al (.new (ho1.ne2 (by omega))) _)
               | skip)
             obtain ⟨A3, c3, rfl, _, _, hr3⟩ := RdE.of_own (n := nl + 1) (L := L ++ [e]) (by rw [List.length_append, HN.out.1]; rfl) (show w2'.ownsRow W0.heap.size 47 4 v2 (nl + 1) (evL (L ++ [e])) from (by have := ho2; unfold Ve at this; rw [show (L ++ [e]).length = nl + 1 by rw [List.length_append, HN.out.1]; rfl] at this; exact this)))
          | (go_at_call 14
             refine (C3.out _ _ _ (by first | with_reducible exact hr3 | with_reducible exact hr3.below ((Below.refl _ _).alloc (Nat.le_refl _) _))).mono ?_
             rintro x w4 ⟨A4, c4, rfl, hb4⟩
             have hb5 := hb4.mono (held_sz ‹_›)
             have hb6 := held_tr ‹_› hb5
             (first
               | (with_reducible have hq4 := hzz2.b.below hb4 hzz2.b.lt
                  obtain ⟨q0, q1, q2, q3, q4⟩ := hq4.c5
                  obtain ⟨f0, f1, f2, f3, f4⟩ := hq4.f5)
               | (with_reducible have hq4 := bk_al (T := 25) (bx := #[.int .i64 0, .bool false, .int .u64 0, .string ⟨#[]⟩, .slice none 0 0]) hb4
                  obtain ⟨q0, q1, q2, q3, q4⟩ := hq4.c5
                  obtain ⟨f0, f1, f2, f3, f4⟩ := hq4.f5)
               | skip)))
      all_goals
        go_wp2_with fail
        go_meet
        first
          | with_reducible exact ⟨rfl, rfl, Lib.hid (held_b ‹_›)⟩
          | exact ⟨rfl, rfl, Lib.hid (held_b ‹_›)⟩
    case rest =>
      obtain ⟨rfl, rfl, HB⟩ := hcut
      have HB2 := Lib.hid (HZ3.out.b.b.trans (HB.out.mono HZ3.out.b.b.size))
      clear hstart HB HS HR0 HZ3
      go_wp2_with fail
      go_ret
      exact ⟨rfl, HB2.out⟩
  · have hLn : L = [] := by rw [← hL]; unfold evA; rw [if_neg (by rw [hck]; exact h0)]
    rw [hL, hck, hLn] at C1
    have hc1 : ((ck : Int) != 0) = true := by simp; omega
    unfold vv evv at *
    clear hC hB hwf hw hs hcb hsb hmx hwe hlen hL hck hLn h0
    go_enter Try.func7, Try.ntmps7
    go_wp2_with fail
    refine (C1.out _ HB0.out).mono ?_
    rintro x w1 ⟨A1, c1, rfl, r1, hlc, z1⟩
    have HZ1 := Lib.hid z1
    clear r1 z1 C1
    go_wp2_with fail
    refine (HA.out _ HZ1.out).mono ?_
    rintro x w2 ⟨rfl, b2⟩
    have HB2 := Lib.hid b2
    clear b2
    go_wp2_with fail
    go_ret
    exact ⟨rfl, HB2.out⟩
end Go.Proofs.Ythlpiaoofijfpaa.nn
