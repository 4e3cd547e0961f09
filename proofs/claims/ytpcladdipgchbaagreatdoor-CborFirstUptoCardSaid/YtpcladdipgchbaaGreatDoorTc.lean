/- Joined texts, what is wanted of them: DrQ, DrR, DrS, DrT, DrU, CbAll. -/
import Derived.Test.YtpcladdipgchbaaGreatDoorProg
import Derived.WalkKit
import Derived.Lib.Hide
import Derived.WalkSpells
import Derived.Deep.QuietTactic
import Derived.BigQuiet
import Derived.Deep.RegionHeld3
import Derived.Laws.BitsAllLaws
import Derived.Test.YtpcladdipgchbaaGreatDoorShelf
import Derived.Deep.RegionWith
import Derived.IntWalk
import Derived.Deep.CutBlock
import Derived.StillTailTactics
import Derived.Test.YtpcladdipgchbaaGreatDoorSx
import Derived.Test.YtpcladdipgchbaaGreatDoorSi
import Derived.Test.YtpcladdipgchbaaGreatDoorSe
import Derived.Test.YtpcladdipgchbaaGreatDoorSb
import Derived.Test.YtpcladdipgchbaaGreatDoorTb
import Derived.Test.YtpcladdipgchbaaGreatDoorSd
import Derived.Test.YtpcladdipgchbaaGreatDoorSv
import Derived.Test.YtpcladdipgchbaaGreatDoorSg
import Derived.Test.YtpcladdipgchbaaGreatDoorSy
import Derived.Test.YtpcladdipgchbaaGreatDoorSa
import Derived.Test.YtpcladdipgchbaaGreatDoorSo
import Derived.Test.YtpcladdipgchbaaGreatDoorTl
import Derived.Test.YtpcladdipgchbaaGreatDoorSn
import Derived.Test.YtpcladdipgchbaaGreatDoorSj
import Derived.Test.YtpcladdipgchbaaGreatDoorTa
import Derived.Test.YtpcladdipgchbaaGreatDoorSz
import Derived.Test.YtpcladdipgchbaaGreatDoorSf
import Derived.Test.YtpcladdipgchbaaGreatDoorSw
import Derived.Test.YtpcladdipgchbaaGreatDoorSc
import Derived.Test.YtpcladdipgchbaaGreatDoorSm
import Derived.Test.YtpcladdipgchbaaGreatDoorSt
import Derived.Test.YtpcladdipgchbaaGreatDoorSh
import Derived.Test.YtpcladdipgchbaaGreatDoorSs
import Derived.Test.YtpcladdipgchbaaGreatDoorSp
import Derived.Test.YtpcladdipgchbaaGreatDoorSr
import Derived.Test.YtpcladdipgchbaaGreatDoorSq
import Derived.Test.YtpcladdipgchbaaGreatDoorSu
import Derived.Test.YtpcladdipgchbaaGreatDoorSl
import Derived.Test.YtpcladdipgchbaaGreatDoorTk
namespace Go.Proofs.YtpcladdipgchbaaGreatDoor.nn
open Go.RowKit

section
variable {W W' : World} {q : Nat} {A : Option Addr} {n c N Z D : Nat} {f : Nat → Nat} {g : Nat} {O : Nat → Prop} {Y : Bool}
/-- what newReader answers -/
def NrdAns (A : Option Addr) (c : Nat) (f : Nat → Nat) (N D Z : Nat) (W : World) (r : Ending) (W' : World) : Prop :=
  ∃ q g O, r = .returned (.pointer (some ⟨q, 0, none⟩)) ∧ Below W.heap.size W W' ∧ W.heap.size ≤ q ∧ (∀ b, O b → W.heap.size ≤ b) ∧ Rdw W' q A (min N Z) c f Z (decide (Z < N)) g 0 O (newB (D : Int))
theorem nrd_lay {M g : Nat} {mo : Bool} (hA : Rd W .u8 A N f) (hf : ∀ j, f j < 256) (hc : N ≤ c ∧ c ≤ maxLen) (hM : M ≤ N ∧ M ≤ Z) (hZ : Z ≤ 1048576) (hL : Laid W) (hR : Rb W' g O (newB (D : Int))) (hO : ∀ b, O b → W.heap.size ≤ b) (hB : Below W.heap.size W W') :
    Rdw (W'.alloc (.cells #[.slice A M c, .int .i64 0, .int .i64 (Z : Int), .bool mo, .pointer (some ⟨g, 0, none⟩)] 70)) W'.heap.size A M c f Z mo g 0 O (newB (D : Int)) := by
  have h0 : 0 < W.heap.size := by
    refine Nat.lt_of_not_le fun h => ?_
    unfold Laid World.cell? at hL
    rw [Array.getElem?_eq_none (by simpa using h)] at hL
    cases hL
  have hs := hB.size
  have hb2 := hB.alloc hs (.cells #[.slice A M c, .int .i64 0, .int .i64 (Z : Int), .bool mo, .pointer (some ⟨g, 0, none⟩)] 70)
  have hlow : ∀ b off, 0 < M → A = some ⟨b, off, none⟩ → b < W.heap.size := fun b off hm e => by
    obtain ⟨b', off', e', hb', _⟩ := hA (by omega)
    rw [e] at e'
    injection e' with e'
    injection e' with e1
    omega
  have hlo : ∀ b, O b → b < W'.heap.size := by
    obtain ⟨K, sv, Dd, h1, _⟩ := hR
    exact h1.lo
  refine ⟨⟨heap_alloc_last _ _, fun hm => ?_, fun b off hm e => ?_, ⟨by omega, hc.2⟩, ⟨hM.2, hZ⟩, Nat.zero_le _, hf⟩, hR.below ((Below.refl _ _).alloc (Nat.le_refl _) _), fun h => Nat.lt_irrefl _ (hlo _ h), fun b off hm e h => ?_, good_new _, ?_, fun h => by have := hO _ h; omega, by omega⟩
  · obtain ⟨b, off, e, hb, hcs⟩ := (hA.below hb2) (by omega)
    exact ⟨b, off, e, hb, fun j hj => hcs j (by omega)⟩
  · have := hlow b off hm e; omega
  · have := hlow b off hm e; have := hO _ h; omega
  · exact (hb2.cell (p := ⟨0, 0, none⟩) h0).trans hL
set_option maxRecDepth 100000 in
set_option maxHeartbeats 8000000 in
theorem newr_any (hA : Rd W .u8 A N f) (hf : ∀ j, f j < 256) (hc : N ≤ c ∧ c ≤ maxLen) (hZ : Z ≤ 1048576) (hL : Laid W) :
    Calls Tryz.prog 39 #[.slice A N c, .agg #[.int .i64 (D : Int), .int .i64 (Z : Int), .bool Y]] W (NrdAns A c f N D Z W) := by
  obtain ⟨W1, hW1⟩ : ∃ W1, W.alloc (.cells #[.int .i64 (D : Int), .int .i64 (Z : Int), .bool Y] 38) = W1 := ⟨_, rfl⟩
  have hb1 : Below W.heap.size W W1 := by rw [← hW1]; exact (Below.refl _ _).alloc (Nat.le_refl _) _
  have hk1 : Bk W1 W.heap.size 38 #[.int .i64 (D : Int), .int .i64 (Z : Int), .bool Y] := by rw [← hW1]; exact heap_alloc_last _ _
  obtain ⟨d0, d1, d2⟩ := hk1.c3
  have hlt := hk1.lt
  have HN : Hid (Calls Tryz.prog 68 #[.int .i64 (D : Int)] W1.drew fun r w' => ∃ g O, r = .returned (.pointer (some ⟨g, 0, none⟩)) ∧ (Rb w' g O (newB (D : Int)) ∧ (∀ b, O b → W.heap.size ≤ b) ∧ Below W.heap.size W w') ∧ w'.cell? ⟨W.heap.size, 0, none⟩ = some (.int .i64 (D : Int)) ∧ w'.cell? ⟨W.heap.size, 1, none⟩ = some (.int .i64 (Z : Int)) ∧ w'.cell? ⟨W.heap.size, 2, none⟩ = some (.bool Y)) := Lib.hid ((new_any _ W1.drew).mono fun r w' ⟨g, O, e1, e2, e3, e4⟩ => ⟨g, O, e1, ⟨e2, fun b hb => Nat.le_trans hb1.size (e3 b hb), hb1.drew.trans (e4.mono hb1.drew.size)⟩, (e4.cell (p := ⟨W.heap.size, 0, none⟩) hlt).trans d0, (e4.cell (p := ⟨W.heap.size, 1, none⟩) hlt).trans d1, (e4.cell (p := ⟨W.heap.size, 2, none⟩) hlt).trans d2⟩)
  obtain ⟨M, hM⟩ : ∃ M : Nat, min N Z = M := ⟨_, rfl⟩
  have hMi : min (N : Int) (Z : Int) = (M : Int) := by omega
  have hMN : (M ≤ N ∧ M ≤ Z) := by omega
  have hMc : M ≤ c := by omega
  have HF : Hid (∀ g O w', (Rb w' g O (newB (D : Int)) ∧ (∀ b, O b → W.heap.size ≤ b) ∧ Below W.heap.size W w') → NrdAns A c f N D Z W (.returned (.pointer (some ⟨w'.heap.size, 0, none⟩))) (w'.alloc (.cells #[.slice A M c, .int .i64 0, .int .i64 (Z : Int), .bool (decide (Z < N)), .pointer (some ⟨g, 0, none⟩)] 70))) := Lib.hid fun g O w' ⟨e1, e2, e3⟩ => by
    have := nrd_lay (mo := decide (Z < N)) hA hf hc hMN hZ hL e1 e2 e3
    refine ⟨_, g, O, rfl, e3.alloc e3.size _, e3.size, e2, ?_⟩
    rw [hM]
    exact this
  clear hA hf hc hZ hL hb1 hk1 hlt hM hMN
  go_enter Tryz.func39, Tryz.ntmps39
  go_upto_region 1 with fail
  first | rw [hW1] | skip
  clear hW1
  have q0 : W1.drew.cell? ⟨W.heap.size, 0, none⟩ = some (.int .i64 (D : Int)) := d0
  have q1 : W1.drew.cell? ⟨W.heap.size, 1, none⟩ = some (.int .i64 (Z : Int)) := d1
  go_region_held3 (fun X => X.cell? ⟨W.heap.size, 0, none⟩ = some (.int .i64 (D : Int)) ∧ X.cell? ⟨W.heap.size, 1, none⟩ = some (.int .i64 (Z : Int)))
    (first | (refine ⟨?_, ?_⟩ <;> with_reducible assumption) | go_keep)
    (first
      | (go_at_call 68
         with_reducible refine HN.out.mono ?_
         rintro r w2 ⟨g, O, rfl, hz, u0, u1, u2⟩
         have v0 := World.new_ne _ _ u0
         have v1 := World.new_ne _ _ u1))
  all_goals
    have HZ := Lib.hid (HF.out g O w2 hz)
    clear hz HF
    go_wp2_with fail
  all_goals
    go_ret
    exact HZ.out
end
end Go.Proofs.YtpcladdipgchbaaGreatDoor.nn
namespace Go.Proofs.YtpcladdipgchbaaGreatDoor.nn
open Go.RowKit

section
variable {W W' : World} {q : Nat} {A : Option Addr} {n c D : Nat} {f : Nat → Nat} {size : Nat} {mo : Bool} {g : Nat} {O O' : Nat → Prop}
theorem Stb.on {B : Nat} {w0 : World} (hm : Stb q O W O' W') (hb : Below B w0 W) (hB : B ≤ q ∧ B ≤ W.heap.size) (hO : ∀ b, O b → B ≤ b) : Below B w0 W' :=
  ⟨hm.os.trans hb.os, hm.tape.trans hb.tape, hm.output.trans hb.output, Nat.le_trans hb.size hm.size, fun b h => (hm.kept b (by omega) (fun h' => by have := hO _ h'; omega) (fun e => by have : b = q := e; omega)).trans (hb.block b h)⟩
/-- what caught of the whole answers -/
def CwAns (q : Nat) (n : Nat) (mo : Bool) (g D B : Nat) (R : Rs Vc) (w0 : World) (e : Ending) (w' : World) : Prop :=
  Below B w0 w' ∧ ((∃ a O', whR mo n R = none ∧ R = .ok a n ∧ e = .returned (.tuple #[.int .i64 0, .int .i64 0]) ∧ Rb w' g O' (stI (newB (D : Int)) a) ∧ GoodW (stI (newB (D : Int)) a) ∧ w'.cell? ⟨q, 4, none⟩ = some (.pointer (some ⟨g, 0, none⟩)) ∧ B ≤ w'.heap.size) ∨ (∃ p er, whR mo n R = some (p, er) ∧ e = .returned (.tuple #[.int .i64 (p : Int), .int .i64 (er : Int)])))
theorem cw_any {B : Nat} {w0 : World} (h : Rdw W q A n c f size mo g 0 O (newB (D : Int))) (hD : D ≤ 64) (hb : Below B w0 W) (hB : B ≤ q ∧ B ≤ W.heap.size) (hO : ∀ b, O b → B ≤ b) :
    Calls Tryz.prog 34 #[.func (.func 40) #[.pointer (some ⟨q, 0, none⟩)] #[]] W (CwAns q n mo g D B (rdI size D 0 f n 0) w0) := by
  have hct : Below W.heap.size W (ctW W) := ((Below.refl W.heap.size W).alloc (Nat.le_refl _) _).alloc (by simp) _
  have hz : (ctW W).heap.size = W.heap.size + 2 := by unfold ctW; simp
  have h1 := h.below hct
  have hw := whole_any (d := D) h1 rfl rfl (by show 0 + D = (min (max (D : Int) 0) 64).toNat; omega)
  have hlo : ∀ b, O b → b < W.heap.size := by
    obtain ⟨K, sv, Dd, k1, _⟩ := h.t
    exact k1.lo
  have hql := h.r.b.lt
  have hR0 : (newB (D : Int)).n = 0 := rfl
  rw [hR0] at hw
  obtain ⟨R, hR⟩ : ∃ R, rdI size D 0 f n 0 = R := ⟨_, rfl⟩
  rw [hR] at hw ⊢
  have k0 : (ctW W).heap[W.heap.size]? = some (.cells #[.int .i64 0] 3 (0, 0)) := (Below.heap_alloc _ _ _ (by simp)).trans (heap_alloc_last _ _)
  have k1 : (ctW W).heap[W.heap.size + 1]? = some (.cells #[.int .i64 0] 29 (0, 0)) := by
    have := heap_alloc_last (W.alloc (.cells #[.int .i64 0] 3)) (.cells #[.int .i64 0] 29)
    have e : (W.alloc (.cells #[.int .i64 0] 3)).heap.size = W.heap.size + 1 := by simp
    rw [e] at this
    exact this
  have hkk : ∀ O' X, Stb q O (ctW W) O' X → ctK W X := fun O' X hm => by
    refine ⟨(hm.kept _ (by omega) (fun h' => by have := hlo _ h'; omega) (fun e => by have : W.heap.size = q := e; omega)).trans k0, (hm.kept _ (by omega) (fun h' => by have := hlo _ h'; omega) (fun e => by have : W.heap.size + 1 = q := e; omega)).trans k1, ?_⟩
    exact h1.l.mv hm h.z.1 (fun e => h.z.2 e.symm)
  have hbc : Below B w0 (ctW W) := hb.trans (hct.mono hB.2)
  refine (caught_whole _ (fun X => ∃ a O', whR mo n R = none ∧ R = .ok a n ∧ Stb q O (ctW W) O' X ∧ Rdw X q A n c f size mo g n O' (stI (newB (D : Int)) a)) (fun p e X => ∃ p' e' O', p = ((p' : Nat) : Int) ∧ e = ((e' : Nat) : Int) ∧ whR mo n R = some (p', e') ∧ Stb q O (ctW W) O' X) W (hw.mono ?_) (fun X ⟨a, O', _, _, hm, _⟩ => hkk O' X hm) (fun p e X ⟨p', e', O', _, _, _, hm⟩ => hkk O' X hm)).mono ?_
  · rintro r X ⟨O', hm, ⟨a, e1, e2, rfl, e3⟩ | ⟨p, e, e1, rfl⟩⟩
    · exact .inl ⟨rfl, a, O', e1, e2, hm, e3⟩
    · exact .inr ⟨_, _, rfl, p, e, O', rfl, rfl, e1, hm⟩
  · rintro e w' ⟨p, n', X, w1, rfl, hor, hw'⟩
    rcases hor with ⟨⟨a, O', e1, e2, hm, hX⟩, rfl, rfl, rfl⟩ | ⟨⟨p', e', O', rfl, rfl, e1, hm⟩, hb1⟩
    · have hbX := hm.on hbc ⟨hB.1, by omega⟩ hO
      refine ⟨ct_below hbX hB.2 hw', .inl ⟨a, O', e1, e2, rfl, ?_, hX.G, ?_, ?_⟩⟩
      · refine hX.t.keep (by rw [hw', setCell_sz, setCell_sz]; exact Nat.le_refl _) fun b hbO => ?_
        have hb2 : b ≠ W.heap.size ∧ b ≠ W.heap.size + 1 := by
          rcases hm.new b hbO with h' | h'
          · have := hlo _ h'; omega
          · omega
        rw [hw']
        exact ct_block hb2.1 hb2.2
      · have : w'.heap[q]? = w1.heap[q]? := by rw [hw']; exact ct_block (by omega) (by omega)
        have h5 := hX.r.b
        exact cell_of_row _ _ 4 _ _ _ (this.trans h5)
      · rw [hw', setCell_sz, setCell_sz]
        have := hm.size
        omega
    · have hbX := hm.on hbc ⟨hB.1, by omega⟩ hO
      have := hm.size
      exact ⟨ct_below (hbX.trans (hb1.mono (by omega))) hB.2 hw', .inr ⟨p', e', e1, rfl⟩⟩
end
end Go.Proofs.YtpcladdipgchbaaGreatDoor.nn
namespace Go.Proofs.YtpcladdipgchbaaGreatDoor.nn
open Go.RowKit

section
variable {W W' : World} {q : Nat} {A : Option Addr} {n c D N Z : Nat} {f : Nat → Nat} {g : Nat} {O O' : Nat → Prop} {Y : Bool}
/-- what Decode answers -/
def DecAns (R : VT × Nat × Nat) (w : World) (x : Ending) (w' : World) : Prop :=
  ∃ C, x = .returned (.tuple #[vv R.1 C, .int .i64 (R.2.1 : Int), .int .i64 (R.2.2 : Int)]) ∧ Lsb w.heap.size w' C R.1.l ∧ Below w.heap.size w w'
theorem dcw_yes {a : Vc} (h : rdI Z D 0 f (min N Z) 0 = .ok a (min N Z)) (hw : whR (decide (Z < N)) (min N Z) (rdI Z D 0 f (min N Z) 0) = none) : dcR D Z f N = (a.1, N, 0) := by
  rw [h] at hw
  rw [dcR_ok h, if_neg (Nat.lt_irrefl _)]
  by_cases hz : Z < N
  · exfalso
    have e : decide (Z < N) = true := by simp [hz]
    rw [e] at hw
    have : (if min N Z < min N Z then some (min N Z, 4) else if (true : Bool) = true then some (min N Z, 8) else none) = none := hw
    rw [if_neg (Nat.lt_irrefl _), if_pos rfl] at this
    cases this
  · rw [if_neg hz]
theorem dcw_no {p e : Nat} (hw : whR (decide (Z < N)) (min N Z) (rdI Z D 0 f (min N Z) 0) = some (p, e)) : dcR D Z f N = (emp, p, e) ∧ e ≠ 0 := by
  cases hR : rdI Z D 0 f (min N Z) 0 with
  | no p' e' =>
    rw [hR] at hw
    injection hw with hw
    injection hw with e1 e2
    rw [dcR_no hR, ← e1, ← e2]
    refine ⟨by unfold adj; simp, ?_⟩
    unfold adj
    rcases (rdI_un Z D 0).dt.err (Nat.zero_le _) hR with rfl | rfl | rfl
    · split <;> omega
    · split <;> omega
    · split <;> omega
  | ok a k =>
    rw [hR] at hw
    rw [dcR_ok hR]
    have hw2 : (if k < min N Z then some (k, 4) else if decide (Z < N) = true then some (k, 8) else none) = some (p, e) := hw
    by_cases hk : k < min N Z
    · rw [if_pos hk] at hw2 ⊢
      injection hw2 with hw2
      injection hw2 with e1 e2
      subst e1 e2
      exact ⟨rfl, by omega⟩
    · rw [if_neg hk] at hw2 ⊢
      by_cases hz : Z < N
      · rw [if_pos (by simp [hz])] at hw2
        rw [if_pos hz]
        injection hw2 with hw2
        injection hw2 with e1 e2
        subst e1 e2
        exact ⟨rfl, by omega⟩
      · rw [if_neg (by simp [hz])] at hw2
        cases hw2
set_option maxRecDepth 100000 in
set_option maxHeartbeats 8000000 in
theorem decode_ok (hA : Rd W .u8 A N f) (hf : ∀ j, f j < 256) (hc : N ≤ c ∧ c ≤ maxLen) (hD : D ≤ 64) (hZ : Z ≤ 1048576) (hL : Laid W) :
    Calls Tryz.prog 17 #[.slice A N c, .agg #[.int .i64 (D : Int), .int .i64 (Z : Int), .bool Y]] W (DecAns (dcR D Z f N) W) := by
  have hlw : ∀ b off, 0 < N → A = some ⟨b, off, none⟩ → b < W.heap.size := fun b off hm e => by
    obtain ⟨b', off', e', hb', _⟩ := hA hm
    rw [e] at e'
    injection e' with e'
    injection e' with e1
    omega
  have HN : Hid (∀ W', Below W.heap.size W W' → W.heap.size + 2 ≤ W'.heap.size → Calls Tryz.prog 39 #[.slice A N c, .agg #[.int .i64 (D : Int), .int .i64 (Z : Int), .bool Y]] W' fun r w' => ∃ q g O, r = .returned (.pointer (some ⟨q, 0, none⟩)) ∧ Below W'.heap.size W' w' ∧ W'.heap.size ≤ q ∧ (∀ b, O b → W'.heap.size ≤ b) ∧ Rdw w' q A (min N Z) c f Z (decide (Z < N)) g 0 O (newB (D : Int))) := Lib.hid fun W' hb _ =>
    (newr_any (Y := Y) (hA.below hb) hf hc hZ (hL.below hb)).mono fun r w' ⟨q, g, O, e1, e2, e3, e4, e5⟩ => ⟨q, g, O, e1, e2, e3, e4, e5⟩
  obtain ⟨R, hR⟩ : ∃ R, rdI Z D 0 f (min N Z) 0 = R := ⟨_, rfl⟩
  have HCW : Hid (∀ (W2 : World) q g O w3, Below W2.heap.size W2 w3 → W2.heap.size ≤ q → (∀ b, O b → W2.heap.size ≤ b) → Rdw w3 q A (min N Z) c f Z (decide (Z < N)) g 0 O (newB (D : Int)) → Calls Tryz.prog 34 #[.func (.func 40) #[.pointer (some ⟨q, 0, none⟩)] #[]] w3 (CwAns q (min N Z) (decide (Z < N)) g D W2.heap.size R W2)) := Lib.hid fun W2 q g O w3 b1 b2 b3 b4 => by
    rw [← hR]
    exact cw_any b4 hD b1 ⟨b2, b1.size⟩ b3
  have HY : Hid (∀ a, R = .ok a (min N Z) → whR (decide (Z < N)) (min N Z) R = none → dcR D Z f N = (a.1, N, 0)) := Lib.hid fun a e1 e2 => by
    rw [← hR] at e1 e2
    exact dcw_yes e1 e2
  have HO : Hid (∀ p e, whR (decide (Z < N)) (min N Z) R = some (p, e) → dcR D Z f N = (emp, p, e) ∧ e ≠ 0) := Lib.hid fun p e e1 => by
    rw [← hR] at e1
    exact dcw_no e1
  have HV : Hid (∀ g O' a w4, Rb w4 g O' (stI (newB (D : Int)) a) → GoodW (stI (newB (D : Int)) a) → ∀ W5, Below w4.heap.size w4 W5 → Calls Tryz.prog 41 #[.pointer (some ⟨g, 0, none⟩)] W5 fun r w' => ∃ C, r = .returned (.tuple #[vv a.1 C, .int .i64 0]) ∧ Lsb W5.heap.size w' C a.1.l ∧ Below W5.heap.size W5 w') := Lib.hid fun g O' a w4 h1 h2 W5 h3 => by
    obtain ⟨gs, m, c, qb, Ab, cb, hbo⟩ := (h1.below h3).bo
    exact (value_any hbo (fun t ht => Nat.le_trans (good_cnt h2 t ht) (by decide))).mono fun r w' ⟨C, e1, e2, e3⟩ => ⟨C, e1, e2, e3⟩
  clear hA hf hL hlw hR
  obtain ⟨W1, hW1⟩ : ∃ W1, W.alloc (.cells #[.int .i64 (D : Int), .int .i64 (Z : Int), .bool Y] 38) = W1 := ⟨_, rfl⟩
  obtain ⟨W2, hW2⟩ : ∃ W2, W1.alloc (.cells #[.int .i64 0, .bool false, .int .u64 0, .string ⟨#[]⟩, .slice none 0 0] 25) = W2 := ⟨_, rfl⟩
  have hb1 : Below W.heap.size W W1 := by rw [← hW1]; exact (Below.refl _ _).alloc (Nat.le_refl _) _
  have hz1 : W1.heap.size = W.heap.size + 1 := by rw [← hW1]; simp
  have hb2 : Below W.heap.size W W2 := by rw [← hW2]; exact hb1.alloc (by omega) _
  have hz2 : W2.heap.size = W.heap.size + 2 := by rw [← hW2]; simp [hz1]
  have hk2 : Bk W2 (W.heap.size + 1) 25 #[.int .i64 0, .bool false, .int .u64 0, .string ⟨#[]⟩, .slice none 0 0] := by rw [← hW2, ← hz1]; exact heap_alloc_last _ _
  have hk1 : Bk W2 W.heap.size 38 #[.int .i64 (D : Int), .int .i64 (Z : Int), .bool Y] := by
    have k1 : Bk W1 W.heap.size 38 #[.int .i64 (D : Int), .int .i64 (Z : Int), .bool Y] := by rw [← hW1]; exact heap_alloc_last _ _
    have : Below W1.heap.size W1 W2 := by rw [← hW2]; exact (Below.refl _ _).alloc (Nat.le_refl _) _
    exact k1.below this k1.lt
  obtain ⟨d0, d1, d2⟩ := hk1.c3
  have HN2 := Lib.hid (HN.out W2 hb2 (by omega))
  rw [← hz1] at hk2
  have HB2 := Lib.hid (And.intro hb2 (And.intro hz2 hk2))
  have HS1 : Hid (W.heap.size ≤ W1.heap.size) := Lib.hid hb1.size
  have l1 : decide ((D : Int) < 0) = false := decide_eq_false (by omega)
  have l2 : decide ((64 : Int) < (D : Int)) = false := decide_eq_false (by omega)
  have l3 : decide ((Z : Int) < 0) = false := decide_eq_false (by omega)
  have l4 : decide ((1048576 : Int) < (Z : Int)) = false := decide_eq_false (by omega)
  clear HN hc hD hZ hb1 hz1 hb2 hz2 hk2 hk1
  go_enter Tryz.func17, Tryz.ntmps17
  go_wp2_with fail
  first | rw [hW1] | skip
  first | rw [hW2] | skip
  clear hW1 hW2
  with_reducible refine HN2.out.mono ?_
  rintro r w3 ⟨q, g, O, rfl, hs3, hq3, hO3, h3⟩
  have HS3 := Lib.hid (And.intro hs3 (And.intro hq3 (And.intro hO3 h3)))
  clear hs3 hq3 hO3 h3 HN2
  go_wp2_with fail
  with_reducible refine Calls.mono (HCW.out W2 q g O w3 HS3.out.1 HS3.out.2.1 HS3.out.2.2.1 HS3.out.2.2.2) ?_
  rintro e w4 ⟨hb4, ⟨a, O', e1, e2, rfl, hr, hG, c4, hs4⟩ | ⟨p, er, e1, rfl⟩⟩
  · have HRv := Lib.hid (HY.out a e2 e1)
    have HV2 := Lib.hid (HV.out g O' a w4 hr hG)
    have HB4 := Lib.hid hb4
    have HD : Hid (∀ k, Below w4.heap.size w4 (w4.drewN k)) := Lib.hid fun k => dnB (Below.refl _ _) k
    have hk4 := HB2.out.2.2.below hb4 HB2.out.2.2.lt
    have HB5 : Hid (Below W.heap.size W w4) := Lib.hid (HB2.out.1.trans (hb4.mono HB2.out.1.size))
    have HK4 := Lib.hid hk4
    clear e1 e2 hr hG hs4 hb4 HV HY HO HCW HS3 hk4
    go_wp2_with fail
    with_reducible refine Calls.mono (HV2.out _ (Below.refl _ _)) ?_
    rintro r w5 ⟨C, rfl, hC, hb5⟩
    obtain ⟨A9, c9, rfl, _⟩ := hC.lst.out
    have hk5 := HK4.out.below hb5 HK4.out.lt
    obtain ⟨W6, hW6⟩ : ∃ W6, w5.alloc (.cells #[.int .i64 0, .bool false, .int .u64 0, .string ⟨#[]⟩, .slice none 0 0] 25) = W6 := ⟨_, rfl⟩
    have hb6 : Below w5.heap.size w5 W6 := by rw [← hW6]; exact (Below.refl _ _).alloc (Nat.le_refl _) _
    have hk6 : Bk W6 w5.heap.size 25 #[.int .i64 0, .bool false, .int .u64 0, .string ⟨#[]⟩, .slice none 0 0] := by rw [← hW6]; exact heap_alloc_last _ _
    have hk7 := hk5.below hb6 hk5.lt
    obtain ⟨f0, f1, f2, f3, f4⟩ := hk7.c5
    obtain ⟨ff0, ff1, ff2, ff3, ff4⟩ := hk7.f5
    obtain ⟨y0, y1, y2, y3, y4⟩ := hk6.c5
    obtain ⟨yf0, yf1, yf2, yf3, yf4⟩ := hk6.f5
    have hn1 : W1.heap.size ≠ w5.heap.size := by have := hk5.lt; omega
    have hn2 : w5.heap.size ≠ W1.heap.size := fun e => hn1 e.symm
    have hlt4 := HK4.out.lt
    have HL : Hid (∀ X : World, w5.heap.size ≤ X.heap.size → (∀ b, b ≠ w5.heap.size → b ≠ W1.heap.size → X.heap[b]? = W6.heap[b]?) → Lsb W.heap.size X (.slice A9 a.1.l.length c9) a.1.l) := Lib.hid fun X hs hX => by
      refine (hC.keep hs fun b h1 h2 => ?_).low HB5.out.size
      exact (hX b (by omega) (by omega)).trans (hb6.block b h2)
    have HB6 : Hid (Below W.heap.size W W6) := Lib.hid ((HB5.out.trans (hb5.mono HB5.out.size)).trans (hb6.mono (Nat.le_trans HB5.out.size hb5.size)))
    have HS5 : Hid (W.heap.size ≤ w5.heap.size ∧ w5.heap.size ≤ W6.heap.size) := Lib.hid ⟨Nat.le_trans HB5.out.size hb5.size, hb6.size⟩
    clear hlt4
    clear hC hb5 hk5 hb6 hk6 hk7
    unfold vv
    go_wp2_with fail
    have HP : Hid (∀ X : World, w5.heap.size ≤ X.heap.size → (∀ b, b ≠ w5.heap.size → b ≠ W1.heap.size → X.heap[b]? = W6.heap[b]?) → Below W.heap.size W X → DecAns (dcR D Z f N) W (.returned (.tuple #[.agg #[.int .i64 a.1.k, .bool a.1.g, .int .u64 (a.1.n : Int), .string a.1.s, .slice A9 a.1.l.length c9], .int .i64 (N : Int), .int .i64 0])) X) := Lib.hid fun X x1 x2 x3 => by
      rw [HRv.out]
      exact ⟨.slice A9 a.1.l.length c9, rfl, HL.out X x1 x2, x3⟩
    refine bodyPost_ret (v := .tuple #[.agg #[.int .i64 a.1.k, .bool a.1.g, .int .u64 (a.1.n : Int), .string a.1.s, .slice A9 a.1.l.length c9], .int .i64 (N : Int), .int .i64 0]) ?h1 rfl ?h2
    case h1 =>
      clear HP HL HB6 HS5
      simp [results, Tryz.results17, go_sem, f0, f1, f2, f3, f4]
    case h2 =>
      with_reducible refine HP.out _ ?_ ?_ ?_
      · simp only [setCell_sz]
        exact HS5.out.2
      · intro b n1 n2
        rw [Below.heap_setCell _ _ _ _ n2, Below.heap_setCell _ _ _ _ n2, Below.heap_setCell _ _ _ _ n2, Below.heap_setCell _ _ _ _ n2, Below.heap_setCell _ _ _ _ n2, Below.heap_setCell _ _ _ _ n1, Below.heap_setCell _ _ _ _ n1, Below.heap_setCell _ _ _ _ n1, Below.heap_setCell _ _ _ _ n1, Below.heap_setCell _ _ _ _ n1]
      · repeat (first | with_reducible exact HB6.out | with_reducible refine Below.setCell ?_ HS1.out _ | with_reducible refine Below.setCell ?_ HS5.out.1 _)
  · have HRv := Lib.hid (HO.out p er e1)
    have he : (((er : Nat) : Int) != 0) = true := by have := HRv.out.2; simp; omega
    have HB4 := Lib.hid hb4
    have hk4 := HB2.out.2.2.below hb4 HB2.out.2.2.lt
    have HB5 : Hid (Below W.heap.size W w4) := Lib.hid (HB2.out.1.trans (hb4.mono HB2.out.1.size))
    obtain ⟨f0, f1, f2, f3, f4⟩ := hk4.c5
    obtain ⟨ff0, ff1, ff2, ff3, ff4⟩ := hk4.f5
    clear e1 hb4 HV HY HO HCW HS3 hk4
    go_wp2_with fail
    exact bodyPost_ret (v := .tuple #[.agg #[.int .i64 0, .bool false, .int .u64 0, .string ⟨#[]⟩, .slice none 0 0], .int .i64 (p : Int), .int .i64 (er : Int)]) (by simp [results, Tryz.results17, go_sem, f0, f1, f2, f3, f4]) rfl ⟨.slice none 0 0, by rw [HRv.out.1]; rfl, by rw [HRv.out.1]; exact .nil_, by repeat (first | exact HB5.out | refine Below.setCell ?_ HS1.out _)⟩
end
end Go.Proofs.YtpcladdipgchbaaGreatDoor.nn
namespace Go.Proofs.YtpcladdipgchbaaGreatDoor.nn
open Go.RowKit

section
variable {W W' : World} {A : Option Addr} {c N : Nat} {Y : Bool}
set_option maxRecDepth 100000 in
set_option maxHeartbeats 8000000 in
theorem decode_arg (D Z : Int) (hl : D < 0 ∨ 64 < D ∨ Z < 0 ∨ 1048576 < Z) :
    Calls Tryz.prog 17 #[.slice A N c, .agg #[.int .i64 D, .int .i64 Z, .bool Y]] W (DecAns (emp, 0, 1) W) := by
  obtain ⟨W1, hW1⟩ : ∃ W1, W.alloc (.cells #[.int .i64 D, .int .i64 Z, .bool Y] 38) = W1 := ⟨_, rfl⟩
  obtain ⟨W2, hW2⟩ : ∃ W2, W1.alloc (.cells #[.int .i64 0, .bool false, .int .u64 0, .string ⟨#[]⟩, .slice none 0 0] 25) = W2 := ⟨_, rfl⟩
  have hb1 : Below W.heap.size W W1 := by rw [← hW1]; exact (Below.refl _ _).alloc (Nat.le_refl _) _
  have hz1 : W1.heap.size = W.heap.size + 1 := by rw [← hW1]; simp
  have hb2 : Below W.heap.size W W2 := by rw [← hW2]; exact hb1.alloc (by omega) _
  have hk2 : Bk W2 W1.heap.size 25 #[.int .i64 0, .bool false, .int .u64 0, .string ⟨#[]⟩, .slice none 0 0] := by rw [← hW2]; exact heap_alloc_last _ _
  have hk1 : Bk W2 W.heap.size 38 #[.int .i64 D, .int .i64 Z, .bool Y] := by
    have k1 : Bk W1 W.heap.size 38 #[.int .i64 D, .int .i64 Z, .bool Y] := by rw [← hW1]; exact heap_alloc_last _ _
    have : Below W1.heap.size W1 W2 := by rw [← hW2]; exact (Below.refl _ _).alloc (Nat.le_refl _) _
    exact k1.below this k1.lt
  obtain ⟨d0, d1, d2⟩ := hk1.c3
  obtain ⟨f0, f1, f2, f3, f4⟩ := hk2.c5
  obtain ⟨ff0, ff1, ff2, ff3, ff4⟩ := hk2.f5
  have HS1 : Hid (W.heap.size ≤ W1.heap.size) := Lib.hid hb1.size
  have HB2 := Lib.hid hb2
  have HP : Hid (∀ X : World, Below W.heap.size W X → DecAns (emp, 0, 1) W (.returned (.tuple #[.agg #[.int .i64 0, .bool false, .int .u64 0, .string ⟨#[]⟩, .slice none 0 0], .int .i64 0, .int .i64 1])) X) := Lib.hid fun X x3 => ⟨.slice none 0 0, rfl, .nil_, x3⟩
  have l1 : decide (D < 0) = true ∨ (decide (D < 0) = false ∧ (decide (64 < D) = true ∨ (decide (64 < D) = false ∧ (decide (Z < 0) = true ∨ (decide (Z < 0) = false ∧ decide (1048576 < Z) = true))))) := by
    simp only [decide_eq_true_eq, decide_eq_false_iff_not]
    omega
  clear hl hb1 hz1 hb2 hk2 hk1
  rcases l1 with l1 | ⟨l1, l2 | ⟨l2, l3 | ⟨l3, l4⟩⟩⟩
  all_goals
    go_enter Tryz.func17, Tryz.ntmps17
    go_wp2_with fail
    refine bodyPost_ret (v := .tuple #[.agg #[.int .i64 0, .bool false, .int .u64 0, .string ⟨#[]⟩, .slice none 0 0], .int .i64 0, .int .i64 1]) ?_ rfl ?_
    · simp [results, Tryz.results17, go_sem, f0, f1, f2, f3, f4]
    · with_reducible refine HP.out _ ?_
      repeat (first | with_reducible exact HB2.out | with_reducible refine Below.setCell ?_ HS1.out _)
end
end Go.Proofs.YtpcladdipgchbaaGreatDoor.nn
namespace Go.Proofs.YtpcladdipgchbaaGreatDoor.nn
open Go.RowKit

section
variable {W : World} {A : Option Addr} {c N : Nat} {f : Nat → Nat} {Y : Bool}
/-- what Decode answers, within any limits -/
def dcA (D Z : Int) (f : Nat → Nat) (N : Nat) : VT × Nat × Nat := if D < 0 ∨ 64 < D ∨ Z < 0 ∨ 1048576 < Z then (emp, 0, 1) else dcR D.toNat Z.toNat f N
theorem dcA_lim {D Z : Nat} (hD : D ≤ 64) (hZ : Z ≤ 1048576) : dcA (D : Int) (Z : Int) f N = dcR D Z f N := by
  unfold dcA
  rw [if_neg (by omega)]
  simp
theorem decode_any (D Z : Int) (hA : Rd W .u8 A N f) (hf : ∀ j, j < N → f j < 256) (hc : N ≤ c ∧ c ≤ maxLen) (hL : Laid W) :
    Calls Tryz.prog 17 #[.slice A N c, .agg #[.int .i64 D, .int .i64 Z, .bool Y]] W (DecAns (dcA D Z f N) W) := by
  by_cases h : D < 0 ∨ 64 < D ∨ Z < 0 ∨ 1048576 < Z
  · unfold dcA
    rw [if_pos h]
    exact decode_arg D Z h
  · obtain ⟨d, rfl⟩ := Int.eq_ofNat_of_zero_le (show 0 ≤ D by omega)
    obtain ⟨z, rfl⟩ := Int.eq_ofNat_of_zero_le (show 0 ≤ Z by omega)
    have hd : d ≤ 64 := by omega
    have hz : z ≤ 1048576 := by omega
    rw [dcA_lim hd hz]
    have e : ∀ j, j < N → (fun j => if j < N then f j else 0) j = f j := fun j hj => if_pos hj
    rw [← dcR_congr (d := d) (size := z) (f := f) (g := fun j => if j < N then f j else 0) e]
    exact decode_ok (hA.congr fun j hj => (e j hj).symm) (fun j => by
      by_cases hj : j < N
      · show (if j < N then f j else 0) < 256
        rw [if_pos hj]; exact hf j hj
      · show (if j < N then f j else 0) < 256
        rw [if_neg hj]; decide) hc hd hz hL
/-- what is answered, whatever the limits -/
theorem dcA_ways (hf : ∀ j, j < N → f j < 256) (D Z : Int) : (∃ t, dcA D Z f N = (t, N, 0) ∧ rgt t = true ∧ (dep t : Int) ≤ D ∧ dep t ≤ 64 ∧ cnt t ≤ 65536 ∧ ext t = false ∧ wfT t ∧ (N : Int) ≤ Z ∧ N ≤ 1048576 ∧ smx t ≤ N) ∨ (∃ q e, dcA D Z f N = (emp, q, e) ∧ q ≤ N ∧ (e = 1 ∨ e = 3 ∨ e = 4 ∨ e = 8) ∧ (e = 4 → q < N)) := by
  by_cases h : D < 0 ∨ 64 < D ∨ Z < 0 ∨ 1048576 < Z
  · unfold dcA
    rw [if_pos h]
    exact .inr ⟨0, 1, rfl, Nat.zero_le _, .inl rfl, fun h => (by cases h)⟩
  · obtain ⟨d, rfl⟩ := Int.eq_ofNat_of_zero_le (show 0 ≤ D by omega)
    obtain ⟨z, rfl⟩ := Int.eq_ofNat_of_zero_le (show 0 ≤ Z by omega)
    rw [dcA_lim (by omega) (by omega)]
    rcases dcR_ways hf d z with ⟨t, h1, h2, h3, h4, h5, h6, h7⟩ | ⟨q, e, h1, h2, h3, h4⟩
    · have h8 := dcR_smx (f := f) (n := N) (size := z) d
      rw [h1] at h8
      exact .inl ⟨t, h1, h2, by omega, by omega, h4, h5, h6, by omega, by omega, h8⟩
    · exact .inr ⟨q, e, h1, h2, .inr h3, h4⟩
/-- a tree that is read may be written -/
theorem read_len {t : VT} (o : Bool) (hc : cnt t ≤ 65536) (hs : smx t ≤ 1048576) : (itB o t).length ≤ 1500000000000 := by
  have h1 := itB_le o t
  have h2 := blk_smx t hs
  have h3 : cnt t * (1048576 + 6) ≤ 65536 * (1048576 + 6) := Nat.mul_le_mul_right _ hc
  omega
theorem read_chk {t : VT} (hr : rgt t = true) (hd : dep t ≤ 64) (hc : cnt t ≤ 65536) : chk t = 0 := by
  unfold chk
  rw [if_neg (by omega), if_pos hr]
/-- what was written, read within limits that may be greater: it is the tree; or there is too much of it -/
theorem back_ways {t : VT} {o : Bool} {D Z : Nat} (ha : Ats f 0 (itB o t)) (hf : ∀ j, j < (itB o t).length → f j < 256) (hd : dep t ≤ D) (hc : chk t = 0) (hx : ext t = false) (hw : wfT t) (hs : smx t < 18446744073709551616) :
    dcR D Z f (itB o t).length = (t, (itB o t).length, 0) ∧ (itB o t).length ≤ Z ∨ (∃ q e, dcR D Z f (itB o t).length = (emp, q, e) ∧ e ≠ 0) ∧ Z < (itB o t).length := by
  by_cases hz : (itB o t).length ≤ Z
  · exact .inl ⟨dcR_back ha hz hd hc hx hw hs, hz⟩
  · rcases dcR_ways hf D Z with ⟨_, _, _, _, _, _, _, h⟩ | ⟨q, e, h1, _, h3, _⟩
    · exact absurd h hz
    · exact .inr ⟨⟨q, e, h1, by omega⟩, by omega⟩
end
end Go.Proofs.YtpcladdipgchbaaGreatDoor.nn
namespace Go.Proofs.YtpcladdipgchbaaGreatDoor.nn
open Go.RowKit

set_option maxRecDepth 100000 in
theorem all11 (w : World) : Calls Tryz.prog 20 #[] w fun e w' => e = .returned (.agg #[.int .i64 64, .int .i64 1048576, .bool false]) ∧ Below w.heap.size w w' := by
  go_enter Tryz.func20, Tryz.ntmps20
  go_wp2_with fail
  exact bodyPost_ret (v := .agg #[.int .i64 64, .int .i64 1048576, .bool false]) (by simp [results, Tryz.results20, go_sem]) rfl ⟨rfl, by repeat (first | exact Below.refl _ _ | refine Below.setCell ?_ (Nat.le_refl _) _ | refine Below.alloc ?_ (Nat.le_refl _) _)⟩
/-- Decode, its answer's parts apart -/
theorem decode_parts {W : World} {A : Option Addr} {c N : Nat} {f : Nat → Nat} {Y : Bool} (D Z : Nat) (hD : D ≤ 64) (hZ : Z ≤ 1048576) (hA : Rd W .u8 A N f) (hf : ∀ j, j < N → f j < 256) (hc : N ≤ c ∧ c ≤ maxLen) (hL : Laid W) {T : VT} {q e : Nat} (hR : dcR D Z f N = (T, q, e)) :
    Calls Tryz.prog 17 #[.slice A N c, .agg #[.int .i64 (D : Int), .int .i64 (Z : Int), .bool Y]] W fun x w' => ∃ A2 c2, x = .returned (.tuple #[vv T (.slice A2 T.l.length c2), .int .i64 (q : Int), .int .i64 (e : Int)]) ∧ Lst w' (.slice A2 T.l.length c2) T.l ∧ Below W.heap.size W w' := by
  have h := decode_any (Y := Y) (D : Int) (Z : Int) hA hf hc hL
  rw [dcA_lim hD hZ] at h
  refine h.mono fun x w' ⟨C, e1, e2, e3⟩ => ?_
  rw [hR] at e1 e2
  obtain ⟨A2, c2, rfl, _⟩ := e2.lst.out
  exact ⟨A2, c2, e1, e2.lst, e3⟩
end Go.Proofs.YtpcladdipgchbaaGreatDoor.nn
