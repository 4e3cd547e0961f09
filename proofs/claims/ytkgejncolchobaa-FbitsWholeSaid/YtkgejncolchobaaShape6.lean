/- The real fbits: the shape for a width and bits; Class, Parts. -/
import Derived.Test.YtkgejncolchobaaShape5
namespace Go.Proofs.Ytkgejncolchobaa.nn
open Go.RowKit Go.Great

def z3 : Value := .agg #[.int .i64 0, .int .i64 0, .int .i64 0]
def sfV (k : Int) (x : Nat) : Value := if fits k x then sv k.toNat else z3
def SfAns (k : Int) (x : Nat) (W : World) (e : Ending) (W' : World) : Prop := e = .returned (.tuple #[sfV k x, .int .i64 (paE k x : Int)]) ∧ Below W.heap.size W W'
set_option maxRecDepth 100000 in
set_option maxHeartbeats 1000000 in
theorem shapeFor_no (k : Int) (x : Nat) (w : World) (hk : ¬ wOk k) : Calls Try.prog 27 #[.int .i64 k, .int .u64 (x : Int)] w (SfAns k x w) := by
  have HNO : Hid (¬ fits k x) := Lib.hid fun h => hk h.1
  have HS : Hid (∀ W, Calls Try.prog 39 #[.int .i64 k] W fun e w' => e = .returned (.tuple #[.agg #[.int .i64 0, .int .i64 0, .int .i64 0], .bool false]) ∧ Below W.heap.size W w') := Lib.hid fun W => by
    have h := shapeOf_any k W
    unfold soV at h
    rw [if_neg hk, decide_eq_false hk] at h
    exact h
  clear hk
  have HB := Lib.hid (Rs3.new w 58)
  go_enter Try.func27, Try.ntmps27
  go_wp2_with fail
  refine (HS.out _).mono ?_
  rintro e w1 ⟨rfl, hb⟩
  have H1 := Lib.hid (HB.out.on hb)
  obtain ⟨c0, c1, c2, f0⟩ := H1.out.all
  have hz := H1.out.z
  have hlt : ∀ o, w.heap.size < (w1.alloc o).heap.size := fun o => by rw [hsz1]; omega
  clear hb
  go_wp2_with fail
  have hne : ¬ w.heap.size = w1.heap.size := by omega
  have hblk := H1.out.blk
  refine bodyPost_ret (v := .tuple #[.agg #[.int .i64 0, .int .i64 0, .int .i64 0], .int .i64 1]) (by simp [results, Try.results27, go_sem, World.cell?, World.setCell, World.alloc, Array.getElem?_push, Array.getElem?_modify, hblk, hne]) rfl ⟨?_, ?_⟩
  · unfold sfV paE
    rw [if_neg HNO.out, if_neg HNO.out]
    rfl
  · exact (((H1.out.b.setCell (Nat.le_refl _) _).setCell (Nat.le_refl _) _).setCell (Nat.le_refl _) _).alloc (by simp [World.setCell]; omega) _
set_option maxRecDepth 100000 in
set_option maxHeartbeats 1000000 in
theorem shapeFor_16_yes (x : Nat) (w : World) (hx : x < 18446744073709551616) (h : x < 65536) : Calls Try.prog 27 #[.int .i64 16, .int .u64 (x : Int)] w (SfAns ((16 : Nat) : Int) x w) := by
  have HF : Hid (fits ((16 : Nat) : Int) x) := Lib.hid (⟨by unfold wOk; omega, fun _ => h⟩)
  have q1 : ((x : Int) / 65536 != 0) = false := by simp; omega
  clear h
  have HS : Hid (∀ W, Calls Try.prog 39 #[.int .i64 16] W fun e w' => e = .returned (.tuple #[.agg #[.int .i64 16, .int .i64 5, .int .i64 10], .bool true]) ∧ Below W.heap.size W w') := Lib.hid fun W => shapeOf_any 16 W
  have HB := Lib.hid (Rs3.new w 58)
  go_enter Try.func27, Try.ntmps27
  go_wp2_with fail
  refine (HS.out _).mono ?_
  rintro e w1 ⟨rfl, hb⟩
  have H1 := Lib.hid (HB.out.on hb)
  obtain ⟨c0, c1, c2, f0⟩ := H1.out.all
  have hz := H1.out.z
  have hlt : ∀ o, w.heap.size < (w1.alloc o).heap.size := fun o => by rw [hsz1]; omega
  clear hb
  go_wp2_with fail
  have hne : ¬ w.heap.size = w1.heap.size := by omega
  have hblk := H1.out.blk
  refine bodyPost_ret (v := .tuple #[.agg #[.int .i64 16, .int .i64 5, .int .i64 10], .int .i64 0]) (by simp [results, Try.results27, go_sem, World.cell?, World.setCell, World.alloc, Array.getElem?_push, Array.getElem?_modify, hblk, hne]) rfl ⟨?_, ?_⟩
  · unfold sfV paE
    rw [if_pos HF.out, if_pos HF.out]
    rfl
  · exact (((H1.out.b.setCell (Nat.le_refl _) _).setCell (Nat.le_refl _) _).setCell (Nat.le_refl _) _).alloc (by simp [World.setCell]; omega) _
set_option maxRecDepth 100000 in
set_option maxHeartbeats 1000000 in
theorem shapeFor_16_no (x : Nat) (w : World) (hx : x < 18446744073709551616) (h : ¬ x < 65536) : Calls Try.prog 27 #[.int .i64 16, .int .u64 (x : Int)] w (SfAns ((16 : Nat) : Int) x w) := by
  have HF : Hid (¬ fits ((16 : Nat) : Int) x) := Lib.hid (fun h' => h (h'.2 (by decide)))
  have q1 : ((x : Int) / 65536 != 0) = true := by simp; omega
  clear h
  have HS : Hid (∀ W, Calls Try.prog 39 #[.int .i64 16] W fun e w' => e = .returned (.tuple #[.agg #[.int .i64 16, .int .i64 5, .int .i64 10], .bool true]) ∧ Below W.heap.size W w') := Lib.hid fun W => shapeOf_any 16 W
  have HB := Lib.hid (Rs3.new w 58)
  go_enter Try.func27, Try.ntmps27
  go_wp2_with fail
  refine (HS.out _).mono ?_
  rintro e w1 ⟨rfl, hb⟩
  have H1 := Lib.hid (HB.out.on hb)
  obtain ⟨c0, c1, c2, f0⟩ := H1.out.all
  have hz := H1.out.z
  have hlt : ∀ o, w.heap.size < (w1.alloc o).heap.size := fun o => by rw [hsz1]; omega
  clear hb
  go_wp2_with fail
  have hne : ¬ w.heap.size = w1.heap.size := by omega
  have hblk := H1.out.blk
  refine bodyPost_ret (v := .tuple #[.agg #[.int .i64 0, .int .i64 0, .int .i64 0], .int .i64 1]) (by simp [results, Try.results27, go_sem, World.cell?, World.setCell, World.alloc, Array.getElem?_push, Array.getElem?_modify, hblk, hne]) rfl ⟨?_, ?_⟩
  · unfold sfV paE
    rw [if_neg HF.out, if_neg HF.out]
    rfl
  · exact (((H1.out.b.setCell (Nat.le_refl _) _).setCell (Nat.le_refl _) _).setCell (Nat.le_refl _) _).alloc (by simp [World.setCell]; omega) _
set_option maxRecDepth 100000 in
set_option maxHeartbeats 1000000 in
theorem shapeFor_32_yes (x : Nat) (w : World) (hx : x < 18446744073709551616) (h : x < 4294967296) : Calls Try.prog 27 #[.int .i64 32, .int .u64 (x : Int)] w (SfAns ((32 : Nat) : Int) x w) := by
  have HF : Hid (fits ((32 : Nat) : Int) x) := Lib.hid (⟨by unfold wOk; omega, fun _ => h⟩)
  have q1 : ((x : Int) / 4294967296 != 0) = false := by simp; omega
  clear h
  have HS : Hid (∀ W, Calls Try.prog 39 #[.int .i64 32] W fun e w' => e = .returned (.tuple #[.agg #[.int .i64 32, .int .i64 8, .int .i64 23], .bool true]) ∧ Below W.heap.size W w') := Lib.hid fun W => shapeOf_any 32 W
  have HB := Lib.hid (Rs3.new w 58)
  go_enter Try.func27, Try.ntmps27
  go_wp2_with fail
  refine (HS.out _).mono ?_
  rintro e w1 ⟨rfl, hb⟩
  have H1 := Lib.hid (HB.out.on hb)
  obtain ⟨c0, c1, c2, f0⟩ := H1.out.all
  have hz := H1.out.z
  have hlt : ∀ o, w.heap.size < (w1.alloc o).heap.size := fun o => by rw [hsz1]; omega
  clear hb
  go_wp2_with fail
  have hne : ¬ w.heap.size = w1.heap.size := by omega
  have hblk := H1.out.blk
  refine bodyPost_ret (v := .tuple #[.agg #[.int .i64 32, .int .i64 8, .int .i64 23], .int .i64 0]) (by simp [results, Try.results27, go_sem, World.cell?, World.setCell, World.alloc, Array.getElem?_push, Array.getElem?_modify, hblk, hne]) rfl ⟨?_, ?_⟩
  · unfold sfV paE
    rw [if_pos HF.out, if_pos HF.out]
    rfl
  · exact (((H1.out.b.setCell (Nat.le_refl _) _).setCell (Nat.le_refl _) _).setCell (Nat.le_refl _) _).alloc (by simp [World.setCell]; omega) _
set_option maxRecDepth 100000 in
set_option maxHeartbeats 1000000 in
theorem shapeFor_32_no (x : Nat) (w : World) (hx : x < 18446744073709551616) (h : ¬ x < 4294967296) : Calls Try.prog 27 #[.int .i64 32, .int .u64 (x : Int)] w (SfAns ((32 : Nat) : Int) x w) := by
  have HF : Hid (¬ fits ((32 : Nat) : Int) x) := Lib.hid (fun h' => h (h'.2 (by decide)))
  have q1 : ((x : Int) / 4294967296 != 0) = true := by simp; omega
  clear h
  have HS : Hid (∀ W, Calls Try.prog 39 #[.int .i64 32] W fun e w' => e = .returned (.tuple #[.agg #[.int .i64 32, .int .i64 8, .int .i64 23], .bool true]) ∧ Below W.heap.size W w') := Lib.hid fun W => shapeOf_any 32 W
  have HB := Lib.hid (Rs3.new w 58)
  go_enter Try.func27, Try.ntmps27
  go_wp2_with fail
  refine (HS.out _).mono ?_
  rintro e w1 ⟨rfl, hb⟩
  have H1 := Lib.hid (HB.out.on hb)
  obtain ⟨c0, c1, c2, f0⟩ := H1.out.all
  have hz := H1.out.z
  have hlt : ∀ o, w.heap.size < (w1.alloc o).heap.size := fun o => by rw [hsz1]; omega
  clear hb
  go_wp2_with fail
  have hne : ¬ w.heap.size = w1.heap.size := by omega
  have hblk := H1.out.blk
  refine bodyPost_ret (v := .tuple #[.agg #[.int .i64 0, .int .i64 0, .int .i64 0], .int .i64 1]) (by simp [results, Try.results27, go_sem, World.cell?, World.setCell, World.alloc, Array.getElem?_push, Array.getElem?_modify, hblk, hne]) rfl ⟨?_, ?_⟩
  · unfold sfV paE
    rw [if_neg HF.out, if_neg HF.out]
    rfl
  · exact (((H1.out.b.setCell (Nat.le_refl _) _).setCell (Nat.le_refl _) _).setCell (Nat.le_refl _) _).alloc (by simp [World.setCell]; omega) _
set_option maxRecDepth 100000 in
set_option maxHeartbeats 1000000 in
theorem shapeFor_64_yes (x : Nat) (w : World) (hx : x < 18446744073709551616) (_ : x < 18446744073709551616) : Calls Try.prog 27 #[.int .i64 64, .int .u64 (x : Int)] w (SfAns ((64 : Nat) : Int) x w) := by
  have HF : Hid (fits ((64 : Nat) : Int) x) := Lib.hid (⟨by unfold wOk; omega, fun h => absurd h (by decide)⟩)
  have q1 : ((x : Int) / 18446744073709551616 != 0) = false := by simp; omega
  have HS : Hid (∀ W, Calls Try.prog 39 #[.int .i64 64] W fun e w' => e = .returned (.tuple #[.agg #[.int .i64 64, .int .i64 11, .int .i64 52], .bool true]) ∧ Below W.heap.size W w') := Lib.hid fun W => shapeOf_any 64 W
  have HB := Lib.hid (Rs3.new w 58)
  go_enter Try.func27, Try.ntmps27
  go_wp2_with fail
  refine (HS.out _).mono ?_
  rintro e w1 ⟨rfl, hb⟩
  have H1 := Lib.hid (HB.out.on hb)
  obtain ⟨c0, c1, c2, f0⟩ := H1.out.all
  have hz := H1.out.z
  have hlt : ∀ o, w.heap.size < (w1.alloc o).heap.size := fun o => by rw [hsz1]; omega
  clear hb
  go_wp2_with fail
  have hne : ¬ w.heap.size = w1.heap.size := by omega
  have hblk := H1.out.blk
  refine bodyPost_ret (v := .tuple #[.agg #[.int .i64 64, .int .i64 11, .int .i64 52], .int .i64 0]) (by simp [results, Try.results27, go_sem, World.cell?, World.setCell, World.alloc, Array.getElem?_push, Array.getElem?_modify, hblk, hne]) rfl ⟨?_, ?_⟩
  · unfold sfV paE
    rw [if_pos HF.out, if_pos HF.out]
    rfl
  · exact (((H1.out.b.setCell (Nat.le_refl _) _).setCell (Nat.le_refl _) _).setCell (Nat.le_refl _) _).alloc (by simp [World.setCell]; omega) _

theorem shapeFor_any (k : Int) (x : Nat) (w : World) (hx : x < 18446744073709551616) : Calls Try.prog 27 #[.int .i64 k, .int .u64 (x : Int)] w (SfAns k x w) := by
  by_cases hk : wOk k
  · unfold wOk at hk
    rcases hk with rfl | rfl | rfl
    · by_cases h : x < 65536
      · exact shapeFor_16_yes x w hx h
      · exact shapeFor_16_no x w hx h
    · by_cases h : x < 4294967296
      · exact shapeFor_32_yes x w hx h
      · exact shapeFor_32_no x w hx h
    · exact shapeFor_64_yes x w hx hx
  · exact shapeFor_no k x w hk
theorem fits.facts {k : Int} {x : Nat} (h : fits k x) (hx : x < 18446744073709551616) : kOk k.toNat ∧ x < lim k.toNat := by
  obtain ⟨h1, h2⟩ := h
  unfold wOk at h1
  rcases h1 with rfl | rfl | rfl
  · exact ⟨.inl rfl, h2 (by decide)⟩
  · exact ⟨.inr (.inl rfl), h2 (by decide)⟩
  · exact ⟨.inr (.inr rfl), hx⟩
/-- the two ways of shapeFor -/
theorem shapeFor_yes {k : Int} {x : Nat} (W : World) (hx : x < 18446744073709551616) (h : fits k x) : Calls Try.prog 27 #[.int .i64 k, .int .u64 (x : Int)] W fun e w' => e = .returned (.tuple #[sv k.toNat, .int .i64 0]) ∧ Below W.heap.size W w' := by
  have := shapeFor_any k x W hx
  unfold SfAns sfV paE at this
  rw [if_pos h, if_pos h] at this
  exact this
theorem shapeFor_not {k : Int} {x : Nat} (W : World) (hx : x < 18446744073709551616) (h : ¬ fits k x) : Calls Try.prog 27 #[.int .i64 k, .int .u64 (x : Int)] W fun e w' => e = .returned (.tuple #[z3, .int .i64 1]) ∧ Below W.heap.size W w' := by
  have := shapeFor_any k x W hx
  unfold SfAns sfV paE at this
  rw [if_neg h, if_neg h] at this
  exact this
set_option maxRecDepth 100000 in
set_option maxHeartbeats 1000000 in
theorem fclass_any (k : Int) (x : Nat) (w : World) (hx : x < 18446744073709551616) : Calls Try.prog 10 #[.int .i64 k, .int .u64 (x : Int)] w (ClAns k x w) := by
  unfold ClAns
  by_cases hf : fits k x
  · have HS := Lib.hid (fun W => shapeFor_yes W hx hf)
    obtain ⟨hk, hl⟩ := hf.facts hx
    have e3 : paE k x = 0 := by unfold paE; rw [if_pos hf]
    have e4 : clC k x = clk k.toNat x := by unfold clC; rw [if_pos hf]; rfl
    rw [e3, e4]
    have HC := Lib.hid (fun W => class_any k.toNat x W hk hl)
    clear e3 e4 hf hk hl
    obtain ⟨R, hR⟩ : ∃ R, clk k.toNat x = R := ⟨_, rfl⟩
    rw [hR] at HC ⊢
    clear hR
    obtain ⟨K, hK⟩ : ∃ K, k.toNat = K := ⟨_, rfl⟩
    rw [hK] at HC HS
    clear hK
    unfold sv at HS HC
    go_enter Try.func10, Try.ntmps10
    go_wp2_with fail
    with_reducible refine (HS.out _).mono ?_
    rintro e w1 ⟨rfl, hb⟩
    have H1 := Lib.hid hb
    clear hb
    go_wp2_with fail
    with_reducible refine (HC.out _).mono ?_
    rintro e w2 ⟨rfl, hb⟩
    have H2 := Lib.hid ((H1.out.alloc H1.out.size _).trans (hb.mono (Nat.le_trans H1.out.size (by simp))))
    clear hb
    go_wp2_with fail
    go_ret2
    exact ⟨rfl, H2.out⟩
  · have HS := Lib.hid (fun W => shapeFor_not W hx hf)
    have e3 : paE k x = 1 := by unfold paE; rw [if_neg hf]
    have e4 : clC k x = 0 := by unfold clC; rw [if_neg hf]
    rw [e3, e4]
    clear e3 e4 hf
    unfold z3 at HS
    go_enter Try.func10, Try.ntmps10
    go_wp2_with fail
    with_reducible refine (HS.out _).mono ?_
    rintro e w1 ⟨rfl, hb⟩
    have H1 := Lib.hid hb
    clear hb
    go_wp2_with fail
    go_ret2
    exact ⟨rfl, H1.out.alloc H1.out.size _⟩
set_option maxRecDepth 100000 in
set_option maxHeartbeats 1000000 in
theorem fparts_any (k : Int) (x : Nat) (w : World) (hx : x < 18446744073709551616) :
    Calls Try.prog 12 #[.int .i64 k, .int .u64 (x : Int)] w fun e W' => e = .returned (.tuple #[.bool (paS k x), .int .i64 (paX k x : Int), .int .u64 (paF k x : Int), .int .i64 (paE k x : Int)]) ∧ Below w.heap.size w W' := by
  by_cases hf : fits k x
  · have HS := Lib.hid (fun W => shapeFor_yes W hx hf)
    obtain ⟨hk, hl⟩ := hf.facts hx
    unfold paS paX paF paE
    rw [if_pos hf, if_pos hf, if_pos hf, if_pos hf]
    have HC := Lib.hid (fun W => split_any k.toNat x W hk hl)
    clear hf hk hl
    obtain ⟨K, hK⟩ : ∃ K, k.toNat = K := ⟨_, rfl⟩
    rw [hK] at HC HS ⊢
    clear hK
    obtain ⟨S, hS⟩ : ∃ S, sg K x = S := ⟨_, rfl⟩
    obtain ⟨X, hX⟩ : ∃ X, ex K x = X := ⟨_, rfl⟩
    obtain ⟨M, hM⟩ : ∃ M, fr K x = M := ⟨_, rfl⟩
    rw [hS, hX, hM] at HC ⊢
    clear hS hX hM
    unfold sv at HS HC
    go_enter Try.func12, Try.ntmps12
    go_wp2_with fail
    with_reducible refine (HS.out _).mono ?_
    rintro e w1 ⟨rfl, hb⟩
    have H1 := Lib.hid hb
    clear hb
    go_wp2_with fail
    with_reducible refine (HC.out _).mono ?_
    rintro e w2 ⟨rfl, hb⟩
    have H2 := Lib.hid ((H1.out.alloc H1.out.size _).trans (hb.mono (Nat.le_trans H1.out.size (by simp))))
    clear hb
    go_wp2_with fail
    exact bodyPost_ret (v := .tuple #[.bool S, .int .i64 (X : Int), .int .u64 (M : Int), .int .i64 0]) (by simp [results, Try.results12, go_sem]) rfl ⟨rfl, H2.out⟩
  · have HS := Lib.hid (fun W => shapeFor_not W hx hf)
    unfold paS paX paF paE
    rw [if_neg hf, if_neg hf, if_neg hf, if_neg hf]
    clear hf
    unfold z3 at HS
    go_enter Try.func12, Try.ntmps12
    go_wp2_with fail
    with_reducible refine (HS.out _).mono ?_
    rintro e w1 ⟨rfl, hb⟩
    have H1 := Lib.hid hb
    clear hb
    go_wp2_with fail
    exact bodyPost_ret (v := .tuple #[.bool false, .int .i64 0, .int .u64 0, .int .i64 1]) (by simp [results, Try.results12, go_sem]) rfl ⟨rfl, H1.out.alloc H1.out.size _⟩
end Go.Proofs.Ytkgejncolchobaa.nn
