/- The walks of the document's long and Add. -/
import Derived.Test.YtnikoojgoiobjaaDoorRefSum
namespace Go.Proofs.YtnikoojgoiobjaaDoor.nn
open Go.RowKit

set_option maxRecDepth 100000 in
set_option maxHeartbeats 400000 in
theorem rlong_any (A : Option Addr) (n c : Nat) (AA : Nat → Option Addr) (L C : Nat → Nat) (F : Nat → Nat → Nat) (w : World) (hA : Rds w A n AA L C F) (hn : n ≤ maxLen) (hL : ∀ i, i < n → L i * 4 ≤ 140737488351232) :
    Calls Tryd.prog 35 #[.slice A n c] w fun e w' => e = .returned (.bool (lg L F n)) ∧ Below w.heap.size w w' := by
  unfold maxLen at hn
  have HL := Lib.hid hL
  clear hL
  go_enter Tryd.func35, Tryd.ntmps35
  go_wp2
  go_loopw [3] (fun s wr => ∃ i : Nat, i ≤ n ∧ s = .int .i64 i ∧ Hid (lg L F i = false) ∧ Below w.heap.size w wr) (fun s _ => n - (intOf s).toNat)
  case atStart => exact ⟨0, Nat.zero_le _, rfl, Lib.hid rfl, Below.refl _ _⟩
  case round =>
    obtain ⟨i, hi, rfl, hl, hb⟩ := hrel
    by_cases hlt : i < n
    · obtain ⟨b, off, rfl, _, hcell⟩ := (hA.below hb) (by omega)
      obtain ⟨hx, hlc, hcm, hr⟩ := hcell i hlt
      have hreach := HL.out i hlt
      clear hcell
      have hle := tr_le (F i) (L i)
      unfold maxLen at hcm
      by_cases hz : 4096 < tr (F i) (L i)
      · have H := Lib.hid (lg_yes (L := L) (F := F) (n := n) i hlt hz)
        go_wp2_with (go_at_call 26; refine (rtrim_any _ _ _ _ _ hr hlc (by omega)).mono ?_; rintro e w2 ⟨v2, rfl, hown2, hb2⟩; obtain ⟨A2, c2, rfl, _, _, _⟩ := Rd.of_own hown2)
        go_ret
        exact ⟨ret_bool H.out.symm, hb.trans (hb2.mono hb.size)⟩
      · have H := Lib.hid (lg_next hl.out hz)
        go_wp2_with (go_at_call 26; refine (rtrim_any _ _ _ _ _ hr hlc (by omega)).mono ?_; rintro e w2 ⟨v2, rfl, hown2, hb2⟩; obtain ⟨A2, c2, rfl, _, _, _⟩ := Rd.of_own hown2)
        go_roundw
        case rel => exact ⟨i + 1, by omega, by go_num, H, hb.trans (hb2.mono hb.size)⟩
        case measure => simp [intOf]; omega
    · obtain rfl : i = n := by omega
      go_wp2
      go_ret
      exact ⟨ret_bool hl.out.symm, hb⟩

/-- what holds at the head of the loop of the document's Add: the sum of the first i of the list -/
def RAddRel (w0 wr : World) (s : Value) (i : Nat) (L : Nat → Nat) (F : Nat → Nat → Nat) : Prop :=
  ∃ A n c f, s = .slice A n c ∧ Num wr A n c f (tot L F i) ∧ Below w0.heap.size w0 wr

/-- what the document's Add answers -/
def radR (n : Nat) (L : Nat → Nat) (F : Nat → Nat → Nat) : Nat := if lg L F n = true then 0 else fitR (tot L F n)
def radE (n : Nat) (L : Nat → Nat) (F : Nat → Nat → Nat) : Nat := if lg L F n = true then 2 else fitE (tot L F n)

/-- so long as nothing is too long the sum has so many limbs -/
theorem tot_lt {L : Nat → Nat} {F : Nat → Nat → Nat} {n : Nat} (hl : lg L F n = false) (lF : ∀ i, i < n → Lt (2 ^ 32) (F i) (L i)) : ∀ i, i ≤ n → tot L F i ≤ i * big := by
  intro i
  induction i with
  | zero => intro _; simp [tot]
  | succ i ih =>
    intro hi
    have h1 := ih (by omega)
    have h2 := lg_no hl i (by omega)
    have h3 := trm_short ((lF i (by omega)).mono (tr_le (F i) (L i))) h2
    rw [sm_tr] at h3
    rw [tot, Nat.add_mul]
    omega

theorem pw_s (k : Nat) : pw (k + 1) = pw k * 2 ^ 32 := pow_s (2 ^ 32) k
theorem pw_pos (k : Nat) : 0 < pw k := Nat.pow_pos (Nat.two_pow_pos 32)

theorem big_eq : big = pw 4096 := rfl

theorem num_len {w : World} {A : Option Addr} {n c : Nat} {f : Nat → Nat} {R k : Nat} (h : Num w A n c f R) (hR : R ≤ k * big) (hk : k < 2 ^ 32 * 2 ^ 32) : n ≤ 4098 := by
  rcases Nat.lt_or_ge 4098 n with h1 | h1
  · exfalso
    obtain ⟨_, _, _, _, tf, hv⟩ := h
    obtain ⟨j, rfl⟩ : ∃ j, n = j + 1 := ⟨n - 1, by omega⟩
    rcases tf with tf | tf
    · omega
    · have h2 : pw j ≤ sm (2 ^ 32) f (j + 1) := sm_ge (B := 2 ^ 32) (f := f) (n := j) (by simpa using tf)
      obtain ⟨a, ha⟩ : ∃ a, a = 4096 := ⟨_, rfl⟩
      have h3 : pw (a + 1 + 1) ≤ pw j := pw_mono (by omega)
      rw [pw_s, pw_s, ha, ← big_eq] at h3
      have h6 : 0 < big := by rw [big_eq]; exact pw_pos _
      have h5 : (k + 1) * big ≤ 2 ^ 32 * 2 ^ 32 * big := Nat.mul_le_mul_right _ hk
      rw [Nat.add_mul, Nat.mul_comm (2 ^ 32 * 2 ^ 32) big, ← Nat.mul_assoc] at h5
      generalize big = q at h3 h5 h6 hR
      omega
  · exact h1

end Go.Proofs.YtnikoojgoiobjaaDoor.nn
